/- The first view, both. -/
import Derived.Test.YthjkfpcbbjmclaaWoA
namespace Go.Proofs.Ythjkfpcbbjmclaa
open Go.RowKit Go.ChangeShapes Go.WideShapes Go.ChangeAt Go.Deep

theorem fi_no {n : Int} (h : ¬ (1 ≤ n ∧ n ≤ 16)) : fiE n = 1 ∧ fiP n = 0 ∧ fiM n = [] := by simp [fiE, fiP, fiM, h]
theorem fi_yes {n : Int} (h : 1 ≤ n ∧ n ≤ 16) : fiE n = 0 ∧ fiP n = 1 ∧ fiM n = fiL n.toNat := by simp [fiE, fiP, fiM, h]

set_option linter.unusedSimpArgs false in
set_option maxRecDepth 100000 in
set_option maxHeartbeats 4000000 in
/-- view.First. -/
theorem first_any (n : Int) (w : World) : Calls Try.prog 14 #[.int .i64 n] w (VwPost w (fiP n) (fiE n) (fiM n)) := by
  have HB := hide (below_new w (.cells #[.int .i64 0, .slice none 0 0] 24))
  have HX := hide (BoxL.new w [.int .i64 0, .slice none 0 0] 24)
  obtain ⟨V, hV⟩ : ∃ V, V = w.alloc (.cells #[.int .i64 0, .slice none 0 0] 24) := ⟨_, rfl⟩
  have HX := hide (show BoxL V w.heap.size [.int .i64 0, .slice none 0 0] by rw [hV]; exact HX.out)
  rw [← hV] at HB
  have HS := hide (show V.heap.size = w.heap.size + 1 by rw [hV]; simp)
  have HV := hide hV
  clear hV
  by_cases hn : 1 ≤ n ∧ n ≤ 16
  · obtain ⟨e1, e2, e3⟩ := fi_yes hn
    rw [e1, e2, e3]
    clear e1 e2 e3
    obtain ⟨m, rfl⟩ : ∃ m : Nat, n = (m : Int) := ⟨n.toNat, by omega⟩
    have hm : 1 ≤ m ∧ m ≤ 16 := by omega
    have q1 : ¬ (m : Int) < 1 := by omega
    have q2 : ¬ (16 : Int) < (m : Int) := by omega
    rw [Int.toNat_natCast]
    clear hn
    go_enter Try.func14, Try.ntmps14
    go_upto_region 1 with fail
    rw [← HV.out]
    go_wp2
    go_loopw [4, 14] (fun s i wr => Hid (Below V.heap.size V wr) ∧ ∃ (k : Nat), k ≤ m ∧ i = .int .i64 (k : Nat) ∧ Hid (Own V.heap.size wr s k (fiL k))) (fun _ i _ => m - (intOf i).toNat)
    case atStart => exact ⟨hide (Below.refl _ _), 0, Nat.zero_le _, rfl, hide (Own.nil _ _)⟩
    case round =>
      obtain ⟨hbw, k, hk, rfl, hO⟩ := hrel
      obtain ⟨sa, sc, rfl⟩ := hO.out.open
      by_cases hlt : k < m
      · have hlt' : (k : Int) < (m : Int) := by omega
        have HO2 := hide (show Own V.heap.size (wr.alloc (.cells #[.int .i64 (k : Int), .int .i64 1] 41)) (.slice sa k sc) k (fiL k) from hO.out.below (below_new _ _))
        have HRD := hide (show Reads (wr.alloc (.cells #[.int .i64 (k : Int), .int .i64 1] 41)) (some ⟨wr.heap.size, 0, none⟩) (mV [((k : Int), 1)]) from reads_new wr (mV [((k : Int), 1)]) 41)
        have HBN := hide (hbw.out.alloc hbw.out.size (.cells #[.int .i64 (k : Int), .int .i64 1] 41))
        have HLT := hide (World.ownsRow.lt (show World.ownsRow _ _ _ _ _ _ _ from hO.out))
        go_wp2_with (at_builtin; go_must (refine append_m rfl (.tmp 17) (.tmp 20) rfl V.heap.size (.slice sa k sc) k (fiL k) rfl HO2.out (some ⟨wr.heap.size, 0, none⟩) 1 1 [((k : Int), 1)] rfl (fun h => by cases h) rfl HRD.out (by omega) HBN.out.size ?_; intro v' w1 ho hg; have HO3 := hide ho; have HG := hide hg; clear ho hg))
        go_roundw
        case rel => exact ⟨hide (HBN.out.grown HG.out HBN.out.size (fun j hj => (HLT.out j hj).1)), k + 1, by omega, by go_num, hide (by rw [fiL_succ]; exact HO3.out)⟩
        case measure => simp [intOf]; omega
      · obtain rfl : k = m := by omega
        have HZ := hide ((HX.out.below hbw.out).put2 (.int .i64 1) (.slice sa k sc))
        have HW := hide (below_put2 (HB.out.trans (hbw.out.mono HB.out.size)) (g := w.heap.size) (Nat.le_refl _) (.int .i64 1) (.slice sa k sc))
        have HO3 := hide ((hO.out.put2 (g := w.heap.size) (by have := HS.out; omega) (.int .i64 1) (.slice sa k sc)).mono HB.out.size)
        obtain ⟨⟨x0, x1⟩, x2, x3⟩ := (HX.out.below hbw.out).c2
        go_wp2
        generalize (wr.setCell ⟨w.heap.size, 0, none⟩ (.int .i64 1)).setCell ⟨w.heap.size, 1, none⟩ (.slice sa k sc) = X at HZ HW HO3 ⊢
        obtain ⟨⟨z0, z1⟩, -⟩ := HZ.out.c2
        refine bodyPost_ret (v := vw 1 (.slice sa k sc) 0) (by simp [results, Try.results14, go_sem, z0, z1]) rfl ?_
        exact ⟨_, rfl, by rw [fiL_len]; exact HO3.out, HW.out⟩
  · obtain ⟨e1, e2, e3⟩ := fi_no hn
    rw [e1, e2, e3]
    clear e1 e2 e3
    have HZ := hide (HX.out.put2 (.int .i64 0) (.slice none 0 0))
    have HW := hide (below_put2 HB.out (g := w.heap.size) (Nat.le_refl _) (.int .i64 0) (.slice none 0 0))
    obtain ⟨⟨x0, x1⟩, x2, x3⟩ := HX.out.c2
    by_cases h1 : n < 1
    · clear hn
      go_enter Try.func14, Try.ntmps14
      go_upto_region 1 with fail
      rw [← HV.out]
      go_wp2
      generalize (V.setCell ⟨w.heap.size, 0, none⟩ (.int .i64 0)).setCell ⟨w.heap.size, 1, none⟩ (.slice none 0 0) = X at HZ HW ⊢
      obtain ⟨⟨z0, z1⟩, -⟩ := HZ.out.c2
      refine bodyPost_ret (v := vw 0 (.slice none 0 0) 1) (by simp [results, Try.results14, go_sem, z0, z1]) rfl ?_
      exact ⟨_, rfl, Own.nil _ _, HW.out⟩
    · have h2 : 16 < n := by omega
      clear hn
      go_enter Try.func14, Try.ntmps14
      go_upto_region 1 with fail
      rw [← HV.out]
      go_wp2
      generalize (V.setCell ⟨w.heap.size, 0, none⟩ (.int .i64 0)).setCell ⟨w.heap.size, 1, none⟩ (.slice none 0 0) = X at HZ HW ⊢
      obtain ⟨⟨z0, z1⟩, -⟩ := HZ.out.c2
      refine bodyPost_ret (v := vw 0 (.slice none 0 0) 1) (by simp [results, Try.results14, go_sem, z0, z1]) rfl ?_
      exact ⟨_, rfl, Own.nil _ _, HW.out⟩
end Go.Proofs.Ythjkfpcbbjmclaa
