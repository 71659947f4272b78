/- The first view: the document's. -/
import Derived.Test.YthjkfpcbbjmclaaFst
namespace Go.Proofs.Ythjkfpcbbjmclaa
open Go.RowKit Go.ChangeShapes Go.WideShapes Go.ChangeAt Go.Deep

theorem BoxL.keepB {w w' : World} {g T : Nat} {xs : List Value} (h : BoxL w g xs) (hb : Below T w w') (hg : g < T) : BoxL w' g xs := h.keep hb.size (hb.block g hg)
/-- A view that is built up in a box: the box at g1, the result's at g0, the row behind T. -/
structure Bld (w wr : World) (g0 g1 T : Nat) (ep : Int) (v : Value) (n : Nat) (l : List Mb) : Prop where
  bl : Below w.heap.size w wr
  sz : T ≤ wr.heap.size
  b0 : BoxL wr g0 [.int .i64 0, .slice none 0 0]
  b1 : BoxL wr g1 [.int .i64 ep, v]
  row : Own T wr v n l
  lo : w.heap.size ≤ g0 ∧ g0 < g1 ∧ g1 < T
theorem Bld.below {w wr w' : World} {g0 g1 T : Nat} {ep : Int} {v : Value} {n : Nat} {l : List Mb} (h : Bld w wr g0 g1 T ep v n l) (hb : Below wr.heap.size wr w') : Bld w w' g0 g1 T ep v n l :=
  ⟨h.bl.trans (hb.mono h.bl.size), Nat.le_trans h.sz hb.size, h.b0.below hb, h.b1.below hb, h.row.below hb, h.lo⟩
/-- One member more is appended, and the row stored. -/
theorem Bld.more {w wr w1 : World} {g0 g1 T : Nat} {ep : Int} {v v' : Value} {n : Nat} {l l' : List Mb} (h : Bld w wr g0 g1 T ep v n l) (ho : Own T w1 v' (n + 1) l') (hg : wr.grownBy w1 v.ownBlock) :
    Bld w (w1.setCell ⟨g1, 1, none⟩ v') g0 g1 T ep v' (n + 1) l' := by
  have hb : Below T wr w1 := (Below.refl T wr).grown hg h.sz (fun k hk => (World.ownsRow.lt h.row k hk).1)
  have hlo := h.lo
  have h0 := h.b0.keepB hb (by omega)
  have h1 := (h.b1.keepB hb (by omega)).put 1 v'
  refine ⟨?_, ?_, ?_, h1, ownsRow_setCell_below ho (by show g1 < T; omega) v', hlo⟩
  · exact (h.bl.trans (hb.mono (by omega))).trans (below_cell (by omega) v')
  · have := hb.size; have := h.sz; simp [World.setCell]; omega
  · exact h0.grown (grown_setCell _ _ _ _) (by omega)

set_option linter.unusedSimpArgs false in
set_option maxRecDepth 100000 in
set_option maxHeartbeats 4000000 in
/-- gleanerref14.First. -/
theorem rfirst_any (n : Int) (w : World) : Calls Try.prog 15 #[.int .i64 n] w (VwPost w (fiP n) (fiE n) (fiM n)) := by
  have HB := hide (below_new w (.cells #[.int .i64 0, .slice none 0 0] 24))
  have HX := hide (BoxL.new w [.int .i64 0, .slice none 0 0] 24)
  obtain ⟨V, hV⟩ : ∃ V, V = w.alloc (.cells #[.int .i64 0, .slice none 0 0] 24) := ⟨_, rfl⟩
  have HX := hide (show BoxL V w.heap.size [.int .i64 0, .slice none 0 0] by rw [hV]; exact HX.out)
  rw [← hV] at HB
  have HS := hide (show V.heap.size = w.heap.size + 1 by rw [hV]; simp)
  have HV := hide hV
  clear hV
  by_cases hn : 1 ≤ n ∧ n ≤ 16
  · obtain ⟨e1, e2, e3⟩ := fi_yes hn
    rw [e1, e2, e3]
    clear e1 e2 e3
    obtain ⟨m, rfl⟩ : ∃ m : Nat, n = (m : Int) := ⟨n.toNat, by omega⟩
    have hm : 1 ≤ m ∧ m ≤ 16 := by omega
    have q1 : ¬ (m : Int) < 1 := by omega
    have q2 : ¬ (16 : Int) < (m : Int) := by omega
    rw [Int.toNat_natCast]
    clear hn
    go_enter Try.func15, Try.ntmps15
    go_upto_region 1 with fail
    rw [← HV.out]
    go_upto_region 4 with fail
    have HBD := hide (show Bld w (V.alloc (.cells #[.int .i64 1, .slice none 0 0] 24)) w.heap.size V.heap.size (V.heap.size + 1) 1 (.slice none 0 0) 0 [] from
      ⟨HB.out.trans ((below_new V _).mono HB.out.size), by simp, HX.out.below (below_new V _), BoxL.new V [.int .i64 1, .slice none 0 0] 24, Own.nil _ _, by have := HS.out; omega⟩)
    generalize V.alloc (.cells #[.int .i64 1, .slice none 0 0] 24) = V2 at HBD ⊢
    go_wp2
    go_loopw [5] (fun i wr => ∃ (k : Nat) (v : Value), k ≤ m ∧ i = .int .i64 (k : Nat) ∧ Hid (Bld w wr w.heap.size V.heap.size (V.heap.size + 1) 1 v k (fiL k))) (fun i _ => m - (intOf i).toNat)
    case atStart => exact ⟨0, _, Nat.zero_le _, rfl, HBD⟩
    case round =>
      clear HBD
      obtain ⟨k, v, hk, rfl, hD⟩ := hrel
      obtain ⟨sa, sc, rfl⟩ := hD.out.row.open
      obtain ⟨⟨y0, y1⟩, y2, y3⟩ := hD.out.b1.c2
      by_cases hlt : k < m
      · have hlt' : (k : Int) < (m : Int) := by omega
        have HD2 := hide (hD.out.below (below_new wr (.cells #[.int .i64 (k : Int), .int .i64 1] 41)))
        have HRD := hide (show Reads (wr.alloc (.cells #[.int .i64 (k : Int), .int .i64 1] 41)) (some ⟨wr.heap.size, 0, none⟩) (mV [((k : Int), 1)]) from reads_new wr (mV [((k : Int), 1)]) 41)
        clear hD
        go_wp2_with (at_builtin; go_must (refine append_m rfl (.tmp 20) (.tmp 23) rfl (V.heap.size + 1) (.slice sa k sc) k (fiL k) rfl HD2.out.row (some ⟨wr.heap.size, 0, none⟩) 1 1 [((k : Int), 1)] rfl (fun h => by cases h) rfl HRD.out (by omega) HD2.out.sz ?_; intro v' w1 ho hg; obtain ⟨a', c', rfl⟩ := ho.open; have HM := hide (HD2.out.more ho hg); have hlo := HD2.out.lo; obtain ⟨⟨z0, z1⟩, z2, z3⟩ := (HD2.out.b1.keepB ((Below.refl _ _).grown hg HD2.out.sz (fun j hj => (World.ownsRow.lt HD2.out.row j hj).1)) hlo.2.2).c2; clear ho hg hlo))
        go_roundw
        case rel => exact ⟨k + 1, _, by omega, by go_num, hide (by rw [fiL_succ]; exact HM.out)⟩
        case measure => simp [intOf]; omega
      · obtain rfl : k = m := by omega
        have HZ := hide (hD.out.b0.put2 (.int .i64 1) (.slice sa k sc))
        have HW := hide (below_put2 hD.out.bl (g := w.heap.size) (Nat.le_refl _) (.int .i64 1) (.slice sa k sc))
        have HO3 := hide ((hD.out.row.put2 (g := w.heap.size) (by have := HS.out; omega) (.int .i64 1) (.slice sa k sc)).mono (show w.heap.size ≤ V.heap.size + 1 by have := HS.out; omega))
        obtain ⟨⟨x0, x1⟩, x2, x3⟩ := hD.out.b0.c2
        clear hD
        go_wp2
        generalize (wr.setCell ⟨w.heap.size, 0, none⟩ (.int .i64 1)).setCell ⟨w.heap.size, 1, none⟩ (.slice sa k sc) = X at HZ HW HO3 ⊢
        obtain ⟨⟨z0, z1⟩, -⟩ := HZ.out.c2
        refine bodyPost_ret (v := vw 1 (.slice sa k sc) 0) (by simp [results, Try.results15, go_sem, z0, z1]) rfl ?_
        exact ⟨_, rfl, by rw [fiL_len]; exact HO3.out, HW.out⟩
  · obtain ⟨e1, e2, e3⟩ := fi_no hn
    rw [e1, e2, e3]
    clear e1 e2 e3
    have HZ := hide (HX.out.put2 (.int .i64 0) (.slice none 0 0))
    have HW := hide (below_put2 HB.out (g := w.heap.size) (Nat.le_refl _) (.int .i64 0) (.slice none 0 0))
    obtain ⟨⟨x0, x1⟩, x2, x3⟩ := HX.out.c2
    by_cases h1 : n < 1
    · clear hn
      go_enter Try.func15, Try.ntmps15
      go_upto_region 1 with fail
      rw [← HV.out]
      go_wp2
      generalize (V.setCell ⟨w.heap.size, 0, none⟩ (.int .i64 0)).setCell ⟨w.heap.size, 1, none⟩ (.slice none 0 0) = X at HZ HW ⊢
      obtain ⟨⟨z0, z1⟩, -⟩ := HZ.out.c2
      refine bodyPost_ret (v := vw 0 (.slice none 0 0) 1) (by simp [results, Try.results15, go_sem, z0, z1]) rfl ?_
      exact ⟨_, rfl, Own.nil _ _, HW.out⟩
    · have h2 : 16 < n := by omega
      clear hn
      go_enter Try.func15, Try.ntmps15
      go_upto_region 1 with fail
      rw [← HV.out]
      go_wp2
      generalize (V.setCell ⟨w.heap.size, 0, none⟩ (.int .i64 0)).setCell ⟨w.heap.size, 1, none⟩ (.slice none 0 0) = X at HZ HW ⊢
      obtain ⟨⟨z0, z1⟩, -⟩ := HZ.out.c2
      refine bodyPost_ret (v := vw 0 (.slice none 0 0) 1) (by simp [results, Try.results15, go_sem, z0, z1]) rfl ?_
      exact ⟨_, rfl, Own.nil _ _, HW.out⟩
end Go.Proofs.Ythjkfpcbbjmclaa
