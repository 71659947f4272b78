/- TaskSums: its walk. -/
import Derived.Test.YtlhfjeohhfdccaaDoorSumP
namespace Go.Proofs.YtlhfjeohhfdccaaDoor
open Go.RowKit Go.ChangeShapes Go.WideShapes Go.ChangeAt Go.Deep

set_option linter.unusedSimpArgs false in
set_option maxRecDepth 100000 in
set_option maxHeartbeats 4000000 in
theorem sums_any (n fuel : Int) (w : World) (hE : Env w) : Calls Tryd.prog 3 #[.int .i64 n, .int .i64 fuel] w fun r w' => r = .returned (.bool true) ∧ Below w.heap.size w w' := by
  have CA := talive_any w hE
  by_cases g0 : n < 0
  · go_enter Tryd.func3, Tryd.ntmps3
    go_wp2_with (go_at_call 9; go_must (with_reducible refine CA.mono ?_; (rintro e w1 ⟨rfl, hb1⟩)))
    go_ret
    exact ⟨rfl, hb1⟩
  by_cases g192 : 300 < n
  · go_enter Tryd.func3, Tryd.ntmps3
    go_wp2_with (go_at_call 9; go_must (with_reducible refine CA.mono ?_; (rintro e w1 ⟨rfl, hb1⟩)))
    go_ret
    exact ⟨rfl, hb1⟩
  by_cases g388 : fuel < 1
  · go_enter Tryd.func3, Tryd.ntmps3
    go_wp2_with (go_at_call 9; go_must (with_reducible refine CA.mono ?_; (rintro e w1 ⟨rfl, hb1⟩)))
    go_ret
    exact ⟨rfl, hb1⟩
  by_cases g585 : 5000 < fuel
  · go_enter Tryd.func3, Tryd.ntmps3
    go_wp2_with (go_at_call 9; go_must (with_reducible refine CA.mono ?_; (rintro e w1 ⟨rfl, hb1⟩)))
    go_ret
    exact ⟨rfl, hb1⟩
  obtain ⟨m, rfl⟩ : ∃ m : Nat, n = (m : Int) := ⟨n.toNat, by omega⟩
  have hm : m ≤ 300 := by omega
  have hf : 1 ≤ fuel ∧ fuel ≤ 5000 := by omega
  go_enter Tryd.func3, Tryd.ntmps3
  go_wp2_with (go_at_call 9; go_must (with_reducible refine CA.mono ?_; (rintro e wa ⟨rfl, hba0⟩); refine Hid.out ?_))
  refine Lib.hid ?_
  have hb1 := chain hba0 (alloc_below wa (.cells #[.int .i64 1, .int .i64 (m : Int), .int .i64 6, .int .i64 0, .int .i64 5, .int .i64 0, .int .i64 15, .int .i64 13, .int .i64 5, .int .i64 1, .int .i64 5, .int .i64 0, .int .i64 7, .int .i64 0, .int .i64 6, .int .i64 1, .int .i64 5, .int .i64 0, .int .i64 1, .int .i64 1, .int .i64 8, .int .i64 0, .int .i64 6, .int .i64 0, .int .i64 14, .int .i64 2, .int .i64 5, .int .i64 1, .int .i64 18, .int .i64 0] 24))
  have r1 : Reads (wa.alloc (.cells #[.int .i64 1, .int .i64 (m : Int), .int .i64 6, .int .i64 0, .int .i64 5, .int .i64 0, .int .i64 15, .int .i64 13, .int .i64 5, .int .i64 1, .int .i64 5, .int .i64 0, .int .i64 7, .int .i64 0, .int .i64 6, .int .i64 1, .int .i64 5, .int .i64 0, .int .i64 1, .int .i64 1, .int .i64 8, .int .i64 0, .int .i64 6, .int .i64 0, .int .i64 14, .int .i64 2, .int .i64 5, .int .i64 1, .int .i64 18, .int .i64 0] 24)) (some ⟨wa.heap.size, 0, none⟩) (insV (sumC (m : Int))) := reads_new wa _ _
  have C1 := one_new (some ⟨wa.heap.size, 0, none⟩) 15 15 (wa.alloc (.cells #[.int .i64 1, .int .i64 (m : Int), .int .i64 6, .int .i64 0, .int .i64 5, .int .i64 0, .int .i64 15, .int .i64 13, .int .i64 5, .int .i64 1, .int .i64 5, .int .i64 0, .int .i64 7, .int .i64 0, .int .i64 6, .int .i64 1, .int .i64 5, .int .i64 0, .int .i64 1, .int .i64 1, .int .i64 8, .int .i64 0, .int .i64 6, .int .i64 0, .int .i64 14, .int .i64 2, .int .i64 5, .int .i64 1, .int .i64 18, .int .i64 0] 24))
  clear CA hba0
  go_wp2_with (go_at_call 10; go_must (with_reducible refine C1.mono ?_; (rintro e w1 ⟨h1, rfl, hrow1, hge1, hb2⟩); refine Hid.out ?_))
  refine Lib.hid ?_
  have hb02 := chain hb1 hb2
  have hge : w.heap.size ≤ h1 := Nat.le_trans hb1.size hge1
  simp only [oneJ, JV.cells]
  have r2 := r1.below hb2
  have hba := alloc_below w1 (.cells #[.slice (some ⟨h1, 0, none⟩) 1 1, .int .i64 0, .slice none 0 0, .int .i64 100, .int .i64 50] 29)
  have hja := heap_alloc_new w1 (.cells #[.slice (some ⟨h1, 0, none⟩) 1 1, .int .i64 0, .slice none 0 0, .int .i64 100, .int .i64 50] 29)
  have hjl : w.heap.size ≤ w1.heap.size := hb02.size
  have hne : h1 ≠ w1.heap.size := fun e => by have := lt_row hrow1; omega
  have hcl : ∀ x, (some ⟨wa.heap.size, 0, none⟩ : Option Addr) = some x → x.block ≠ h1 := fun x hx => by
    cases hx
    intro e
    have e' : wa.heap.size = h1 := e
    have := hge1
    simp at this
    omega
  have hcl2 : ∀ x, (some ⟨wa.heap.size, 0, none⟩ : Option Addr) = some x → x.block ≠ w1.heap.size := fun x hx => by
    cases hx
    intro e
    have e' : wa.heap.size = w1.heap.size := e
    have := hb2.size
    simp at this
    omega
  clear C1 hb1 hb2 r1
  go_upto_region 6 with fail
  generalize w1.alloc (.cells #[.slice (some ⟨h1, 0, none⟩) 1 1, .int .i64 0, .slice none 0 0, .int .i64 100, .int .i64 50] 29) = w2 at *
  have hb03 := chain hb02 hba
  have hrow2 := heap_row hrow1 hba
  have r3 := r2.below hba
  clear hba hrow1 r2 hb02
  generalize w1.heap.size = jb at *
  have j0 : w2.cell? ⟨jb, 0, none⟩ = some (.slice (some ⟨h1, 0, none⟩) 1 1) := by simp only [World.cell?, hja]; rfl
  have z2 := cell_row (i := 2) hrow2 rfl
  have zf2 := frozen_row (i := 2) hrow2
  have hrow3 := set_row (i := 2) hrow2 (.int .i64 2)
  have hja3 : (w2.setCell ⟨h1, 2, none⟩ (.int .i64 2)).heap[jb]? = some (.cells [.slice (some ⟨h1, 0, none⟩) 1 1, .int .i64 0, .slice none 0 0, .int .i64 100, .int .i64 50].toArray 29 (0, 0)) := (heap_setCell_other _ _ _ _ hne.symm).trans hja
  have x3 := cell_row (i := 3) hja3 rfl
  have xf3 := frozen_row (i := 3) hja3
  have hja4 := set_row (i := 3) hja3 (.int .i64 fuel)
  have hrow4 : ((w2.setCell ⟨h1, 2, none⟩ (.int .i64 2)).setCell ⟨jb, 3, none⟩ (.int .i64 fuel)).heap[h1]? = _ := (heap_setCell_other _ _ _ _ hne).trans hrow3
  have r4 : Reads ((w2.setCell ⟨h1, 2, none⟩ (.int .i64 2)).setCell ⟨jb, 3, none⟩ (.int .i64 fuel)) (some ⟨wa.heap.size, 0, none⟩) (insV (sumC (m : Int))) := by
    have q1 : Reads (w2.setCells h1 2 [.int .i64 2]) _ _ := reads_setCells r3 hcl 2
    exact reads_setCells (vs := [.int .i64 fuel]) q1 hcl2 3
  have hb04 : Below w.heap.size w ((w2.setCell ⟨h1, 2, none⟩ (.int .i64 2)).setCell ⟨jb, 3, none⟩ (.int .i64 fuel)) := (hb03.setCell (p := ⟨h1, 2, none⟩) hge _).setCell (p := ⟨jb, 3, none⟩) hjl _
  go_upto_region 8 with fail
  clear j0 z2 zf2 hrow3 hja3 x3 xf3 hja hrow2 r3 hb03 hcl hcl2
  generalize ((w2.setCell ⟨h1, 2, none⟩ (.int .i64 2)).setCell ⟨jb, 3, none⟩ (.int .i64 fuel)) = w3 at *
  have hC := check_gen (f := sumF (m : Int)) (na := 0) (fuel := fuel) (tasks := 50) hf (by decide) rfl (sum_err _)
  have HJ := hide (fun (W : World) (hW : Below w3.heap.size w3 W) => job_gen (code := sumC (m : Int)) 0 2 fuel 50 none 0 0 [] (heap_row hrow4 hW) rfl (r4.below hW) rfl (.inl rfl))
  have hsm : ∀ f ∈ [sumF (m : Int)], f.code.length ≤ 1000000000 ∧ f.name.size < 4294967281 := fun f hf => by
    simp at hf
    subst hf
    exact ⟨by show (15 : Nat) ≤ _; decide, by show fnm.size < _; decide⟩
  have C2 := begin_zero _ _ [sumF (m : Int)] [] 0 (sumF (m : Int)) 2 w3 (HJ.out w3 (Below.refl _ _)) (hE.below hb04) (by simp) hsm hC rfl rfl rfl (by omega)
  rw [show ((0 : Nat) : Int) = 0 from rfl] at C2
  have y0 := cell_row (i := 0) hja4 rfl
  have y1 := cell_row (i := 1) hja4 rfl
  have y2 := cell_row (i := 2) hja4 rfl
  have y3 := cell_row (i := 3) hja4 rfl
  have y4 := cell_row (i := 4) hja4 rfl
  clear hja4 hrow4 r4
  go_wp2_with (go_at_call 11; go_must (with_reducible refine C2.mono ?_; (rintro e w4 ⟨bb, rfl, hlb, hb4⟩); refine Hid.out ?_))
  refine Lib.hid ?_
  have hbb := alloc_below w4 (.cells #[.int .i64 0, .int .i64 0, .int .i64 0, .slice none 0 0, .slice (some ⟨bb, 0, none⟩) 2 2, .int .i64 0, .bool false] 34)
  have hsb := heap_alloc_new w4 (.cells #[.int .i64 0, .int .i64 0, .int .i64 0, .slice none 0 0, .slice (some ⟨bb, 0, none⟩) 2 2, .int .i64 0, .bool false] 34)
  have hb23 := chain hb4 hbb
  have hlb5 := heap_row hlb hbb
  clear C2 hb4 hbb hlb
  go_upto_region 9 with fail
  generalize w4.alloc (.cells #[.int .i64 0, .int .i64 0, .int .i64 0, .slice none 0 0, .slice (some ⟨bb, 0, none⟩) 2 2, .int .i64 0, .bool false] 34) = w5 at *
  have hb05 := chain hb04 hb23
  obtain ⟨q, hq, hfin⟩ := sum_run m hm fuel hf
  have hrl : Reads w5 (some ⟨bb, 0, none⟩) (iV [0, 0]) := .inr ⟨bb, 0, rfl, fun j u hu => by
    rw [Nat.zero_add]
    exact cell_row (cs := iV [0, 0]) hlb5 hu⟩
  have C3 := run_Q _ _ [sumF (m : Int)] [] 0 0 0 0 0 6000 false none (some ⟨bb, 0, none⟩) 0 2 [] [0, 0] [0, 1, 0, 1, 0, 1, 2, 1, 0, 1, 2, 1, 0, 0, 1] (sumF (m : Int)) q (11 * m + 10) w5 (HJ.out w5 hb23) (hE.below hb05) (by simp) hsm (deps_gen hC (sum_deps _)) rfl rfl rfl (by omega) (by show ((0 : Nat) : Int) ≤ fuel; omega) (by simp) (.inl rfl) hrl (fun _ => ⟨rfl, rfl⟩) (fun e => by cases e) (by simp) (by simp) (fun e => by cases e) hq
  unfold RunQ at C3
  simp only [List.length_nil, List.length_cons] at C3
  rw [show ((0 : Nat) : Int) = 0 from rfl] at C3
  have HF := hide hfin
  replace y0 := keep_cell y0 hb23
  replace y1 := keep_cell y1 hb23
  replace y2 := keep_cell y2 hb23
  replace y3 := keep_cell y3 hb23
  replace y4 := keep_cell y4 hb23
  have s0 : w5.cell? ⟨w4.heap.size, 0, none⟩ = some (.int .i64 0) := by simp only [World.cell?, hsb]; rfl
  have s1 : w5.cell? ⟨w4.heap.size, 1, none⟩ = some (.int .i64 0) := by simp only [World.cell?, hsb]; rfl
  have s2 : w5.cell? ⟨w4.heap.size, 2, none⟩ = some (.int .i64 0) := by simp only [World.cell?, hsb]; rfl
  have s3 : w5.cell? ⟨w4.heap.size, 3, none⟩ = some (.slice none 0 0) := by simp only [World.cell?, hsb]; rfl
  have s4 : w5.cell? ⟨w4.heap.size, 4, none⟩ = some (.slice (some ⟨bb, 0, none⟩) 2 2) := by simp only [World.cell?, hsb]; rfl
  have s5 : w5.cell? ⟨w4.heap.size, 5, none⟩ = some (.int .i64 0) := by simp only [World.cell?, hsb]; rfl
  have s6 : w5.cell? ⟨w4.heap.size, 6, none⟩ = some (.bool false) := by simp only [World.cell?, hsb]; rfl
  clear hsb hb23 hq hfin HJ hC hsm hrl hlb5
  generalize finM q = p at C3 HF
  obtain ⟨pfn, ppc, pfu, psk, plo, pkd, pwt, pek, pef, pei, pes, par, per, pev⟩ := p
  simp only at C3 HF
  generalize w4.heap.size = sb at *
  go_wp2_with (go_at_call 12; go_must (with_reducible refine C3.mono ?_; (rintro e w6 ⟨sa', sc', la', lc', aa', ac', rfl, q1, n1, q2, n2, q3, n3, hbk, hb6⟩); refine Hid.out ?_))
  refine Lib.hid ?_
  have hb06 := chain hb05 hb6
  clear C3 y0 y1 y2 y3 y4 s0 s1 s2 s3 s4 s5 s6 hb6 hb05 q1 n1 q2 n2 q3 n3 hbk
  have HBZ := hide (show Below w.heap.size w ((w6.alloc (.cells #[.int .i64 (pfn : Int), .int .i64 (ppc : Int), .int .i64 (pfu : Int), .slice sa' psk.length sc', .slice la' plo.length lc', .int .i64 pkd, .bool pwt] 34)).alloc (.cells #[.int .i64 pek, .int .i64 pef, .int .i64 pei, .int .i64 (pes : Int), .slice aa' par.length ac', .int .i64 per, .int .i64 pev] 41)) from (hb06.alloc hb06.size _).alloc (by have := hb06.size; simp; omega) _)
  have hez : ((w6.alloc (.cells #[.int .i64 (pfn : Int), .int .i64 (ppc : Int), .int .i64 (pfu : Int), .slice sa' psk.length sc', .slice la' plo.length lc', .int .i64 pkd, .bool pwt] 34)).alloc (.cells #[.int .i64 pek, .int .i64 pef, .int .i64 pei, .int .i64 (pes : Int), .slice aa' par.length ac', .int .i64 per, .int .i64 pev] 41)).heap[w6.heap.size + 1]? = some (.cells [.int .i64 pek, .int .i64 pef, .int .i64 pei, .int .i64 (pes : Int), .slice aa' par.length ac', .int .i64 per, .int .i64 pev].toArray 41 (0, 0)) := by
    have := heap_alloc_new (w6.alloc (.cells #[.int .i64 (pfn : Int), .int .i64 (ppc : Int), .int .i64 (pfu : Int), .slice sa' psk.length sc', .slice la' plo.length lc', .int .i64 pkd, .bool pwt] 34)) (.cells #[.int .i64 pek, .int .i64 pef, .int .i64 pei, .int .i64 (pes : Int), .slice aa' par.length ac', .int .i64 per, .int .i64 pev] 41)
    simpa using this
  go_upto_region 10 with fail
  generalize ((w6.alloc (.cells #[.int .i64 (pfn : Int), .int .i64 (ppc : Int), .int .i64 (pfu : Int), .slice sa' psk.length sc', .slice la' plo.length lc', .int .i64 pkd, .bool pwt] 34)).alloc (.cells #[.int .i64 pek, .int .i64 pef, .int .i64 pei, .int .i64 (pes : Int), .slice aa' par.length ac', .int .i64 per, .int .i64 pev] 41)) = w7 at *
  generalize w6.heap.size = tb at *
  have e0 := cell_row (i := 0) hez rfl
  have e3 := cell_row (i := 3) hez rfl
  have e5 := cell_row (i := 5) hez rfl
  have e6 := cell_row (i := 6) hez rfl
  have TN := tnum_any
  obtain ⟨rfl, f1⟩ := HF.out
  have HT := hide (tri_two m)
  clear hez hb06 HF hb04
  by_cases hfm : fuel < 6 + 11 * (m : Int)
  · rw [if_pos hfm] at f1
    obtain ⟨rfl, f2, rfl⟩ := f1
    rw [f2] at e3
    have hff : (fuel == fuel) = true := by simp
    clear f2
    go_wp2_with (go_at_call 13; go_must (with_reducible refine (TN _ _).mono ?_; (rintro e w9 ⟨rfl, rfl⟩)))
    go_ret
    exact ⟨rfl, HBZ.out⟩
  · rw [if_neg hfm] at f1
    obtain ⟨rfl, rfl, f2⟩ := f1
    rw [f2] at e3
    clear f2
    have ht : ((m : Int) * ((m : Int) + 1)).tdiv 2 = (tri m : Int) := by
      have h2 : (m : Int) * ((m : Int) + 1) = 2 * (tri m : Int) := by
        have := HT.out
        have h3 : ((2 * tri m : Nat) : Int) = ((m * (m + 1) : Nat) : Int) := by rw [this]
        rw [Int.natCast_mul, Int.natCast_mul, Int.natCast_add] at h3
        simpa using h3.symm
      rw [h2]
      exact Int.mul_tdiv_cancel_left _ (by decide)
    have hmm : (m : Int) * ((m : Int) + 1) ≤ 90300 := by
      have h5 : (m : Int) * ((m : Int) + 1) ≤ 300 * 301 := Int.mul_le_mul (by omega) (by omega) (by omega) (by omega)
      omega
    have hm0 : 0 ≤ (m : Int) * ((m : Int) + 1) := Int.mul_nonneg (by omega) (by omega)
    have hw1 : wrap64 ((m : Int) * ((m : Int) + 1)) = (m : Int) * ((m : Int) + 1) := wrap64_id (by omega)
    have hw2 : wrap64 (((m : Int) * ((m : Int) + 1)).tdiv 2) = (tri m : Int) := by
      rw [ht]
      have := tri_le m hm
      exact wrap64_id (by omega)
    clear hmm hm0 ht HT
    generalize (tri m : Int) = tm at *
    have htt : (tm == tm) = true := by simp
    go_upto_region 15 with (go_at_call 13; go_must (with_reducible refine (TN _ _).mono ?_; (rintro e w9 ⟨rfl, rfl⟩)))
    go_wp2_with (go_at_call 13; go_must (with_reducible refine (TN _ _).mono ?_; (rintro e w9 ⟨rfl, rfl⟩)))
    go_ret
    exact ⟨rfl, HBZ.out⟩
end Go.Proofs.YtlhfjeohhfdccaaDoor
