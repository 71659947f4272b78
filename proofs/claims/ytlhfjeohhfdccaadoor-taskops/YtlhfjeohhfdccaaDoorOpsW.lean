/- TaskOps: its walk. -/
import Derived.Test.YtlhfjeohhfdccaaDoorPlyG
namespace Go.Proofs.YtlhfjeohhfdccaaDoor
open Go.RowKit Go.ChangeShapes Go.WideShapes Go.ChangeAt Go.Deep

def opsC (op a b : Int) : List (Int × Int) := [(1, a), (1, b), (op, 0), (18, 0)]
theorem ops_one (op a b : Int) (h : 7 ≤ op ∧ op ≤ 13) : oneL (opsC op a b) = (0, 0, 0) := by
  rcases (by omega : op = 7 ∨ op = 8 ∨ op = 9 ∨ op = 10 ∨ op = 11 ∨ op = 12 ∨ op = 13) with rfl | rfl | rfl | rfl | rfl | rfl | rfl <;> kernel_rfl
theorem ops_deps (op a b : Int) (h : 7 ≤ op ∧ op ≤ 13) : depsOf (oneF (opsC op a b)) 0 0 100 50 0 = [0, 1, 2, 1] := by
  rcases (by omega : op = 7 ∨ op = 8 ∨ op = 9 ∨ op = 10 ∨ op = 11 ∨ op = 12 ∨ op = 13) with rfl | rfl | rfl | rfl | rfl | rfl | rfl <;> kernel_rfl
theorem ops_run (op a b : Int) (h : 7 ≤ op ∧ op ≤ 13) : ∃ q, runW (oneF (opsC op a b)) 100 0 100 5 ⟨0, 0, 0, [], [], 0, false, 0, 0, 0, 0, [], 0, 0⟩ = some q ∧ (finM q).ek = 3 ∧ (finM q).er = (match rekL op a b with | some _ => 0 | none => 20) ∧ (finM q).ev = (match rekL op a b with | some v => v | none => 0) := by
  have hp : plL op 0 [b, a] = some ((rekL op a b).map (· :: [])) := by
    unfold plL
    rw [if_neg (by omega), if_neg (by omega), if_neg (by omega), if_neg (by omega), if_pos h]
  have t1 : stepM (oneF (opsC op a b)) 100 0 ⟨0, 0, 0, [], [], 0, false, 0, 0, 0, 0, [], 0, 0⟩ = some (⟨0, 1, 1, [a], [], 0, false, 0, 0, 0, 1, [], 0, 0⟩, none) := rfl
  have t2 : stepM (oneF (opsC op a b)) 100 0 ⟨0, 1, 1, [a], [], 0, false, 0, 0, 0, 1, [], 0, 0⟩ = some (⟨0, 2, 2, [b, a], [], 0, false, 0, 0, 0, 2, [], 0, 0⟩, none) := rfl
  have t3 : stepM (oneF (opsC op a b)) 100 0 ⟨0, 2, 2, [b, a], [], 0, false, 0, 0, 0, 2, [], 0, 0⟩ = doM (oneF (opsC op a b)) 0 ⟨0, 2, 3, [b, a], [], 0, false, 0, 0, 0, 3, [], 0, 0⟩ op 0 := rfl
  have d3 : doM (oneF (opsC op a b)) 0 ⟨0, 2, 3, [b, a], [], 0, false, 0, 0, 0, 3, [], 0, 0⟩ op 0 = (match (rekL op a b).map (· :: []) with | some sk' => some (⟨0, 3, 3, sk', [], 0, false, 0, 0, 0, 3, [], 0, 0⟩, none) | none => some (⟨0, 2, 3, [b, a], [], 0, false, 0, 0, 0, 3, [], 0, 0⟩, some (20, 0))) := by
    unfold doM
    simp only
    rw [if_neg (by omega), if_neg (by omega), if_neg (by omega), if_neg (by omega), if_neg (by omega), if_neg (by omega), if_neg (by omega), if_neg (by omega), hp]
    cases rekL op a b <;> rfl
  show ∃ q, runM (oneF (opsC op a b)) 100 0 100 5 ⟨0, 0, 0, [], [], 0, false, 0, 0, 0, 0, [], 0, 0⟩ = some q ∧ _
  unfold runM
  rw [if_pos (by decide), t1]
  simp only
  unfold runM
  rw [if_pos ⟨rfl, by show ((1 : Nat) : Int) < 100; omega⟩, t2]
  simp only
  unfold runM
  rw [if_pos ⟨rfl, by show ((2 : Nat) : Int) < 100; omega⟩, t3, d3]
  cases hv : rekL op a b with
  | none => exact ⟨_, rfl, rfl, rfl, rfl⟩
  | some v =>
    have t4 : stepM (oneF (opsC op a b)) 100 0 ⟨0, 3, 3, [v], [], 0, false, 0, 0, 0, 3, [], 0, 0⟩ = some (⟨0, 3, 4, [v], [], 0, false, 3, 0, 0, 4, [], 0, v⟩, none) := rfl
    simp only [Option.map_some]
    unfold runM
    rw [if_pos ⟨rfl, by show ((3 : Nat) : Int) < 100; omega⟩, t4]
    simp only
    unfold runM
    rw [if_neg (by simp)]
    exact ⟨_, rfl, rfl, rfl, rfl⟩
set_option linter.unusedSimpArgs false in
set_option maxRecDepth 100000 in
set_option maxHeartbeats 4000000 in
theorem ops_any (op a b : Int) (w : World) (hE : Env w) : Calls Tryd.prog 4 #[.int .i64 op, .int .i64 a, .int .i64 b] w fun r w' => r = .returned (.bool true) ∧ Below w.heap.size w w' := by
  have CA := talive_any w hE
  by_cases g1 : op < 7
  · go_enter Tryd.func4, Tryd.ntmps4
    go_wp2_with (go_at_call 9; go_must (with_reducible refine CA.mono ?_; (rintro e w1 ⟨rfl, hb1⟩)))
    go_ret
    exact ⟨rfl, hb1⟩
  by_cases g2 : 13 < op
  · go_enter Tryd.func4, Tryd.ntmps4
    go_wp2_with (go_at_call 9; go_must (with_reducible refine CA.mono ?_; (rintro e w1 ⟨rfl, hb1⟩)))
    go_ret
    exact ⟨rfl, hb1⟩
  have hop : 7 ≤ op ∧ op ≤ 13 := by omega
  go_enter Tryd.func4, Tryd.ntmps4
  go_wp2_with (go_at_call 9; go_must (with_reducible refine CA.mono ?_; (rintro e wa ⟨rfl, hba0⟩); refine Hid.out ?_))
  refine Lib.hid ?_
  have hb1 := chain hba0 (alloc_below wa (.cells #[.int .i64 1, .int .i64 a, .int .i64 1, .int .i64 b, .int .i64 op, .int .i64 0, .int .i64 18, .int .i64 0] 24))
  have r1 : Reads (wa.alloc (.cells #[.int .i64 1, .int .i64 a, .int .i64 1, .int .i64 b, .int .i64 op, .int .i64 0, .int .i64 18, .int .i64 0] 24)) (some ⟨wa.heap.size, 0, none⟩) (insV (opsC op a b)) := reads_new wa _ _
  have C1 := one_any (some ⟨wa.heap.size, 0, none⟩) 4 4 (wa.alloc (.cells #[.int .i64 1, .int .i64 a, .int .i64 1, .int .i64 b, .int .i64 op, .int .i64 0, .int .i64 18, .int .i64 0] 24))
  unfold OnePost at C1
  clear CA hba0
  go_wp2_with (go_at_call 10; go_must (with_reducible refine C1.mono ?_; (rintro e w1 ⟨h1, rfl, hrow1, hb2⟩); refine Hid.out ?_))
  refine Lib.hid ?_
  have hb02 := chain hb1 hb2
  simp only [oneJ, JV.cells]
  have r2 := r1.below hb2
  have hba := alloc_below w1 (.cells #[.slice (some ⟨h1, 0, none⟩) 1 1, .int .i64 0, .slice none 0 0, .int .i64 100, .int .i64 50] 29)
  have hja := heap_alloc_new w1 (.cells #[.slice (some ⟨h1, 0, none⟩) 1 1, .int .i64 0, .slice none 0 0, .int .i64 100, .int .i64 50] 29)
  clear C1 hb1 hb2 r1
  go_upto_region 5 with fail
  generalize w1.alloc (.cells #[.slice (some ⟨h1, 0, none⟩) 1 1, .int .i64 0, .slice none 0 0, .int .i64 100, .int .i64 50] 29) = w2 at *
  have hrow2 := heap_row hrow1 hba
  have r3 := r2.below hba
  have hb03 := chain hb02 hba
  have C2 := one_begin (opsC op a b) hrow2 rfl r3 (hE.below hb03) (by omega) (ops_one op a b hop)
  have j0 : w2.cell? ⟨w1.heap.size, 0, none⟩ = some (.slice (some ⟨h1, 0, none⟩) 1 1) := by simp only [World.cell?, hja]; rfl
  have j1 : w2.cell? ⟨w1.heap.size, 1, none⟩ = some (.int .i64 0) := by simp only [World.cell?, hja]; rfl
  have j2 : w2.cell? ⟨w1.heap.size, 2, none⟩ = some (.slice none 0 0) := by simp only [World.cell?, hja]; rfl
  have j3 : w2.cell? ⟨w1.heap.size, 3, none⟩ = some (.int .i64 100) := by simp only [World.cell?, hja]; rfl
  have j4 : w2.cell? ⟨w1.heap.size, 4, none⟩ = some (.int .i64 50) := by simp only [World.cell?, hja]; rfl
  clear hja hba hrow1 r2 hb02
  generalize w1.heap.size = jb at *
  go_wp2_with (go_at_call 11; go_must (with_reducible refine C2.mono ?_; (rintro e w3 ⟨bb, rfl, hb4⟩); refine Hid.out ?_))
  refine Lib.hid ?_
  have hbb := alloc_below w3 (.cells #[.int .i64 0, .int .i64 0, .int .i64 0, .slice none 0 0, .slice (some ⟨bb, 0, none⟩) 0 0, .int .i64 0, .bool false] 34)
  have hsb := heap_alloc_new w3 (.cells #[.int .i64 0, .int .i64 0, .int .i64 0, .slice none 0 0, .slice (some ⟨bb, 0, none⟩) 0 0, .int .i64 0, .bool false] 34)
  have hb23 := chain hb4 hbb
  clear C2 hb4 hbb
  go_upto_region 6 with fail
  generalize w3.alloc (.cells #[.int .i64 0, .int .i64 0, .int .i64 0, .slice none 0 0, .slice (some ⟨bb, 0, none⟩) 0 0, .int .i64 0, .bool false] 34) = w4 at *
  have hb04 := chain hb03 hb23
  obtain ⟨q, hq, hf⟩ := ops_run op a b hop
  have C3 := one_runQ (opsC op a b) (heap_row hrow2 hb23) rfl (r3.below hb23) (hE.below hb04) (by omega) 0 0 0 0 100 false none (some ⟨bb, 0, none⟩) 0 0 [] [0, 1, 2, 1] 5 q (ops_deps op a b hop) rfl (by simp) (by omega) (by omega) (.inl rfl) (fun _ => ⟨rfl, rfl⟩) (fun e => by cases e) (by simp) (fun e => by cases e) hq
  unfold RunQ at C3
  simp only [List.length_nil] at C3
  rw [show ((0 : Nat) : Int) = 0 from rfl] at C3
  have HF := hide hf
  replace j0 := keep_cell j0 hb23
  replace j1 := keep_cell j1 hb23
  replace j2 := keep_cell j2 hb23
  replace j3 := keep_cell j3 hb23
  replace j4 := keep_cell j4 hb23
  have s0 : w4.cell? ⟨w3.heap.size, 0, none⟩ = some (.int .i64 0) := by simp only [World.cell?, hsb]; rfl
  have s1 : w4.cell? ⟨w3.heap.size, 1, none⟩ = some (.int .i64 0) := by simp only [World.cell?, hsb]; rfl
  have s2 : w4.cell? ⟨w3.heap.size, 2, none⟩ = some (.int .i64 0) := by simp only [World.cell?, hsb]; rfl
  have s3 : w4.cell? ⟨w3.heap.size, 3, none⟩ = some (.slice none 0 0) := by simp only [World.cell?, hsb]; rfl
  have s4 : w4.cell? ⟨w3.heap.size, 4, none⟩ = some (.slice (some ⟨bb, 0, none⟩) 0 0) := by simp only [World.cell?, hsb]; rfl
  have s5 : w4.cell? ⟨w3.heap.size, 5, none⟩ = some (.int .i64 0) := by simp only [World.cell?, hsb]; rfl
  have s6 : w4.cell? ⟨w3.heap.size, 6, none⟩ = some (.bool false) := by simp only [World.cell?, hsb]; rfl
  clear hsb hb23 hrow2 r3 hb03 hq hf
  generalize finM q = p at C3 HF
  obtain ⟨pfn, ppc, pfu, psk, plo, pkd, pwt, pek, pef, pei, pes, par, per, pev⟩ := p
  simp only at C3 HF
  generalize w3.heap.size = sb at *
  go_wp2_with (go_at_call 12; go_must (with_reducible refine C3.mono ?_; (rintro e w5 ⟨sa', sc', la', lc', aa', ac', rfl, q1, n1, q2, n2, q3, n3, hbk, hb5⟩); refine Hid.out ?_))
  refine Lib.hid ?_
  have hb05 := chain hb04 hb5
  clear C3 j0 j1 j2 j3 j4 s0 s1 s2 s3 s4 s5 s6 hb5 hb04 q1 n1 q2 n2 q3 n3 hbk
  have HBZ := hide (show Below w.heap.size w ((w5.alloc (.cells #[.int .i64 (pfn : Int), .int .i64 (ppc : Int), .int .i64 (pfu : Int), .slice sa' psk.length sc', .slice la' plo.length lc', .int .i64 pkd, .bool pwt] 34)).alloc (.cells #[.int .i64 pek, .int .i64 pef, .int .i64 pei, .int .i64 (pes : Int), .slice aa' par.length ac', .int .i64 per, .int .i64 pev] 41)) from (hb05.alloc hb05.size _).alloc (by have := hb05.size; simp; omega) _)
  have hez : ((w5.alloc (.cells #[.int .i64 (pfn : Int), .int .i64 (ppc : Int), .int .i64 (pfu : Int), .slice sa' psk.length sc', .slice la' plo.length lc', .int .i64 pkd, .bool pwt] 34)).alloc (.cells #[.int .i64 pek, .int .i64 pef, .int .i64 pei, .int .i64 (pes : Int), .slice aa' par.length ac', .int .i64 per, .int .i64 pev] 41)).heap[w5.heap.size + 1]? = some (.cells [.int .i64 pek, .int .i64 pef, .int .i64 pei, .int .i64 (pes : Int), .slice aa' par.length ac', .int .i64 per, .int .i64 pev].toArray 41 (0, 0)) := by
    have := heap_alloc_new (w5.alloc (.cells #[.int .i64 (pfn : Int), .int .i64 (ppc : Int), .int .i64 (pfu : Int), .slice sa' psk.length sc', .slice la' plo.length lc', .int .i64 pkd, .bool pwt] 34)) (.cells #[.int .i64 pek, .int .i64 pef, .int .i64 pei, .int .i64 (pes : Int), .slice aa' par.length ac', .int .i64 per, .int .i64 pev] 41)
    simpa using this
  go_upto_region 7 with fail
  generalize ((w5.alloc (.cells #[.int .i64 (pfn : Int), .int .i64 (ppc : Int), .int .i64 (pfu : Int), .slice sa' psk.length sc', .slice la' plo.length lc', .int .i64 pkd, .bool pwt] 34)).alloc (.cells #[.int .i64 pek, .int .i64 pef, .int .i64 pei, .int .i64 (pes : Int), .slice aa' par.length ac', .int .i64 per, .int .i64 pev] 41)) = w6 at *
  generalize w5.heap.size = tb at *
  have e0 := cell_row (i := 0) hez rfl
  have e5 := cell_row (i := 5) hez rfl
  have e6 := cell_row (i := 6) hez rfl
  have TN := tnum_any
  obtain ⟨rfl, f1, f2⟩ := HF.out
  clear hez hb05 HF g1 g2
  rcases (by omega : op = 7 ∨ op = 8 ∨ op = 9 ∨ op = 10 ∨ op = 11 ∨ op = 12 ∨ op = 13) with rfl | rfl | rfl | rfl | rfl | rfl | rfl
  · have hv : rekL 7 a b = some (wrap64 (a + b)) := rfl
    rw [hv] at f1 f2
    simp only at f1 f2
    clear hv hop
    subst f1
    subst f2
    go_wp2_with (go_at_call 13; go_must (with_reducible refine (TN _ _).mono ?_; (rintro e w9 ⟨rfl, rfl⟩)))
    go_ret
    exact ⟨rfl, HBZ.out⟩
  · have hv : rekL 8 a b = some (wrap64 (a - b)) := rfl
    rw [hv] at f1 f2
    simp only at f1 f2
    clear hv hop
    subst f1
    subst f2
    go_wp2_with (go_at_call 13; go_must (with_reducible refine (TN _ _).mono ?_; (rintro e w9 ⟨rfl, rfl⟩)))
    go_ret
    exact ⟨rfl, HBZ.out⟩
  · have hv : rekL 9 a b = some (wrap64 (a * b)) := rfl
    rw [hv] at f1 f2
    simp only at f1 f2
    clear hv hop
    subst f1
    subst f2
    go_wp2_with (go_at_call 13; go_must (with_reducible refine (TN _ _).mono ?_; (rintro e w9 ⟨rfl, rfl⟩)))
    go_ret
    exact ⟨rfl, HBZ.out⟩
  · by_cases hb0 : b = 0
    · subst hb0
      have hv : rekL 10 a 0 = none := by simp [rekL]
      rw [hv] at f1 f2
      simp only at f1 f2
      clear hv hop
      subst f1
      subst f2
      go_wp2_with (go_at_call 13; go_must (with_reducible refine (TN _ _).mono ?_; (rintro e w9 ⟨rfl, rfl⟩)))
      go_ret
      exact ⟨rfl, HBZ.out⟩
    · have hb1 : (b == 0) = false := by simp [hb0]
      have hv : rekL 10 a b = some (wrap64 (a.tdiv b)) := by simp [rekL, hb0]
      rw [hv] at f1 f2
      simp only at f1 f2
      clear hv hop
      subst f1
      subst f2
      go_wp2_with (go_at_call 13; go_must (with_reducible refine (TN _ _).mono ?_; (rintro e w9 ⟨rfl, rfl⟩)))
      go_ret
      exact ⟨rfl, HBZ.out⟩
  · by_cases hb0 : b = 0
    · subst hb0
      have hv : rekL 11 a 0 = none := by simp [rekL]
      rw [hv] at f1 f2
      simp only at f1 f2
      clear hv hop
      subst f1
      subst f2
      go_wp2_with (go_at_call 13; go_must (with_reducible refine (TN _ _).mono ?_; (rintro e w9 ⟨rfl, rfl⟩)))
      go_ret
      exact ⟨rfl, HBZ.out⟩
    · have hb1 : (b == 0) = false := by simp [hb0]
      have hv : rekL 11 a b = some (a.tmod b) := by simp [rekL, hb0]
      rw [hv] at f1 f2
      simp only at f1 f2
      clear hv hop
      subst f1
      subst f2
      go_wp2_with (go_at_call 13; go_must (with_reducible refine (TN _ _).mono ?_; (rintro e w9 ⟨rfl, rfl⟩)))
      go_ret
      exact ⟨rfl, HBZ.out⟩
  · by_cases hab : a < b
    · have hv : rekL 12 a b = some 1 := by simp [rekL, hab]
      rw [hv] at f1 f2
      simp only at f1 f2
      clear hv hop
      subst f1
      subst f2
      go_wp2_with (go_at_call 13; go_must (with_reducible refine (TN _ _).mono ?_; (rintro e w9 ⟨rfl, rfl⟩)))
      go_ret
      exact ⟨rfl, HBZ.out⟩
    · have hv : rekL 12 a b = some 0 := by simp [rekL]; omega
      rw [hv] at f1 f2
      simp only at f1 f2
      clear hv hop
      subst f1
      subst f2
      go_wp2_with (go_at_call 13; go_must (with_reducible refine (TN _ _).mono ?_; (rintro e w9 ⟨rfl, rfl⟩)))
      go_ret
      exact ⟨rfl, HBZ.out⟩
  · by_cases hab : a = b
    · have hab2 : (a == b) = true := by simp [hab]
      have hv : rekL 13 a b = some 1 := by simp [rekL, hab]
      rw [hv] at f1 f2
      simp only at f1 f2
      clear hv hop hab
      subst f1
      subst f2
      go_wp2_with (go_at_call 13; go_must (with_reducible refine (TN _ _).mono ?_; (rintro e w9 ⟨rfl, rfl⟩)))
      go_ret
      exact ⟨rfl, HBZ.out⟩
    · have hab2 : (a == b) = false := by simp [hab]
      have hv : rekL 13 a b = some 0 := by simp [rekL, hab]
      rw [hv] at f1 f2
      simp only at f1 f2
      clear hv hop
      subst f1
      subst f2
      go_wp2_with (go_at_call 13; go_must (with_reducible refine (TN _ _).mono ?_; (rintro e w9 ⟨rfl, rfl⟩)))
      go_ret
      exact ⟨rfl, HBZ.out⟩
end Go.Proofs.YtlhfjeohhfdccaaDoor
