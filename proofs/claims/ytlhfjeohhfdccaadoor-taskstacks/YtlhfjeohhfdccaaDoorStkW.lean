/- TaskStacks: its walk. -/
import Derived.Test.YtlhfjeohhfdccaaDoorPlyG
namespace Go.Proofs.YtlhfjeohhfdccaaDoor
open Go.RowKit Go.ChangeShapes Go.WideShapes Go.ChangeAt Go.Deep

theorem stacks_one (a b0 c : Int) : oneL [(1, a), (1, b0), (1, c), (4, 0), (3, 0), (8, 0), (2, 0), (8, 0), (18, 0)] = (0, 0, 0) := by kernel_rfl
theorem stacks_deps (a b0 c : Int) : depsOf (oneF [(1, a), (1, b0), (1, c), (4, 0), (3, 0), (8, 0), (2, 0), (8, 0), (18, 0)]) 0 0 100 50 0 = [0, 1, 2, 3, 3, 4, 3, 2, 1] := by kernel_rfl
theorem stacks_run (a b0 c : Int) : runW (oneF [(1, a), (1, b0), (1, c), (4, 0), (3, 0), (8, 0), (2, 0), (8, 0), (18, 0)]) 100 0 100 12 ⟨0, 0, 0, [], [], 0, false, 0, 0, 0, 0, [], 0, 0⟩ = some (⟨0, 8, 9, [wrap64 (a - c)], [], 0, false, 3, 0, 0, 9, [], 0, wrap64 (a - c)⟩, none) := by kernel_rfl

set_option linter.unusedSimpArgs false in
set_option maxRecDepth 100000 in
set_option maxHeartbeats 4000000 in
theorem stacks_any (a b0 c : Int) (w : World) (hE : Env w) : Calls Tryd.prog 8 #[.int .i64 a, .int .i64 b0, .int .i64 c] w fun r w' => r = .returned (.bool true) ∧ Below w.heap.size w w' := by
  have L2 := stacks_one a b0 c
  have LD := stacks_deps a b0 c
  have LR := stacks_run a b0 c
  have CA := talive_any w hE
  go_enter Tryd.func8, Tryd.ntmps8
  go_wp2_with (go_at_call 9; go_must (with_reducible refine CA.mono ?_; (rintro e wa ⟨rfl, hba0⟩); refine Hid.out ?_))
  refine Lib.hid ?_
  have hb1 := chain hba0 (alloc_below wa (.cells #[.int .i64 1, .int .i64 a, .int .i64 1, .int .i64 b0, .int .i64 1, .int .i64 c, .int .i64 4, .int .i64 0, .int .i64 3, .int .i64 0, .int .i64 8, .int .i64 0, .int .i64 2, .int .i64 0, .int .i64 8, .int .i64 0, .int .i64 18, .int .i64 0] 24))
  have r1 : Reads (wa.alloc (.cells #[.int .i64 1, .int .i64 a, .int .i64 1, .int .i64 b0, .int .i64 1, .int .i64 c, .int .i64 4, .int .i64 0, .int .i64 3, .int .i64 0, .int .i64 8, .int .i64 0, .int .i64 2, .int .i64 0, .int .i64 8, .int .i64 0, .int .i64 18, .int .i64 0] 24)) (some ⟨wa.heap.size, 0, none⟩) (insV [(1, a), (1, b0), (1, c), (4, 0), (3, 0), (8, 0), (2, 0), (8, 0), (18, 0)]) := reads_new wa _ _
  have C1 := one_any (some ⟨wa.heap.size, 0, none⟩) 9 9 (wa.alloc (.cells #[.int .i64 1, .int .i64 a, .int .i64 1, .int .i64 b0, .int .i64 1, .int .i64 c, .int .i64 4, .int .i64 0, .int .i64 3, .int .i64 0, .int .i64 8, .int .i64 0, .int .i64 2, .int .i64 0, .int .i64 8, .int .i64 0, .int .i64 18, .int .i64 0] 24))
  unfold OnePost at C1
  clear CA hba0
  go_wp2_with (go_at_call 10; go_must (with_reducible refine C1.mono ?_; (rintro e w1 ⟨h1, rfl, hrow1, hb2⟩); refine Hid.out ?_))
  refine Lib.hid ?_
  have hb02 := chain hb1 hb2
  simp only [oneJ, JV.cells]
  have r2 := r1.below hb2
  have hba := alloc_below w1 (.cells #[.slice (some ⟨h1, 0, none⟩) 1 1, .int .i64 0, .slice none 0 0, .int .i64 100, .int .i64 50] 29)
  have hja := heap_alloc_new w1 (.cells #[.slice (some ⟨h1, 0, none⟩) 1 1, .int .i64 0, .slice none 0 0, .int .i64 100, .int .i64 50] 29)
  clear C1 hb1 hb2 r1
  go_upto_region 3 with fail
  generalize w1.alloc (.cells #[.slice (some ⟨h1, 0, none⟩) 1 1, .int .i64 0, .slice none 0 0, .int .i64 100, .int .i64 50] 29) = w2 at *
  have hrow2 := heap_row hrow1 hba
  have r3 := r2.below hba
  have hb03 := chain hb02 hba
  have C2 := one_begin [(1, a), (1, b0), (1, c), (4, 0), (3, 0), (8, 0), (2, 0), (8, 0), (18, 0)] hrow2 rfl r3 (hE.below hb03) (by omega) L2
  have j0 : w2.cell? ⟨w1.heap.size, 0, none⟩ = some (.slice (some ⟨h1, 0, none⟩) 1 1) := by simp only [World.cell?, hja]; rfl
  have j1 : w2.cell? ⟨w1.heap.size, 1, none⟩ = some (.int .i64 0) := by simp only [World.cell?, hja]; rfl
  have j2 : w2.cell? ⟨w1.heap.size, 2, none⟩ = some (.slice none 0 0) := by simp only [World.cell?, hja]; rfl
  have j3 : w2.cell? ⟨w1.heap.size, 3, none⟩ = some (.int .i64 100) := by simp only [World.cell?, hja]; rfl
  have j4 : w2.cell? ⟨w1.heap.size, 4, none⟩ = some (.int .i64 50) := by simp only [World.cell?, hja]; rfl
  clear hja hba hrow1 r2 hb02
  generalize w1.heap.size = jb at *
  go_wp2_with (go_at_call 11; go_must (with_reducible refine C2.mono ?_; (rintro e w3 ⟨b, rfl, hb4⟩); refine Hid.out ?_))
  refine Lib.hid ?_
  have hbb := alloc_below w3 (.cells #[.int .i64 0, .int .i64 0, .int .i64 0, .slice none 0 0, .slice (some ⟨b, 0, none⟩) 0 0, .int .i64 0, .bool false] 34)
  have hsb := heap_alloc_new w3 (.cells #[.int .i64 0, .int .i64 0, .int .i64 0, .slice none 0 0, .slice (some ⟨b, 0, none⟩) 0 0, .int .i64 0, .bool false] 34)
  have hb23 := chain hb4 hbb
  clear C2 hb4 hbb
  go_upto_region 4 with fail
  generalize w3.alloc (.cells #[.int .i64 0, .int .i64 0, .int .i64 0, .slice none 0 0, .slice (some ⟨b, 0, none⟩) 0 0, .int .i64 0, .bool false] 34) = w4 at *
  have hrow4 := heap_row hrow2 hb23
  have r4 := r3.below hb23
  have hb04 := chain hb03 hb23
  have C3 : Calls Tryd.prog 12 #[.agg #[.slice (some ⟨h1, 0, none⟩) 1 1, .int .i64 0, .slice none 0 0, .int .i64 100, .int .i64 50], .agg #[.int .i64 0, .int .i64 0, .int .i64 0, .slice none 0 0, .slice (some ⟨b, 0, none⟩) 0 0, .int .i64 0, .bool false], .int .i64 0, .int .i64 100] w4 fun e w' => ∃ sa sc la lc aa ac, e = .returned (.tuple #[.agg #[.int .i64 0, .int .i64 8, .int .i64 9, .slice sa 1 sc, .slice la 0 lc, .int .i64 0, .bool false], .agg #[.int .i64 3, .int .i64 0, .int .i64 0, .int .i64 9, .slice aa 0 ac, .int .i64 0, .int .i64 (wrap64 (a - c))]]) ∧ Below w4.heap.size w4 w' :=
    (one_runQ [(1, a), (1, b0), (1, c), (4, 0), (3, 0), (8, 0), (2, 0), (8, 0), (18, 0)] hrow4 rfl r4 (hE.below hb04) (by omega) 0 0 0 0 100 false none (some ⟨b, 0, none⟩) 0 0 [] [0, 1, 2, 3, 3, 4, 3, 2, 1] 12 _ LD rfl (by simp) (by omega) (by omega) (.inl rfl) (fun _ => ⟨rfl, rfl⟩) (fun h => by cases h) (by simp) (fun h => by cases h) LR).mono fun e w' ⟨sa, sc, la, lc, aa, ac, h, _, _, _, _, _, _, _, hb⟩ => ⟨sa, sc, la, lc, aa, ac, h, hb⟩
  replace j0 := keep_cell j0 hb23
  replace j1 := keep_cell j1 hb23
  replace j2 := keep_cell j2 hb23
  replace j3 := keep_cell j3 hb23
  replace j4 := keep_cell j4 hb23
  have s0 : w4.cell? ⟨w3.heap.size, 0, none⟩ = some (.int .i64 0) := by simp only [World.cell?, hsb]; rfl
  have s1 : w4.cell? ⟨w3.heap.size, 1, none⟩ = some (.int .i64 0) := by simp only [World.cell?, hsb]; rfl
  have s2 : w4.cell? ⟨w3.heap.size, 2, none⟩ = some (.int .i64 0) := by simp only [World.cell?, hsb]; rfl
  have s3 : w4.cell? ⟨w3.heap.size, 3, none⟩ = some (.slice none 0 0) := by simp only [World.cell?, hsb]; rfl
  have s4 : w4.cell? ⟨w3.heap.size, 4, none⟩ = some (.slice (some ⟨b, 0, none⟩) 0 0) := by simp only [World.cell?, hsb]; rfl
  have s5 : w4.cell? ⟨w3.heap.size, 5, none⟩ = some (.int .i64 0) := by simp only [World.cell?, hsb]; rfl
  have s6 : w4.cell? ⟨w3.heap.size, 6, none⟩ = some (.bool false) := by simp only [World.cell?, hsb]; rfl
  clear hsb hb23 hrow2 r3 hb03 hrow4 r4
  generalize w3.heap.size = sb at *
  go_wp2_with (go_at_call 12; go_must (with_reducible refine C3.mono ?_; (rintro e w5 ⟨sa, sc, la, lc, aa, ac, rfl, hb5⟩); refine Hid.out ?_))
  refine Lib.hid ?_
  have hb05 := chain hb04 hb5
  clear C3 j0 j1 j2 j3 j4 s0 s1 s2 s3 s4 s5 s6 hb5 hb04 
  go_upto_region 5 with fail
  have hbz : Below w.heap.size w ((w5.alloc (.cells #[.int .i64 0, .int .i64 8, .int .i64 9, .slice sa 1 sc, .slice la 0 lc, .int .i64 0, .bool false] 34)).alloc (.cells #[.int .i64 3, .int .i64 0, .int .i64 0, .int .i64 9, .slice aa 0 ac, .int .i64 0, .int .i64 (wrap64 (a - c))] 41)) := (hb05.alloc hb05.size _).alloc (by have := hb05.size; simp; omega) _
  have hez : ((w5.alloc (.cells #[.int .i64 0, .int .i64 8, .int .i64 9, .slice sa 1 sc, .slice la 0 lc, .int .i64 0, .bool false] 34)).alloc (.cells #[.int .i64 3, .int .i64 0, .int .i64 0, .int .i64 9, .slice aa 0 ac, .int .i64 0, .int .i64 (wrap64 (a - c))] 41)).heap[w5.heap.size + 1]? = some (.cells #[.int .i64 3, .int .i64 0, .int .i64 0, .int .i64 9, .slice aa 0 ac, .int .i64 0, .int .i64 (wrap64 (a - c))] 41 (0, 0)) := by
    have := heap_alloc_new (w5.alloc (.cells #[.int .i64 0, .int .i64 8, .int .i64 9, .slice sa 1 sc, .slice la 0 lc, .int .i64 0, .bool false] 34)) (.cells #[.int .i64 3, .int .i64 0, .int .i64 0, .int .i64 9, .slice aa 0 ac, .int .i64 0, .int .i64 (wrap64 (a - c))] 41)
    simpa using this
  generalize ((w5.alloc (.cells #[.int .i64 0, .int .i64 8, .int .i64 9, .slice sa 1 sc, .slice la 0 lc, .int .i64 0, .bool false] 34)).alloc (.cells #[.int .i64 3, .int .i64 0, .int .i64 0, .int .i64 9, .slice aa 0 ac, .int .i64 0, .int .i64 (wrap64 (a - c))] 41)) = w6 at hbz hez ⊢
  have e0 : w6.cell? ⟨w5.heap.size + 1, 0, none⟩ = some (.int .i64 3) := by simp only [World.cell?, hez]; rfl
  have e3 : w6.cell? ⟨w5.heap.size + 1, 3, none⟩ = some (.int .i64 9) := by simp only [World.cell?, hez]; rfl
  have e6 : w6.cell? ⟨w5.heap.size + 1, 6, none⟩ = some (.int .i64 (wrap64 (a - c))) := by simp only [World.cell?, hez]; rfl
  clear hez hb05
  go_wp2_with fail
  go_ret
  exact ⟨rfl, hbz⟩
end Go.Proofs.YtlhfjeohhfdccaaDoor
