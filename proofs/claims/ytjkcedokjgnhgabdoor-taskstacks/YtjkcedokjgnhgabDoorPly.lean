/- The job of one function: begun and run. -/
import Derived.Test.YtjkcedokjgnhgabDoorBeg
import Derived.Test.YtjkcedokjgnhgabDoorAlive
import Derived.Test.YtjkcedokjgnhgabDoorTallW
namespace Go.Proofs.YtjkcedokjgnhgabDoor
open Go.RowKit Go.ChangeShapes Go.WideShapes Go.ChangeAt Go.Deep

theorem one_small {code : List (Int × Int)} {n : Nat} (hn : code.length = n) (hb : n ≤ 1000000000) : ∀ f ∈ oneF code, f.code.length ≤ 1000000000 ∧ f.name.size < 4294967281 := fun f hf => by
  simp [oneF] at hf
  subst hf
  exact ⟨by show code.length ≤ _; omega, by show fnm.size < _; decide⟩

theorem one_begin {w : World} {h : Nat} {a : Option Addr} {n cap : Nat} (code : List (Int × Int)) (hrow : w.heap[h]? = some (.cells [.string fnm, .int .i64 0, .int .i64 0, .slice a n cap].toArray 32 (0, 0))) (hn : code.length = n) (hr : Reads w a (insV code)) (hE : Env w) (hb : n ≤ 1000000000) (hC : oneL code = (0, 0, 0)) :
    Calls Tryd.prog 10 #[.agg #[.slice (some ⟨h, 0, none⟩) 1 1, .int .i64 0, .slice none 0 0, .int .i64 100, .int .i64 50], .int .i64 0, .slice none 0 0] w fun e w' => ∃ b, e = .returned (.tuple #[.agg #[.int .i64 0, .int .i64 0, .int .i64 0, .slice none 0 0, .slice (some ⟨b, 0, none⟩) 0 0, .int .i64 0, .bool false], .int .i64 0]) ∧ Below w.heap.size w w' := by
  have C := begin_zero (oneJ h) _ (oneF code) [] 0 ⟨fnm, 0, 0, code⟩ 0 w (job_one hrow hn hr) hE (by simp [oneF]) (one_small hn hb) (by show (oneL code).2.2 = 0; rw [hC]) rfl rfl rfl (by omega)
  refine C.mono ?_
  rintro e w' ⟨b, rfl, _, h3⟩
  exact ⟨b, rfl, h3⟩

theorem one_run {w : World} {h : Nat} {a : Option Addr} {n cap : Nat} (code : List (Int × Int)) (hrow : w.heap[h]? = some (.cells [.string fnm, .int .i64 0, .int .i64 0, .slice a n cap].toArray 32 (0, 0))) (hn : code.length = n) (hr : Reads w a (insV code)) (hE : Env w) (hb : n ≤ 1000000000) (b : Nat) (deep steps : Int) (D : List Int) (k : Nat) (a' : Ab)
    (hD : depsOf (oneF code) 0 0 100 50 0 = D) (h0 : D[0]? = some 0) (hDl : D.length ≤ 1000000000) (hR : runA code 100 steps k ⟨0, 0, 0, 0, 0, 0, []⟩ = some a') :
    Calls Tryd.prog 12 #[.agg #[.slice (some ⟨h, 0, none⟩) 1 1, .int .i64 0, .slice none 0 0, .int .i64 100, .int .i64 50], .agg #[.int .i64 0, .int .i64 0, .int .i64 0, .slice none 0 0, .slice (some ⟨b, 0, none⟩) 0 0, .int .i64 0, .bool false], .int .i64 deep, .int .i64 steps] w fun e w' => ∃ sa sc la lc aa ac, e = .returned (.tuple #[.agg #[.int .i64 0, .int .i64 (a'.pc : Int), .int .i64 (a'.fu : Int), .slice sa a'.sk.length sc, .slice la 0 lc, .int .i64 0, .bool false], .agg #[.int .i64 a'.ek, .int .i64 0, .int .i64 0, .int .i64 (a'.es : Int), .slice aa 0 ac, .int .i64 a'.er, .int .i64 a'.ev]]) ∧ Below w.heap.size w w' := by
  have C := run_ok (oneJ h) _ (oneF code) [] 0 0 0 0 deep steps none (some ⟨b, 0, none⟩) 0 0 [] [] D ⟨fnm, 0, 0, code⟩ a' k w (job_one hrow hn hr) hE (by simp [oneF]) (one_small hn hb) hD h0 rfl rfl (by omega) (show ((0 : Nat) : Int) ≤ 100 by decide) hDl (.inl rfl) (.inl rfl) (by simp) (by simp) (by simp) (by simp) hR
  refine C.mono ?_
  rintro e w' ⟨B, m, sv, lv, av, rfl, _, hM, hB⟩
  obtain ⟨sa, sc, e1, _⟩ := slice_form (n := a'.sk.length) hM.own (by simp)
  obtain ⟨la, lc, e2, _⟩ := slice_form (n := 0) hM.loc rfl
  obtain ⟨aa, ac, e3, _⟩ := slice_form (n := 0) hM.arg rfl
  simp only [Fx.mc] at e1 e2 e3
  subst e1 e2 e3
  exact ⟨sa, sc, la, lc, aa, ac, rfl, hB⟩

theorem tnum_any (x : Int) (w : World) : Calls Tryd.prog 11 #[.int .i64 x] w fun r w' => r = .returned (.int .i64 x) ∧ w' = w := by
  go_enter Tryd.func11, Tryd.ntmps11
  go_wp2
  go_ret
  exact ⟨rfl, rfl⟩

set_option linter.unusedSimpArgs false in
set_option maxRecDepth 100000 in
set_option maxHeartbeats 4000000 in
theorem talive_any (w : World) (hE : Env w) : Calls Tryd.prog 8 #[] w fun r w' => r = .returned (.bool true) ∧ Below w.heap.size w w' := by
  have L2 : oneL [(1, 5), (18, 0)] = (0, 0, 0) := by decide +kernel
  have LD : depsOf (oneF [(1, 5), (18, 0)]) 0 0 100 50 0 = [0, 1] := by decide +kernel
  have LR : runA [(1, 5), (18, 0)] 100 10 5 ⟨0, 0, 0, 0, 0, 0, []⟩ = some ⟨1, 2, 2, 3, 0, 5, [5]⟩ := by rfl
  have hb1 := alloc_below w (.cells #[.int .i64 1, .int .i64 5, .int .i64 18, .int .i64 0] 26)
  have r1 : Reads (w.alloc (.cells #[.int .i64 1, .int .i64 5, .int .i64 18, .int .i64 0] 26)) (some ⟨w.heap.size, 0, none⟩) (insV [(1, 5), (18, 0)]) := reads_new w _ _
  have C1 := one_any (some ⟨w.heap.size, 0, none⟩) 2 2 (w.alloc (.cells #[.int .i64 1, .int .i64 5, .int .i64 18, .int .i64 0] 26))
  unfold OnePost at C1
  go_enter Tryd.func8, Tryd.ntmps8
  go_wp2_with (go_at_call 9; go_must (with_reducible refine C1.mono ?_; (rintro e w1 ⟨h1, rfl, hrow1, hb2⟩); refine Hid.out ?_))
  refine Lib.hid ?_
  have hb02 := chain hb1 hb2
  simp only [oneJ, JV.cells]
  have r2 := r1.below hb2
  have hba := alloc_below w1 (.cells #[.slice (some ⟨h1, 0, none⟩) 1 1, .int .i64 0, .slice none 0 0, .int .i64 100, .int .i64 50] 29)
  have hja := heap_alloc_new w1 (.cells #[.slice (some ⟨h1, 0, none⟩) 1 1, .int .i64 0, .slice none 0 0, .int .i64 100, .int .i64 50] 29)
  clear C1 hb1 hb2 r1
  go_upto_region 2 with fail
  generalize w1.alloc (.cells #[.slice (some ⟨h1, 0, none⟩) 1 1, .int .i64 0, .slice none 0 0, .int .i64 100, .int .i64 50] 29) = w2 at *
  have hrow2 := heap_row hrow1 hba
  have r3 := r2.below hba
  have hb03 := chain hb02 hba
  have C2 := one_begin [(1, 5), (18, 0)] hrow2 rfl r3 (hE.below hb03) (by omega) L2
  have j0 : w2.cell? ⟨w1.heap.size, 0, none⟩ = some (.slice (some ⟨h1, 0, none⟩) 1 1) := by simp only [World.cell?, hja]; rfl
  have j1 : w2.cell? ⟨w1.heap.size, 1, none⟩ = some (.int .i64 0) := by simp only [World.cell?, hja]; rfl
  have j2 : w2.cell? ⟨w1.heap.size, 2, none⟩ = some (.slice none 0 0) := by simp only [World.cell?, hja]; rfl
  have j3 : w2.cell? ⟨w1.heap.size, 3, none⟩ = some (.int .i64 100) := by simp only [World.cell?, hja]; rfl
  have j4 : w2.cell? ⟨w1.heap.size, 4, none⟩ = some (.int .i64 50) := by simp only [World.cell?, hja]; rfl
  clear hja hba hrow1 r2 hb02
  generalize w1.heap.size = jb at *
  go_wp2_with (go_at_call 10; go_must (with_reducible refine C2.mono ?_; (rintro e w3 ⟨b, rfl, hb4⟩); refine Hid.out ?_))
  refine Lib.hid ?_
  have hbb := alloc_below w3 (.cells #[.int .i64 0, .int .i64 0, .int .i64 0, .slice none 0 0, .slice (some ⟨b, 0, none⟩) 0 0, .int .i64 0, .bool false] 34)
  have hsb := heap_alloc_new w3 (.cells #[.int .i64 0, .int .i64 0, .int .i64 0, .slice none 0 0, .slice (some ⟨b, 0, none⟩) 0 0, .int .i64 0, .bool false] 34)
  have hb23 := chain hb4 hbb
  clear C2 hb4 hbb
  go_upto_region 3 with fail
  generalize w3.alloc (.cells #[.int .i64 0, .int .i64 0, .int .i64 0, .slice none 0 0, .slice (some ⟨b, 0, none⟩) 0 0, .int .i64 0, .bool false] 34) = w4 at *
  have hrow4 := heap_row hrow2 hb23
  have r4 := r3.below hb23
  have hb04 := chain hb03 hb23
  have C3 := one_run [(1, 5), (18, 0)] hrow4 rfl r4 (hE.below hb04) (by omega) b 0 10 [0, 1] 5 _ LD rfl (by simp) LR
  simp only [] at C3
  replace j0 := keep_cell j0 hb23
  replace j1 := keep_cell j1 hb23
  replace j2 := keep_cell j2 hb23
  replace j3 := keep_cell j3 hb23
  replace j4 := keep_cell j4 hb23
  have s0 : w4.cell? ⟨w3.heap.size, 0, none⟩ = some (.int .i64 0) := by simp only [World.cell?, hsb]; rfl
  have s1 : w4.cell? ⟨w3.heap.size, 1, none⟩ = some (.int .i64 0) := by simp only [World.cell?, hsb]; rfl
  have s2 : w4.cell? ⟨w3.heap.size, 2, none⟩ = some (.int .i64 0) := by simp only [World.cell?, hsb]; rfl
  have s3 : w4.cell? ⟨w3.heap.size, 3, none⟩ = some (.slice none 0 0) := by simp only [World.cell?, hsb]; rfl
  have s4 : w4.cell? ⟨w3.heap.size, 4, none⟩ = some (.slice (some ⟨b, 0, none⟩) 0 0) := by simp only [World.cell?, hsb]; rfl
  have s5 : w4.cell? ⟨w3.heap.size, 5, none⟩ = some (.int .i64 0) := by simp only [World.cell?, hsb]; rfl
  have s6 : w4.cell? ⟨w3.heap.size, 6, none⟩ = some (.bool false) := by simp only [World.cell?, hsb]; rfl
  clear hsb hb23 hrow2 r3 hb03 hrow4 r4
  generalize w3.heap.size = sb at *
  go_wp2_with (go_at_call 12; go_must (with_reducible refine C3.mono ?_; (rintro e w5 ⟨sa, sc, la, lc, aa, ac, rfl, hb5⟩); refine Hid.out ?_))
  refine Lib.hid ?_
  have hb05 := chain hb04 hb5
  clear C3 j0 j1 j2 j3 j4 s0 s1 s2 s3 s4 s5 s6 hb5 hb04 
  go_upto_region 4 with fail
  have hbz : Below w.heap.size w ((w5.alloc (.cells #[.int .i64 0, .int .i64 1, .int .i64 2, .slice sa 1 sc, .slice la 0 lc, .int .i64 0, .bool false] 34)).alloc (.cells #[.int .i64 3, .int .i64 0, .int .i64 0, .int .i64 2, .slice aa 0 ac, .int .i64 0, .int .i64 5] 42)) := (hb05.alloc hb05.size _).alloc (by have := hb05.size; simp; omega) _
  have hez : ((w5.alloc (.cells #[.int .i64 0, .int .i64 1, .int .i64 2, .slice sa 1 sc, .slice la 0 lc, .int .i64 0, .bool false] 34)).alloc (.cells #[.int .i64 3, .int .i64 0, .int .i64 0, .int .i64 2, .slice aa 0 ac, .int .i64 0, .int .i64 5] 42)).heap[w5.heap.size + 1]? = some (.cells #[.int .i64 3, .int .i64 0, .int .i64 0, .int .i64 2, .slice aa 0 ac, .int .i64 0, .int .i64 5] 42 (0, 0)) := by
    have := heap_alloc_new (w5.alloc (.cells #[.int .i64 0, .int .i64 1, .int .i64 2, .slice sa 1 sc, .slice la 0 lc, .int .i64 0, .bool false] 34)) (.cells #[.int .i64 3, .int .i64 0, .int .i64 0, .int .i64 2, .slice aa 0 ac, .int .i64 0, .int .i64 5] 42)
    simpa using this
  generalize ((w5.alloc (.cells #[.int .i64 0, .int .i64 1, .int .i64 2, .slice sa 1 sc, .slice la 0 lc, .int .i64 0, .bool false] 34)).alloc (.cells #[.int .i64 3, .int .i64 0, .int .i64 0, .int .i64 2, .slice aa 0 ac, .int .i64 0, .int .i64 5] 42)) = w6 at hbz hez ⊢
  have e0 : w6.cell? ⟨w5.heap.size + 1, 0, none⟩ = some (.int .i64 3) := by simp only [World.cell?, hez]; rfl
  have e3 : w6.cell? ⟨w5.heap.size + 1, 3, none⟩ = some (.int .i64 2) := by simp only [World.cell?, hez]; rfl
  have e6 : w6.cell? ⟨w5.heap.size + 1, 6, none⟩ = some (.int .i64 5) := by simp only [World.cell?, hez]; rfl
  have TN := tnum_any
  clear hez hb05
  go_wp2_with (go_at_call 11; go_must (with_reducible refine (TN _ _).mono ?_; (rintro e w7 ⟨rfl, rfl⟩); refine Hid.out ?_))
  refine Lib.hid ?_
  go_wp2_with fail
  go_ret
  exact ⟨rfl, hbz⟩
end Go.Proofs.YtjkcedokjgnhgabDoor
