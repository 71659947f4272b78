/- AsmNumbers' walk. -/
import Derived.Test.YtfnloomcianbiaaDoorNumT
import Derived.Test.YtfnloomcianbiaaDoorAlive
namespace Go.Proofs.YtfnloomcianbiaaDoor
open Go.RowKit Go.ChangeShapes Go.WideShapes Go.ChangeAt Go.Deep

theorem num_plain (a b c d : Int) : plainL (numF a b c d) 0 [b, c].length = true := by kernel_rfl
theorem num_print (a b c d : Int) : printL (numF a b c d) 0 [b, c] d a = printT (numF a b c d) 0 [b, c] d a := by
  unfold printL
  rw [if_pos (num_plain a b c d)]
theorem in64_two {x y : Int} (h1 : In64 [x]) (h2 : In64 [y]) : In64 [x, y] := fun z hz => by
  simp only [List.mem_cons, List.mem_nil_iff, or_false] at hz
  rcases hz with rfl | rfl
  · exact h1 z (by simp)
  · exact h2 z (by simp)
theorem num_in {a b c d : Int} (ha : In64 [a]) (hb : In64 [b]) (hc : In64 [c]) (hd : In64 [d]) : JobIn (numF a b c d) [b, c] d a where
  args := in64_two hb hc
  two := in64_two hd ha
  funcs := by
    intro f hf
    simp only [numF, List.mem_singleton] at hf
    subst hf
    refine ⟨in64_two ha hb, show (1 : Nat) < 4294967281 by decide, by simp, ?_⟩
    intro x hx
    have hx' : x = (1, c) ∨ x = (5, d) ∨ x = (14, a) := by simpa using hx
    rcases hx' with rfl | rfl | rfl
    · exact hc
    · exact hd
    · exact ha
theorem heap4b (w : World) (a b c d : Obj) : ((((w.alloc a).alloc b).alloc c).alloc d).heap[w.heap.size + 1]? = some b := by
  have s1 : (w.alloc a).heap.size = w.heap.size + 1 := by simp
  have s2 : ((w.alloc a).alloc b).heap.size = w.heap.size + 1 + 1 := by simp
  have s3 : (((w.alloc a).alloc b).alloc c).heap.size = w.heap.size + 1 + 1 + 1 := by simp
  rw [Go.heap_alloc_old _ _ (show w.heap.size + 1 < _ by omega), Go.heap_alloc_old _ _ (show w.heap.size + 1 < _ by omega), ← s1]
  exact heap_alloc_new _ b
theorem num_size {a b c d : Int} (ha : In64 [a]) (hb : In64 [b]) (hc : In64 [c]) (hd : In64 [d]) : (bs (printT (numF a b c d) 0 [b, c] d a)).size ≤ 131072 := by
  have k1 : kindOf 1 = ⟨⟨#[112, 117, 115, 104]⟩, true, 0, 1⟩ := by kernel_rfl
  have k5 : kindOf 5 = ⟨⟨#[108, 111, 97, 100]⟩, true, 0, 1⟩ := by kernel_rfl
  have k14 : kindOf 14 = ⟨⟨#[106, 117, 109, 112]⟩, true, 0, 0⟩ := by kernel_rfl
  have la := itoa_21 ha
  have lb := itoa_21 hb
  have lc := itoa_21 hc
  have ld := itoa_21 hd
  rw [bs_size]
  simp [printT, headT, mainT, funcT, codeT, insText, behindT, numsT, numF, k1, k5, k14]
  omega

set_option maxRecDepth 100000 in
set_option maxHeartbeats 2000000 in
theorem numbers_any (a b c d : Int) (ha : In64 [a]) (hb : In64 [b]) (hc : In64 [c]) (hd : In64 [d]) (w : World) (hE : Env w) : Calls Tryd.prog 7 #[.int .i64 a, .int .i64 b, .int .i64 c, .int .i64 d] w fun e w' => e = .returned (.bool true) ∧ Below w.heap.size w w' := by
  go_enter Tryd.func7, Tryd.ntmps7
  have AL := alive_any w hE
  go_wp2_with (first
    | (go_at_call 8; go_must (refine AL.mono ?_; rintro e w1 ⟨rfl, hb1⟩))
    | (go_at_call 11; refine Hid.out ?_))
  refine Lib.hid ?_
  clear AL
  have hE1 := hE.below hb1
  have hn0 : ((((w1.alloc (.cells #[.int .i64 1, .int .i64 c, .int .i64 5, .int .i64 d, .int .i64 14, .int .i64 a] 43)).alloc (.cells #[.string ⟨#[102]⟩, .int .i64 a, .int .i64 b, .slice (some ⟨w1.heap.size, 0, none⟩) 3 3] 36)).alloc (.cells #[.int .i64 b, .int .i64 c] 3)).alloc (.cells #[.slice (some ⟨w1.heap.size + 1, 0, none⟩) 1 1, .int .i64 0, .slice (some ⟨w1.heap.size + 1 + 1, 0, none⟩) 2 2, .int .i64 d, .int .i64 a] 25)).heap[w1.heap.size]? = some (.cells [.int .i64 1, .int .i64 c, .int .i64 5, .int .i64 d, .int .i64 14, .int .i64 a].toArray 43 (0, 0)) := by
    exact (heap4 w1 _ _ _ _).1
  have hn1 : ((((w1.alloc (.cells #[.int .i64 1, .int .i64 c, .int .i64 5, .int .i64 d, .int .i64 14, .int .i64 a] 43)).alloc (.cells #[.string ⟨#[102]⟩, .int .i64 a, .int .i64 b, .slice (some ⟨w1.heap.size, 0, none⟩) 3 3] 36)).alloc (.cells #[.int .i64 b, .int .i64 c] 3)).alloc (.cells #[.slice (some ⟨w1.heap.size + 1, 0, none⟩) 1 1, .int .i64 0, .slice (some ⟨w1.heap.size + 1 + 1, 0, none⟩) 2 2, .int .i64 d, .int .i64 a] 25)).heap[w1.heap.size + 1]? = some (.cells [.string ⟨#[102]⟩, .int .i64 a, .int .i64 b, .slice (some ⟨w1.heap.size, 0, none⟩) 3 3].toArray 36 (0, 0)) := by
    exact heap4b w1 _ _ _ _
  have hn2 : ((((w1.alloc (.cells #[.int .i64 1, .int .i64 c, .int .i64 5, .int .i64 d, .int .i64 14, .int .i64 a] 43)).alloc (.cells #[.string ⟨#[102]⟩, .int .i64 a, .int .i64 b, .slice (some ⟨w1.heap.size, 0, none⟩) 3 3] 36)).alloc (.cells #[.int .i64 b, .int .i64 c] 3)).alloc (.cells #[.slice (some ⟨w1.heap.size + 1, 0, none⟩) 1 1, .int .i64 0, .slice (some ⟨w1.heap.size + 1 + 1, 0, none⟩) 2 2, .int .i64 d, .int .i64 a] 25)).heap[w1.heap.size + 1 + 1]? = some (.cells [.int .i64 b, .int .i64 c].toArray 3 (0, 0)) := by
    exact (heap4 w1 _ _ _ _).2.1
  have hn3 : ((((w1.alloc (.cells #[.int .i64 1, .int .i64 c, .int .i64 5, .int .i64 d, .int .i64 14, .int .i64 a] 43)).alloc (.cells #[.string ⟨#[102]⟩, .int .i64 a, .int .i64 b, .slice (some ⟨w1.heap.size, 0, none⟩) 3 3] 36)).alloc (.cells #[.int .i64 b, .int .i64 c] 3)).alloc (.cells #[.slice (some ⟨w1.heap.size + 1, 0, none⟩) 1 1, .int .i64 0, .slice (some ⟨w1.heap.size + 1 + 1, 0, none⟩) 2 2, .int .i64 d, .int .i64 a] 25)).heap[w1.heap.size + 1 + 1 + 1]? = some (.cells [.slice (some ⟨w1.heap.size + 1, 0, none⟩) 1 1, .int .i64 0, .slice (some ⟨w1.heap.size + 1 + 1, 0, none⟩) 2 2, .int .i64 d, .int .i64 a].toArray 25 (0, 0)) := by
    exact (heap4 w1 _ _ _ _).2.2
  have hbJ : Below w1.heap.size w1 ((((w1.alloc (.cells #[.int .i64 1, .int .i64 c, .int .i64 5, .int .i64 d, .int .i64 14, .int .i64 a] 43)).alloc (.cells #[.string ⟨#[102]⟩, .int .i64 a, .int .i64 b, .slice (some ⟨w1.heap.size, 0, none⟩) 3 3] 36)).alloc (.cells #[.int .i64 b, .int .i64 c] 3)).alloc (.cells #[.slice (some ⟨w1.heap.size + 1, 0, none⟩) 1 1, .int .i64 0, .slice (some ⟨w1.heap.size + 1 + 1, 0, none⟩) 2 2, .int .i64 d, .int .i64 a] 25)) := ((((Below.refl _ _).alloc (Nat.le_refl _) _).alloc (by simp) _).alloc (by simp; omega) _).alloc (by simp; omega) _
  generalize ((((w1.alloc (.cells #[.int .i64 1, .int .i64 c, .int .i64 5, .int .i64 d, .int .i64 14, .int .i64 a] 43)).alloc (.cells #[.string ⟨#[102]⟩, .int .i64 a, .int .i64 b, .slice (some ⟨w1.heap.size, 0, none⟩) 3 3] 36)).alloc (.cells #[.int .i64 b, .int .i64 c] 3)).alloc (.cells #[.slice (some ⟨w1.heap.size + 1, 0, none⟩) 1 1, .int .i64 0, .slice (some ⟨w1.heap.size + 1 + 1, 0, none⟩) 2 2, .int .i64 d, .int .i64 a] 25)) = wJ at hn0 hn1 hn2 hn3 hbJ ⊢
  have hEJ := hE1.below hbJ
  have hJ : JobR wJ ⟨some ⟨w1.heap.size + 1, 0, none⟩, 1, 1, 0, some ⟨w1.heap.size + 1 + 1, 0, none⟩, 2, 2, d, a⟩ [.slice (some ⟨w1.heap.size, 0, none⟩) 3 3] (numF a b c d) [b, c] := by
    refine ⟨rfl, Nat.le_refl _, rfl, .inr ⟨_, _, rfl, lt_row hn1, fun j hj i v hv => ?_⟩, fun i hi hi' => ?_, rfl, .inr ⟨_, _, rfl, fun q u hu => by rw [Nat.zero_add]; exact cell_row hn2 hu⟩⟩
    · have hj0 : j = 0 := by simp [frs, numF] at hj; exact hj
      subst hj0
      have hv' : [Value.string ⟨#[102]⟩, .int .i64 a, .int .i64 b, .slice (some ⟨w1.heap.size, 0, none⟩) 3 3][i]? = some v := hv
      simp only [Nat.zero_mul, Nat.zero_add]
      exact cell_row hn1 hv'
    · have hi0 : i = 0 := by simp at hi; exact hi
      subst hi0
      exact ⟨_, _, rfl, .inr ⟨_, _, rfl, fun q u hu => by rw [Nat.zero_add]; exact cell_row hn0 hu⟩⟩
  have hI := num_in ha hb hc hd
  have P := print_any ⟨some ⟨w1.heap.size + 1, 0, none⟩, 1, 1, 0, some ⟨w1.heap.size + 1 + 1, 0, none⟩, 2, 2, d, a⟩ _ (numF a b c d) [b, c] wJ hJ hI hEJ (by simp [numF]) (by simp)
  simp only [JV.cells] at P
  rw [num_print] at P
  have RD := fun w hE => read_job (s := bs (printT (numF a b c d) 0 [b, c] d a)) (num_size ha hb hc hd) (numbers_read a b c d ha hb hc hd) w hE
  generalize bs (printT (numF a b c d) 0 [b, c] d a) = tx at P RD
  refine P.mono ?_
  rintro e w2 ⟨rfl, hb2⟩
  have hJ2 := hJ.below hb2
  have hE2 := hEJ.below hb2
  have hn32 := (hb2.block _ (lt_row hn3)).trans hn3
  have R2 := RD w2 hE2
  clear P RD
  go_wp2_with (go_at_call 14; go_must (refine R2.mono ?_; rintro e w3 ⟨fa, fc, aa, ac, cs, rfl, hj3, hb3⟩; refine Hid.out ?_))
  refine Lib.hid ?_
  have hn33 := (hb3.block _ (lt_row hn32)).trans hn32
  have k0 := cell_row (i := 0) hn33 rfl
  have k1 := cell_row (i := 1) hn33 rfl
  have k2 := cell_row (i := 2) hn33 rfl
  have k3 := cell_row (i := 3) hn33 rfl
  have k4 := cell_row (i := 4) hn33 rfl
  have hkl := lt_row hn33
  have hJ3 := hJ2.below hb3
  have SJ := fun (W : World) (hb : Below w3.heap.size w3 W) => sameJob_any ⟨some ⟨w1.heap.size + 1, 0, none⟩, 1, 1, 0, some ⟨w1.heap.size + 1 + 1, 0, none⟩, 2, 2, d, a⟩ ⟨fa, 1, fc, 0, aa, 2, ac, d, a⟩ _ cs (numF a b c d) [b, c] W (hJ3.below hb) (hj3.below hb) rfl rfl rfl (by simp [numF]) (by simp) (fun f hf => by
    simp only [numF, List.mem_singleton] at hf
    subst hf
    simp)
  simp only [JV.cells] at SJ
  have hbz := alloc_below w3 (.cells #[.slice fa 1 fc, .int .i64 0, .slice aa 2 ac, .int .i64 d, .int .i64 a] 25)
  have hbe0 : Below w1.heap.size w1 w3 := (hbJ.trans (hb2.mono hbJ.size)).trans (hb3.mono (Nat.le_trans hbJ.size hb2.size))
  have hbe : Below w.heap.size w w3 := hb1.trans (hbe0.mono hb1.size)
  clear R2
  go_wp2_with (first
    | (go_at_call 15; go_must (refine (num_any _ _).mono ?_; rintro e wz ⟨rfl, hwz⟩; replace hwz := hwz.symm; subst hwz))
    | (go_at_call 16; go_must (refine (SJ _ hbz).mono ?_; rintro e w4 ⟨rfl, hb4⟩)))
  go_ret
  exact ⟨rfl, (hbe.trans (hbz.mono hbe.size)).trans (hb4.mono (Nat.le_trans hbe.size hbz.size))⟩
end Go.Proofs.YtfnloomcianbiaaDoor
