/- The example of the document. -/
import Derived.Test.YtfnloomcianbiaaGreatDoorPrint
import Derived.Test.YtfnloomcianbiaaGreatDoorSame
import Derived.Test.YtfnloomcianbiaaGreatDoorReadW
namespace Go.Proofs.YtfnloomcianbiaaGreatDoor
open Go.RowKit Go.ChangeShapes Go.WideShapes Go.ChangeAt Go.Deep

/-- A reader's job, read. -/
theorem Rd.job {B : Nat} {w : World} {b : Nat} {fv av uv : Value} {cs : List Value} {st : St} (h : Rd B w b fv av uv cs st) : ∃ fa fc aa ac, fv = .slice fa st.funcs.length fc ∧ av = .slice aa st.args.length ac ∧ JobR w ⟨fa, st.funcs.length, fc, st.main, aa, st.args.length, ac, st.fuel, st.tasks⟩ cs st.funcs st.args := by
  obtain ⟨fa, fc, rfl, hfr⟩ := h.freads
  obtain ⟨aa, ac, rfl⟩ := own_any h.args
  refine ⟨fa, fc, aa, ac, rfl, rfl, rfl, ?_, h.len, hfr, fun i hi hi' => ?_, rfl, ?_⟩
  · rcases h.fns.2 with ⟨e, e0⟩ | ⟨g, cap, cur, e, _, _, hle, _⟩
    · injection e with _ e1 e2
      show st.funcs.length ≤ fc
      omega
    · injection e with _ _ e2
      show st.funcs.length ≤ fc
      omega
  · have hc := h.codes i hi hi'
    rcases hc.2 with ⟨e, e0⟩ | ⟨g, cap, cur, e, _⟩
    · exact ⟨none, 0, by rw [e, e0], .inl (by rw [List.eq_nil_of_length_eq_zero e0]; rfl)⟩
    · exact ⟨_, cap, e, .inr ⟨g, 0, rfl, fun q u hu => by
        have := hc.cells (g := g) (by rw [e]; rfl) q u hu
        rwa [add_none] at this⟩⟩
  · rcases h.args.2 with ⟨e, e0⟩ | ⟨g, cap, cur, e, _⟩
    · exact .inl (by rw [List.eq_nil_of_length_eq_zero e0]; rfl)
    · injection e with e1 _ _
      refine .inr ⟨g, 0, e1, fun q u hu => ?_⟩
      have := h.args.cells (g := g) (by rw [e1]; rfl) q u hu
      rwa [add_none] at this

def aliveT : List UInt8 := [106, 111, 98, 32, 49, 48, 48, 32, 53, 48, 10, 109, 97, 105, 110, 32, 102, 10, 102, 117, 110, 99, 32, 102, 32, 48, 32, 48, 10, 32, 32, 112, 117, 115, 104, 32, 53, 10, 32, 32, 114, 101, 116, 10, 101, 110, 100, 10]
def aliveF : List Fun := [⟨⟨#[102]⟩, 0, 0, [(1, 5), (18, 0)]⟩]
theorem alive_print : printL aliveF 0 [] 100 50 = aliveT := by kernel_rfl
def aliveS : St := ⟨⟨#[]⟩, 6, aliveF, 0, [], 100, 50, [⟨⟨#[102]⟩, 2, -1, 0⟩]⟩
theorem alive_read : readL (bs aliveT) = .ok aliveS := by kernel_rfl

set_option maxRecDepth 100000 in
set_option maxHeartbeats 400000 in
theorem one_any (a : Option Addr) (n cap : Nat) (w : World) : Calls Tryz.prog 13 #[.slice a n cap] w fun e w' => e = .returned (.agg #[.slice (some ⟨w.heap.size + 1, 0, none⟩) 1 1, .int .i64 0, .slice none 0 0, .int .i64 100, .int .i64 50]) ∧ w' = (w.alloc (.cells #[.slice (some ⟨w.heap.size + 1, 0, none⟩) 1 1, .int .i64 0, .slice none 0 0, .int .i64 100, .int .i64 50] 25)).alloc (.cells #[.string ⟨#[102]⟩, .int .i64 0, .int .i64 0, .slice a n cap] 45) := by
  go_enter Tryz.func13, Tryz.ntmps13
  go_wp2
  refine bodyPost_ret (v := .agg #[.slice (some ⟨w.heap.size + 1, 0, none⟩) 1 1, .int .i64 0, .slice none 0 0, .int .i64 100, .int .i64 50]) (by simp [results, Tryz.results13, go_sem]) rfl ⟨rfl, ?_⟩
  rfl

set_option maxRecDepth 100000 in
set_option maxHeartbeats 400000 in
theorem num_any (x : Int) (w : World) : Calls Tryz.prog 11 #[.int .i64 x] w fun e w' => e = .returned (.int .i64 x) ∧ w' = w := by
  go_enter Tryz.func11, Tryz.ntmps11
  go_wp2
  go_ret
  exact ⟨rfl, rfl⟩

/-- Read of a text that is a job's. -/
theorem read_job {s : ByteArray} {st : St} (hs : s.size ≤ 131072) (h : readL s = .ok st) (w : World) (hE : Env w) : Calls Tryz.prog 9 #[.string s] w fun e w' => ∃ fa fc aa ac cs, e = .returned (.tuple #[.agg #[.slice fa st.funcs.length fc, .int .i64 st.main, .slice aa st.args.length ac, .int .i64 st.fuel, .int .i64 st.tasks], .int .i64 0, .int .i64 0]) ∧ JobR w' ⟨fa, st.funcs.length, fc, st.main, aa, st.args.length, ac, st.fuel, st.tasks⟩ cs st.funcs st.args ∧ Below w.heap.size w w' := by
  refine (read_any s w hE).mono ?_
  rintro e w' ⟨hb, hh⟩
  rw [if_neg (by omega), h] at hh
  obtain ⟨b, fv, av, uv, cs, hR, he⟩ := hh
  obtain ⟨fa, fc, aa, ac, rfl, rfl, hj⟩ := hR.job
  exact ⟨fa, fc, aa, ac, cs, he, hj, hb⟩
/-- Read of a text that is none. -/
theorem read_no {s : ByteArray} {l : Int} (hs : s.size ≤ 131072) (h : readL s = .error l) (w : World) (hE : Env w) : Calls Tryz.prog 9 #[.string s] w fun e w' => e = .returned (.tuple #[.agg #[.slice none 0 0, .int .i64 0, .slice none 0 0, .int .i64 0, .int .i64 0], .int .i64 l, .int .i64 2]) ∧ Below w.heap.size w w' := by
  refine (read_any s w hE).mono ?_
  rintro e w' ⟨hb, hh⟩
  rw [if_neg (by omega), h] at hh
  exact ⟨hh, hb⟩

theorem in64_of {l : List Int} (h : ∀ x ∈ l, -1000 ≤ x ∧ x ≤ 1000) : In64 l := fun x hx => by have := h x hx; omega
theorem aliveIn : JobIn aliveF [] 100 50 where
  args := fun x hx => by cases hx
  two := in64_of (by decide)
  funcs := by
    intro f hf
    simp only [aliveF, List.mem_singleton] at hf
    subst hf
    refine ⟨in64_of (by decide), by decide, by decide, ?_⟩
    intro x hx
    have hx' : x = (1, 5) ∨ x = (18, 0) := by simpa using hx
    rcases hx' with rfl | rfl
    · exact in64_of (by decide)
    · exact in64_of (by decide)
theorem heap4 (w : World) (a b c d : Obj) : ((((w.alloc a).alloc b).alloc c).alloc d).heap[w.heap.size]? = some a ∧ ((((w.alloc a).alloc b).alloc c).alloc d).heap[w.heap.size + 1 + 1]? = some c ∧ ((((w.alloc a).alloc b).alloc c).alloc d).heap[w.heap.size + 1 + 1 + 1]? = some d := by
  have s1 : (w.alloc a).heap.size = w.heap.size + 1 := by simp
  have s2 : ((w.alloc a).alloc b).heap.size = w.heap.size + 1 + 1 := by simp
  have s3 : (((w.alloc a).alloc b).alloc c).heap.size = w.heap.size + 1 + 1 + 1 := by simp
  refine ⟨?_, ?_, ?_⟩
  · rw [Go.heap_alloc_old _ _ (show w.heap.size < _ by omega), Go.heap_alloc_old _ _ (show w.heap.size < _ by omega), Go.heap_alloc_old _ _ (show w.heap.size < _ by omega)]
    exact heap_alloc_new w a
  · rw [Go.heap_alloc_old _ _ (show w.heap.size + 1 + 1 < _ by omega), ← s2]
    exact heap_alloc_new _ c
  · rw [← s3]
    exact heap_alloc_new _ d

set_option maxRecDepth 100000 in
set_option maxHeartbeats 2000000 in
theorem alive_any (w : World) (hE : Env w) : Calls Tryz.prog 4 #[] w fun e w' => e = .returned (.bool true) ∧ Below w.heap.size w w' := by
  go_enter Tryz.func4, Tryz.ntmps4
  go_wp2_with (first
    | (go_at_call 13; go_must (refine (one_any _ _ _ _).mono ?_; rintro e wz ⟨rfl, rfl⟩))
    | (go_at_call 14; refine Hid.out ?_))
  refine Lib.hid ?_
  have hn0 : ((((w.alloc (.cells #[.int .i64 1, .int .i64 5, .int .i64 18, .int .i64 0] 42)).alloc (.cells #[.slice (some ⟨w.heap.size + 1 + 1, 0, none⟩) 1 1, .int .i64 0, .slice none 0 0, .int .i64 100, .int .i64 50] 25)).alloc (.cells #[.string ⟨#[102]⟩, .int .i64 0, .int .i64 0, .slice (some ⟨w.heap.size, 0, none⟩) 2 2] 45)).alloc (.cells #[.slice (some ⟨w.heap.size + 1 + 1, 0, none⟩) 1 1, .int .i64 0, .slice none 0 0, .int .i64 100, .int .i64 50] 25)).heap[w.heap.size]? = some (.cells [.int .i64 1, .int .i64 5, .int .i64 18, .int .i64 0].toArray 42 (0, 0)) := by
    exact (heap4 w _ _ _ _).1
  have hn2 : ((((w.alloc (.cells #[.int .i64 1, .int .i64 5, .int .i64 18, .int .i64 0] 42)).alloc (.cells #[.slice (some ⟨w.heap.size + 1 + 1, 0, none⟩) 1 1, .int .i64 0, .slice none 0 0, .int .i64 100, .int .i64 50] 25)).alloc (.cells #[.string ⟨#[102]⟩, .int .i64 0, .int .i64 0, .slice (some ⟨w.heap.size, 0, none⟩) 2 2] 45)).alloc (.cells #[.slice (some ⟨w.heap.size + 1 + 1, 0, none⟩) 1 1, .int .i64 0, .slice none 0 0, .int .i64 100, .int .i64 50] 25)).heap[w.heap.size + 1 + 1]? = some (.cells [.string ⟨#[102]⟩, .int .i64 0, .int .i64 0, .slice (some ⟨w.heap.size, 0, none⟩) 2 2].toArray 45 (0, 0)) := by
    exact (heap4 w _ _ _ _).2.1
  have hn3 : ((((w.alloc (.cells #[.int .i64 1, .int .i64 5, .int .i64 18, .int .i64 0] 42)).alloc (.cells #[.slice (some ⟨w.heap.size + 1 + 1, 0, none⟩) 1 1, .int .i64 0, .slice none 0 0, .int .i64 100, .int .i64 50] 25)).alloc (.cells #[.string ⟨#[102]⟩, .int .i64 0, .int .i64 0, .slice (some ⟨w.heap.size, 0, none⟩) 2 2] 45)).alloc (.cells #[.slice (some ⟨w.heap.size + 1 + 1, 0, none⟩) 1 1, .int .i64 0, .slice none 0 0, .int .i64 100, .int .i64 50] 25)).heap[w.heap.size + 1 + 1 + 1]? = some (.cells [.slice (some ⟨w.heap.size + 1 + 1, 0, none⟩) 1 1, .int .i64 0, .slice none 0 0, .int .i64 100, .int .i64 50].toArray 25 (0, 0)) := by
    exact (heap4 w _ _ _ _).2.2
  have hbJ : Below w.heap.size w ((((w.alloc (.cells #[.int .i64 1, .int .i64 5, .int .i64 18, .int .i64 0] 42)).alloc (.cells #[.slice (some ⟨w.heap.size + 1 + 1, 0, none⟩) 1 1, .int .i64 0, .slice none 0 0, .int .i64 100, .int .i64 50] 25)).alloc (.cells #[.string ⟨#[102]⟩, .int .i64 0, .int .i64 0, .slice (some ⟨w.heap.size, 0, none⟩) 2 2] 45)).alloc (.cells #[.slice (some ⟨w.heap.size + 1 + 1, 0, none⟩) 1 1, .int .i64 0, .slice none 0 0, .int .i64 100, .int .i64 50] 25)) := ((((Below.refl _ _).alloc (Nat.le_refl _) _).alloc (by simp) _).alloc (by simp; omega) _).alloc (by simp; omega) _
  generalize ((((w.alloc (.cells #[.int .i64 1, .int .i64 5, .int .i64 18, .int .i64 0] 42)).alloc (.cells #[.slice (some ⟨w.heap.size + 1 + 1, 0, none⟩) 1 1, .int .i64 0, .slice none 0 0, .int .i64 100, .int .i64 50] 25)).alloc (.cells #[.string ⟨#[102]⟩, .int .i64 0, .int .i64 0, .slice (some ⟨w.heap.size, 0, none⟩) 2 2] 45)).alloc (.cells #[.slice (some ⟨w.heap.size + 1 + 1, 0, none⟩) 1 1, .int .i64 0, .slice none 0 0, .int .i64 100, .int .i64 50] 25)) = wJ at hn0 hn2 hn3 hbJ ⊢
  have hEJ := hE.below hbJ
  have hJ : JobR wJ ⟨some ⟨w.heap.size + 1 + 1, 0, none⟩, 1, 1, 0, none, 0, 0, 100, 50⟩ [.slice (some ⟨w.heap.size, 0, none⟩) 2 2] aliveF [] := by
    refine ⟨rfl, Nat.le_refl _, rfl, .inr ⟨_, _, rfl, lt_row hn2, fun j hj i v hv => ?_⟩, fun i hi hi' => ?_, rfl, .inl rfl⟩
    · have hj0 : j = 0 := by simp [frs, aliveF] at hj; exact hj
      subst hj0
      have hv' : [Value.string ⟨#[102]⟩, .int .i64 0, .int .i64 0, .slice (some ⟨w.heap.size, 0, none⟩) 2 2][i]? = some v := hv
      simp only [Nat.zero_mul, Nat.zero_add]
      exact cell_row hn2 hv'
    · have hi0 : i = 0 := by simp at hi; exact hi
      subst hi0
      exact ⟨_, _, rfl, .inr ⟨_, _, rfl, fun q u hu => by rw [Nat.zero_add]; exact cell_row hn0 hu⟩⟩
  have hI := aliveIn
  have P := print_any ⟨some ⟨w.heap.size + 1 + 1, 0, none⟩, 1, 1, 0, none, 0, 0, 100, 50⟩ _ aliveF [] wJ hJ hI hEJ (by decide) (by decide)
  simp only [JV.cells] at P
  rw [alive_print] at P
  have RD := fun w hE => read_job (s := bs aliveT) (st := aliveS) (by decide) alive_read w hE
  have hcmp : ((bs aliveT).toList == aliveT) = true := by rw [show (bs aliveT).toList = aliveT from mk_toList _]; simp
  have hTT : aliveT = [106, 111, 98, 32, 49, 48, 48, 32, 53, 48, 10, 109, 97, 105, 110, 32, 102, 10, 102, 117, 110, 99, 32, 102, 32, 48, 32, 48, 10, 32, 32, 112, 117, 115, 104, 32, 53, 10, 32, 32, 114, 101, 116, 10, 101, 110, 100, 10] := rfl
  generalize bs aliveT = tx at P RD hcmp
  rw [hTT] at hcmp
  clear hTT
  refine P.mono ?_
  rintro e w2 ⟨rfl, hb2⟩
  have hJ2 := hJ.below hb2
  have hE2 := hEJ.below hb2
  have hn32 := (hb2.block _ (lt_row hn3)).trans hn3
  have R2 := RD w2 hE2
  clear P RD
  go_wp2_with (go_at_call 9; go_must (refine R2.mono ?_; rintro e w3 ⟨fa, fc, aa, ac, cs, rfl, hj3, hb3⟩; refine Hid.out ?_))
  refine Lib.hid ?_
  have hn33 := (hb3.block _ (lt_row hn32)).trans hn32
  have k0 := cell_row (i := 0) hn33 rfl
  have k1 := cell_row (i := 1) hn33 rfl
  have k2 := cell_row (i := 2) hn33 rfl
  have k3 := cell_row (i := 3) hn33 rfl
  have k4 := cell_row (i := 4) hn33 rfl
  have hkl := lt_row hn33
  have hJ3 := hJ2.below hb3
  have SJ := fun (W : World) (hb : Below w3.heap.size w3 W) => sameJob_any ⟨some ⟨w.heap.size + 1 + 1, 0, none⟩, 1, 1, 0, none, 0, 0, 100, 50⟩ ⟨fa, 1, fc, 0, aa, 0, ac, 100, 50⟩ _ cs aliveF [] W (hJ3.below hb) (hj3.below hb) rfl rfl rfl (by decide) (by decide) (fun f hf => by
    simp only [aliveF, List.mem_singleton] at hf
    subst hf
    decide)
  simp only [JV.cells] at SJ
  have hbz := alloc_below w3 (.cells #[.slice fa 1 fc, .int .i64 0, .slice aa 0 ac, .int .i64 100, .int .i64 50] 25)
  have hbe : Below w.heap.size w w3 := (hbJ.trans (hb2.mono hbJ.size)).trans (hb3.mono (Nat.le_trans hbJ.size hb2.size))
  clear R2
  go_wp2_with (first
    | (go_at_call 11; go_must (refine (num_any _ _).mono ?_; rintro e wz ⟨rfl, hwz⟩; replace hwz := hwz.symm; subst hwz))
    | (go_at_call 12; go_must (refine (SJ _ hbz).mono ?_; rintro e w4 ⟨rfl, hb4⟩)))
  go_ret
  exact ⟨rfl, (hbe.trans (hbz.mono hbe.size)).trans (hb4.mono (Nat.le_trans hbe.size hbz.size))⟩
end Go.Proofs.YtfnloomcianbiaaGreatDoor
