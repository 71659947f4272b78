/- gleanerref4's line, whichever; what a reader has put together stays in bounds. -/
import Derived.Test.YtfnloomcianbiaaGreatDoorRefK
import Derived.Test.YtfnloomcianbiaaGreatDoorReadA
namespace Go.Proofs.YtfnloomcianbiaaGreatDoor
open Go.RowKit Go.ChangeShapes Go.WideShapes Go.ChangeAt Go.Deep

structure Good (i : Nat) (st : St) : Prop where
  funcs : st.funcs.length ≤ 32
  uses : st.uses.length ≤ i
  code : ∀ f ∈ st.funcs, f.code.length ≤ 256
  args : i < 2 → st.args = []
  ok : ∀ u ∈ st.uses, UseOk st.funcs u

theorem Good.line {i : Nat} {st st' : St} {l : ByteArray} (h : Good i st) (hl : lineL ((i : Int) + 1) l st = some st') : Good (i + 1) st' := by
  unfold lineL at hl
  by_cases h1 : (i : Int) + 1 = 1
  · rw [if_pos h1] at hl
    obtain ⟨p, _, rfl⟩ := Option.map_eq_some_iff.1 hl
    exact ⟨h.funcs, by have := h.uses; show st.uses.length ≤ i + 1; omega, h.code, fun _ => h.args (by omega), h.ok⟩
  · rw [if_neg h1] at hl
    by_cases h2 : (i : Int) + 1 = 2
    · rw [if_pos h2] at hl
      obtain ⟨p, _, rfl⟩ := Option.map_eq_some_iff.1 hl
      refine ⟨h.funcs, by have := h.uses; simp; omega, h.code, fun h => by omega, fun u hu => ?_⟩
      rcases List.mem_append.1 hu with hu | hu
      · exact h.ok u hu
      · simp only [List.mem_singleton] at hu
        rw [hu]
        exact .inl (show (-1 : Int) < 0 by decide)
    · rw [if_neg h2] at hl
      by_cases h3 : isInd l.data.toList = true
      · rw [if_pos h3] at hl
        cases hw : insW (wordsOf (bs (l.data.toList.drop 2))) with
        | none => rw [hw] at hl; cases hl
        | some x =>
          rw [hw] at hl
          rcases List.eq_nil_or_concat st.funcs with hn | ⟨fs, f, hf⟩
          · rw [hn] at hl; cases hl
          · rw [List.concat_eq_append] at hf
            rw [hf] at hl
            simp only [List.getLast?_append, List.getLast?_singleton, Option.some_or, List.dropLast_concat] at hl
            by_cases h4 : f.code.length < 256
            · rw [if_pos h4] at hl
              have hl' := Option.some.inj hl
              subst hl'
              have hfl := h.funcs
              rw [hf] at hfl
              refine ⟨by simpa [St.add] using hfl, ?_, fun g hg => ?_, fun h => by omega, fun u hu => ?_⟩
              · have := h.uses
                unfold St.add
                simp only
                split
                · simp; omega
                · omega
              · have hg' : g ∈ fs ++ [{ f with code := f.code ++ [x.1] }] := hg
                rcases List.mem_append.1 hg' with hg | hg
                · exact h.code g (by rw [hf]; simp [hg])
                · simp only [List.mem_singleton] at hg
                  rw [hg]
                  simp
                  omega
              · have keep : ∀ u ∈ st.uses, UseOk (fs ++ [{ f with code := f.code ++ [x.1] }]) u := fun u hu => by
                  have := h.ok u hu
                  rw [hf] at this
                  exact this.last x.1
                unfold St.add at hu ⊢
                simp only at hu ⊢
                split at hu
                · rcases List.mem_append.1 hu with hu | hu
                  · exact keep u hu
                  · simp only [List.mem_singleton] at hu
                    rw [hu]
                    refine .inr ⟨by simp, by simp, { f with code := f.code ++ [x.1] }, x.1, ?_, ?_⟩
                    · simp
                    · simp
                · exact keep u hu
            · rw [if_neg h4] at hl; cases hl
      · rw [if_neg h3] at hl
        obtain ⟨f, hf, rfl⟩ := Option.map_eq_some_iff.1 hl
        have hfc := funcL_code hf
        have hne : st.funcs.length ≠ 32 := by
          intro h32
          unfold funcL at hf
          split at hf
          · split at hf
            · split at hf
              · rename_i hok
                have : ∀ nm, funcOk nm st.funcs = false := fun nm => by
                  unfold funcOk
                  rw [h32]
                  simp
                split at hf
                · rename_i h9
                  rw [this] at h9
                  cases h9
                · cases hf
              · cases hf
            · cases hf
          · cases hf
        have := h.funcs
        refine ⟨by simp; omega, by have := h.uses; show st.uses.length ≤ i + 1; omega, fun g hg => ?_, fun h => by omega, fun u hu => (h.ok u hu).more f⟩
        have hg' : g ∈ st.funcs ++ [f] := hg
        rcases List.mem_append.1 hg' with hg | hg
        · exact h.code g hg
        · simp only [List.mem_singleton] at hg
          rw [hg, hfc]
          simp

theorem line_all (B b : Nat) (fv av uv : Value) (cs : List Value) (st : St) (i : Nat) (hi : i ≤ 1000000) (hg : Good i st) (l : ByteArray) (hl : l.size ≤ 1000000) (w : World) (hB : B ≤ w.heap.size) (hR : Rf B w b fv av uv cs st) :
    Calls Tryz.prog 23 #[.pointer (some ⟨b, 0, none⟩), .int .i64 ((i : Int) + 1), .string l] w (LinePost B b ((i : Int) + 1) l st w) := by
  have hu := hg.uses
  have hf := hg.funcs
  by_cases h1 : i = 0
  · subst h1
    exact line1_any B b fv av uv cs st l hl w hB hR
  · by_cases h2 : i = 1
    · subst h2
      exact line2_any B b fv av uv cs st l hl (by omega) (hg.args (by omega)) w hB hR
    · cases hi : isInd l.data.toList with
      | true => exact lineI_any B b fv av uv cs st _ (by omega) l hl (by omega) (by omega) (fun f hf => by have := hg.code f hf; omega) hi w hB hR
      | false => exact lineF_any B b fv av uv cs st _ (by omega) l hl (by omega) hi w hB hR

/-- The lines of a text, one behind the other. -/
def goL (whole : Bool) : List ByteArray → Nat → Bool → St → Except Int St
  | [], i, e, st => if e = true then .ok st else .error ((i : Int) + 1)
  | l :: r, i, e, st =>
    if e = true ∨ (whole = false ∧ r = []) then .error ((i : Int) + 1)
    else if 2 ≤ i ∧ (l.toList == [101, 110, 100]) = true then goL whole r (i + 1) true st
    else match lineL ((i : Int) + 1) l st with
      | none => .error ((i : Int) + 1)
      | some st' => goL whole r (i + 1) false st'
def st0 : St := ⟨⟨#[]⟩, 0, [], 0, [], 0, 0, []⟩
def refReadL (s : ByteArray) : Except Int St :=
  match goL (linesOf s.data.toList).2 (linesOf s.data.toList).1 0 false st0 with
  | .error n => .error n
  | .ok st => tieL st.uses st
theorem good0 : Good 0 st0 := ⟨by decide, by decide, (fun f hf => by cases hf), (fun _ => rfl), (fun u hu => by cases hu)⟩
end Go.Proofs.YtfnloomcianbiaaGreatDoor
