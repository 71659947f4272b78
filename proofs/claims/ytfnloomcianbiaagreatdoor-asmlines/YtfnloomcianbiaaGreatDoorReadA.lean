/- What a whole text is read as, plain. -/
import Derived.Test.YtfnloomcianbiaaGreatDoorBody
import Derived.Test.YtfnloomcianbiaaGreatDoorTie2
namespace Go.Proofs.YtfnloomcianbiaaGreatDoor
open Go.RowKit Go.ChangeShapes Go.WideShapes Go.ChangeAt Go.Deep

def St.begin (s : ByteArray) : St := ⟨s, 0, [], 0, [], 0, 0, []⟩
def UsesOk (st : St) : Prop := ∀ u ∈ st.uses, UseOk st.funcs u
/-- The job whose text s is; else the line at which it goes wrong. -/
def readL (s : ByteArray) : Except Int St :=
  match headL (St.begin s) with
  | .error l => .error l
  | .ok st => match bodyL (st.rest.size + 1) st with
    | .error l => .error l
    | .ok st2 => tieL st2.uses st2

theorem Small.begin {s : ByteArray} (h : s.size ≤ 131072) : Small (St.begin s) :=
  ⟨by show s.size ≤ _; omega, by show (0 : Int) ≤ 0 ∧ (0 : Int) + (s.size : Nat) ≤ _; omega, by show 0 + s.size ≤ _; omega, by show 0 + s.size ≤ _; omega, fun f hf => by cases hf⟩

theorem Small.next {st : St} (h : Small st) (hq : cutWhole st.rest = true) : Small st.next := by
  have hlt := cut_lt st.rest hq
  obtain ⟨h1, h2, h3, h4, h5⟩ := h
  refine ⟨?_, ?_, ?_, ?_, ?_⟩
  · show (cutRest st.rest).size ≤ _; omega
  · show 0 ≤ st.line + 1 ∧ st.line + 1 + ((cutRest st.rest).size : Nat) ≤ _; omega
  · show st.funcs.length + (cutRest st.rest).size ≤ _; omega
  · show st.uses.length + (cutRest st.rest).size ≤ _; omega
  · intro g hg
    show g.code.length + (cutRest st.rest).size ≤ _
    have := h5 g hg; omega

theorem head_small {s : ByteArray} (h : s.size ≤ 131072) {st : St} (hh : headL (St.begin s) = .ok st) : Small st ∧ UsesOk st := by
  have hS := Small.begin h
  unfold headL at hh
  split at hh
  · rename_i hq
    split at hh
    · cases hh
    · rename_i x y hj
      simp only at hh
      split at hh
      · rename_i hq2
        split at hh
        · cases hh
        · rename_i nm vs hm
          cases hh
          have h1 := hS.next hq
          have h2 : Small { (St.begin s).next with fuel := x, tasks := y } := ⟨h1.1, h1.2, h1.3, h1.4, h1.5⟩
          have h3 := h2.next hq2
          have hlt := cut_lt _ hq2
          have hlt1 := cut_lt _ hq
          refine ⟨⟨h3.1, h3.2, h3.3, ?_, h3.5⟩, ?_⟩
          · show 1 + (cutRest (cutRest s)).size ≤ _
            have : (cutRest (cutRest s)).size + 1 ≤ (cutRest s).size := hlt
            have h9 : (cutRest s).size + 1 ≤ s.size := hlt1
            omega
          · intro u hu
            have hu' : u ∈ [(⟨nm, _, -1, 0⟩ : Use)] := hu
            simp only [List.mem_singleton] at hu'
            rw [hu']
            exact .inl (show (-1 : Int) < 0 by decide)
      · cases hh
  · cases hh

theorem UseOk.more {fs : List Fun} {u : Use} (h : UseOk fs u) (f : Fun) : UseOk (fs ++ [f]) u := by
  rcases h with h | ⟨h1, h2, g, x, h3, h4⟩
  · exact .inl h
  · refine .inr ⟨h1, h2, g, x, ?_, h4⟩
    rw [List.getElem?_append_left]
    · exact h3
    · rcases Nat.lt_or_ge u.i.toNat fs.length with h | h
      · exact h
      · rw [List.getElem?_eq_none h] at h3; cases h3
theorem UseOk.last {fs : List Fun} {f : Fun} {u : Use} (h : UseOk (fs ++ [f]) u) (x : Int × Int) : UseOk (fs ++ [{ f with code := f.code ++ [x] }]) u := by
  rcases h with h | ⟨h1, h2, g, y, h3, h4⟩
  · exact .inl h
  · refine .inr ⟨h1, h2, ?_⟩
    rcases Nat.lt_or_ge u.i.toNat fs.length with h | h
    · rw [List.getElem?_append_left h] at h3
      exact ⟨g, y, by rw [List.getElem?_append_left h]; exact h3, h4⟩
    · rw [List.getElem?_append_right h] at h3
      have h0 : u.i.toNat - fs.length = 0 := by
        rcases Nat.eq_zero_or_pos (u.i.toNat - fs.length) with h | h
        · exact h
        · rw [List.getElem?_eq_none (by simp; omega)] at h3; cases h3
      rw [h0] at h3
      simp at h3
      subst h3
      refine ⟨_, y, by rw [List.getElem?_append_right h, h0]; rfl, ?_⟩
      show (f.code ++ [x])[u.k.toNat]? = some y
      rw [List.getElem?_append_left]
      · exact h4
      · rcases Nat.lt_or_ge u.k.toNat f.code.length with h | h
        · exact h
        · rw [List.getElem?_eq_none h] at h4; cases h4

theorem body_small : ∀ (n : Nat) {st st' : St}, bodyL n st = .ok st' → Small st → UsesOk st → Small st' ∧ UsesOk st'
  | 0, _, _, h, _, _ => by cases h
  | n + 1, st, st', h, hS, hU => by
    rw [bodyL] at h
    split at h
    · rename_i hq
      split at h
      · split at h
        · cases h
          exact ⟨hS.next hq, hU⟩
        · cases h
      · split at h
        · rename_i f hf
          exact body_small n h (hS.func hq (funcL_code hf)) (fun u hu => (hU u hu).more f)
        · split at h
          · rename_i st2 hi
            unfold insStep at hi
            split at hi
            · rename_i x f hx hl
              split at hi
              · cases hi
              · cases hi
                have hfs : st.funcs = st.next.funcs.dropLast ++ [f] := by
                  have hne : st.funcs ≠ [] := fun e => by
                    have hl' : st.funcs.getLast? = some f := hl
                    rw [e] at hl'; cases hl'
                  have hl2 : st.funcs.getLast? = some f := hl
                  rw [List.getLast?_eq_some_getLast hne] at hl2
                  have h3 := List.dropLast_concat_getLast hne
                  rw [Option.some.inj hl2] at h3
                  exact h3.symm
                refine body_small n h (hS.ins hq hfs x) (fun u hu => ?_)
                have hu' : u ∈ (if x.1.1 = 16 then st.uses ++ [⟨x.2, st.next.line, (st.next.funcs.dropLast.length : Int), (f.code.length : Int)⟩] else st.uses) := hu
                have hold : ∀ u ∈ st.uses, UseOk (st.next.funcs.dropLast ++ [{ f with code := f.code ++ [x.1] }]) u := fun u hu => by
                  have := hU u hu
                  rw [hfs] at this
                  exact this.last x.1
                split at hu'
                · rcases List.mem_append.1 hu' with hu' | hu'
                  · exact hold u hu'
                  · simp only [List.mem_singleton] at hu'
                    rw [hu']
                    refine .inr ⟨Int.natCast_nonneg _, Int.natCast_nonneg _, { f with code := f.code ++ [x.1] }, x.1, ?_, ?_⟩
                    · show (st.next.funcs.dropLast ++ [_])[_]? = _
                      simp
                    · simp
                · exact hold u hu'
            · cases hi
          · cases h
    · cases h
end Go.Proofs.YtfnloomcianbiaaGreatDoor
