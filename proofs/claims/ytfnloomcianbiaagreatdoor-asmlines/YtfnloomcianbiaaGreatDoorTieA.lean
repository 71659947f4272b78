/- A spawn's function is put in its place. -/
import Derived.Test.YtfnloomcianbiaaGreatDoorCodeA
namespace Go.Proofs.YtfnloomcianbiaaGreatDoor
open Go.RowKit Go.ChangeShapes Go.WideShapes Go.ChangeAt Go.Deep

theorem insV_set : ∀ (c : List (Int × Int)) (k : Nat) (n : Int) (x : Int × Int), c[k]? = some x → (insV c).set (k * 2 + 1) (.int .i64 n) = insV (c.set k (x.1, n))
  | [], k, n, x, h => by simp at h
  | y :: r, 0, n, x, h => by
    simp at h
    subst h
    rfl
  | y :: r, k + 1, n, x, h => by
    have ih := insV_set r k n x (by simpa using h)
    show ([Value.int .i64 y.1, Value.int .i64 y.2] ++ insV r).set ((k + 1) * 2 + 1) (.int .i64 n) = [Value.int .i64 y.1, Value.int .i64 y.2] ++ insV (r.set k (x.1, n))
    rw [List.set_append_right _ _ (by simp; omega), ← ih]
    congr 2
    simp
    omega

def Fun.setN (f : Fun) (k : Nat) (n : Int) : Fun := { f with code := f.code.modify k fun x => (x.1, n) }
def St.setN (st : St) (i k : Nat) (n : Int) : St := { st with funcs := st.funcs.modify i fun f => f.setN k n }

theorem frs_modify (fs : List Fun) (cs : List Value) (i k : Nat) (n : Int) : frs (fs.modify i fun f => f.setN k n) cs = frs fs cs := by
  apply List.ext_getElem?
  intro j
  simp only [frs, List.getElem?_zipWith, List.getElem?_modify]
  cases fs[j]? with
  | none => rfl
  | some f =>
    by_cases h : i = j
    · simp only [h, Fun.setN, Fun.row]; cases cs[j]? <;> simp
    · simp [h]

theorem Rd.setN {B : Nat} {w : World} {b : Nat} {fv av uv : Value} {cs : List Value} {st : St} (h : Rd B w b fv av uv cs st) (i k cg : Nat) (f : Fun) (x : Int × Int) (hi : i < cs.length) (hf : st.funcs[i]? = some f) (hx : f.code[k]? = some x) (hcg : cs[i].ownBlock = some cg) (n : Int) :
    Rd B (w.setCell ⟨cg, k * 2 + 1, none⟩ (.int .i64 n)) b fv av uv cs (st.setN i k n) ∧ Below B w (w.setCell ⟨cg, k * 2 + 1, none⟩ (.int .i64 n)) := by
  have hi' : i < st.funcs.length := by rw [← h.len]; exact hi
  have hfe : st.funcs[i] = f := by rw [List.getElem?_eq_getElem hi'] at hf; exact Option.some.inj hf
  have hc := h.codes i hi hi'
  rw [hfe] at hc
  obtain ⟨cur, hcur⟩ := own_tag hc hcg
  have hg := grown_setCell w cg (k * 2 + 1) (.int .i64 n)
  have far : ∀ {e k' n' : Nat} {v : Value} {xs : List Value}, w.ownsRow B e k' v n' xs → e ≠ 42 → (w.setCell ⟨cg, k * 2 + 1, none⟩ (.int .i64 n)).ownsRow B e k' v n' xs := fun ho he => own_far ho hg (fun c => tag_ne hcur (Ne.symm he))
  have hbc : b ≠ cg := fun e => by
    have h1 := h.self
    rw [e] at h1
    exact tag_ne h1 (by decide) hcur
  refine ⟨⟨h.nine, h.le, ?_, by simp [St.setN, h.len], ?_, ?_, h.apart, far h.args (by decide), far h.uses (by decide)⟩, ?_⟩
  · rw [Below.heap_setCell _ _ _ _ (by simpa using hbc)]
    exact h.self
  · show World.ownsRow _ B 45 4 fv (st.funcs.modify i fun f => f.setN k n).length (funV (frs (st.funcs.modify i fun f => f.setN k n) cs))
    rw [frs_modify, List.length_modify]
    exact far h.fns (by decide)
  · intro j hj hj'
    have hj2 : j < st.funcs.length := by rw [← h.len]; exact hj
    have e2 : (st.setN i k n).funcs[j]'hj' = if i = j then (st.funcs[j]).setN k n else st.funcs[j] := by
      simp [St.setN, List.getElem_modify]
    rw [e2]
    by_cases hij : i = j
    · subst hij
      rw [if_pos rfl, hfe]
      have h1 := own_set (j := k * 2 + 1) (u := .int .i64 n) hc hcg
      rw [insV_set f.code k n x hx] at h1
      have e3 : (f.setN k n).code = f.code.set k (x.1, n) := by
        apply List.ext_getElem?
        intro q
        simp only [Fun.setN, List.getElem?_modify, List.getElem?_set]
        by_cases hq : k = q
        · subst hq
          have : k < f.code.length := by
            rcases Nat.lt_or_ge k f.code.length with h | h
            · exact h
            · rw [List.getElem?_eq_none h] at hx; cases hx
          have hxe : f.code[k] = x := by rw [List.getElem?_eq_getElem this] at hx; exact Option.some.inj hx
          simp [this, hxe]
        · simp [hq]
      rw [e3]
      simpa using h1
    · rw [if_neg hij]
      refine (h.codes j hj hj2).kept hg ?_
      rcases Nat.lt_or_ge j i with hlt | hge
      · have hp := (List.pairwise_iff_getElem.1 h.apart) j i hj hi hlt
        rw [← hcg]
        exact hp.ne
      · have hp := (List.pairwise_iff_getElem.1 h.apart) i j hi hj (by omega)
        cases hv : cs[j].ownBlock with
        | none => exact .inl rfl
        | some q =>
          refine .inr (fun e => ?_)
          have := hp cg q hcg hv
          simp at e
          omega
  · exact (Below.refl _ _).setCell (p := ⟨cg, k * 2 + 1, none⟩) ((hc.lt cg hcg).1) _
end Go.Proofs.YtfnloomcianbiaaGreatDoor
