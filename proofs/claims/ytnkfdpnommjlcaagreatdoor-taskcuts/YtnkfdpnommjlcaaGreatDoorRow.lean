/- Rows of numbers of one's own: cut, appended. -/
import Derived.Test.YtnkfdpnommjlcaaGreatDoorMade
import Derived.BigRegion
import Derived.BigQuiet
namespace Go.Proofs.YtnkfdpnommjlcaaGreatDoor
open Go.RowKit Go.ChangeShapes Go.WideShapes Go.ChangeAt Go.Deep

theorem iV_one (xs : List Int) : ∀ v ∈ iV xs, v.oneCell' = true := by
  intro v hv
  obtain ⟨s, _, rfl⟩ := List.mem_map.1 hv
  rfl
theorem iV_app (a b : List Int) : iV (a ++ b) = iV a ++ iV b := by simp [iV]
theorem iV_len (a : List Int) : (iV a).length = a.length := by simp [iV]
/-- 'append(v, y...)', run: v a row of numbers of one's own, y a slice of numbers that is read, nil or not. -/
theorem run_append_ints (w : World) (B : Nat) (v : Value) (n : Nat) (xs ys : List Int) (ad : Option Addr) (m c : Nat) (hown : w.ownsRow B 3 1 v n (iV xs)) (hnil : ad = none → m = 0 ∧ c = 0) (hl : ys.length = m) (hr : Reads w ad (iV ys)) (hb : n + m ≤ 1000000) (hB : B ≤ w.heap.size) :
    ∃ v' w', (Builtin.append_ #[23, 23] 23 #[v, .slice ad m c]).run Tryz.prog w = .ok v' w' ∧ w'.ownsRow B 3 1 v' (n + m) (iV (xs ++ ys)) ∧ w.grownBy w' v.ownBlock := by
  obtain ⟨i0, hi, hz0, hz1, hz2⟩ := info_parts Tryz.info3
  cases ad with
  | none =>
    obtain ⟨rfl, rfl⟩ := hnil rfl
    have hy : ys = [] := by cases ys with | nil => rfl | cons _ _ => simp at hl
    subst hy
    refine ⟨v, w, run_append_owned_none (P := Tryz.prog) (w := w) B 23 23 3 i0 1 Tryz.underlying23 hi v n (iV xs) hown, by simpa using hown, ⟨rfl, rfl, rfl, Nat.le_refl _, fun _ _ _ => rfl⟩⟩
  | some a =>
    obtain ⟨v', w', h1, h2, h3, _⟩ := run_append_own (P := Tryz.prog) w B 23 23 3 i0 (.int .i64 0) 1 8 Tryz.underlying23 hi hz0 hz1 hz2 rfl (by decide) v n (iV xs) hown a m c (iV ys) (by rw [iV_len]; omega) (by
      rcases hr with hr | ⟨b, off, e, hr⟩
      · rw [hr]; simp
      · simp at e
        subst e
        intro j u hu
        rw [add_none]; exact hr j u hu) (iV_one ys) (by unfold maxLen; omega) (by omega) hB
    exact ⟨v', w', h1, by rw [iV_app]; exact h2, h3⟩
theorem own_cutI {w : World} {B n cap m : Nat} {a : Option Addr} {xs : List Int} (h : w.ownsRow B 3 1 (.slice a n cap) n (iV xs)) (hm : m ≤ n) : w.ownsRow B 3 1 (.slice a m cap) m (iV (xs.take m)) := by
  have e : iV (xs.take m) = (iV xs).take m := by simp [iV, List.map_take]
  rw [e]
  refine ⟨by have := h.1; simp; omega, ?_⟩
  rcases h.2 with ⟨e, h0⟩ | ⟨g, c, cur, e, h1, h2, h3, h4, h5, h6⟩
  · simp at e
    obtain ⟨rfl, _, rfl⟩ := e
    exact .inl ⟨by rw [show m = 0 by omega], by omega⟩
  · simp only [Value.slice.injEq] at e
    obtain ⟨rfl, _, rfl⟩ := e
    refine .inr ⟨g, cap, cur, rfl, h1, h2, by omega, h4, h5, ?_⟩
    rw [← h6, List.take_take, Nat.mul_one, Nat.mul_one, Nat.min_eq_left hm]
theorem own_belowI {w w' : World} {B n : Nat} {v : Value} {xs : List Value} (h : w.ownsRow B 3 1 v n xs) (hb : Below w.heap.size w w') : w'.ownsRow B 3 1 v n xs := by
  refine ⟨h.1, ?_⟩
  rcases h.2 with h | ⟨g, cap, cur, e, h1, h2, h3⟩
  · exact .inl h
  · refine .inr ⟨g, cap, cur, e, h1, ?_, h3⟩
    rw [hb.block g (by
      rcases Nat.lt_or_ge g w.heap.size with q | q
      · exact q
      · rw [Array.getElem?_eq_none q] at h2; cases h2)]
    exact h2
theorem own_monoI {w : World} {b b' n : Nat} {v : Value} {xs : List Value} (h : w.ownsRow b 3 1 v n xs) (hb : b' ≤ b) : w.ownsRow b' 3 1 v n xs := by
  refine ⟨h.1, ?_⟩
  rcases h.2 with h | ⟨g, cap, cur, e, h1, h2⟩
  · exact .inl h
  · exact .inr ⟨g, cap, cur, e, by omega, h2⟩
/-- A row whose block is untouched is as it was. -/
theorem own_keepI {w w' : World} {B n : Nat} {v : Value} {xs : List Value} (h : w.ownsRow B 3 1 v n xs) (hb : ∀ g, v.ownBlock = some g → w'.heap[g]? = w.heap[g]?) : w'.ownsRow B 3 1 v n xs := by
  refine ⟨h.1, ?_⟩
  rcases h.2 with h | ⟨g, cap, cur, e, h1, h2, h3⟩
  · exact .inl h
  · exact .inr ⟨g, cap, cur, e, h1, by rw [hb g (by rw [e]; rfl)]; exact h2, h3⟩
theorem own_formI {w : World} {B : Nat} {v : Value} {L : List Int} (ho : w.ownsRow B 3 1 v L.length (iV L)) : ∃ a cap, v = .slice a L.length cap ∧ L.length ≤ cap ∧ (a = none → L.length = 0 ∧ cap = 0) ∧ Reads w a (iV L) ∧ ∀ g, v.ownBlock = some g → B ≤ g ∧ g < w.heap.size := by
  rcases ho.2 with ⟨rfl, h0⟩ | ⟨g, cap, cur, rfl, h1, h2, h3, h4, h5, h6⟩
  · have : L = [] := List.eq_nil_of_length_eq_zero h0
    subst this
    exact ⟨none, 0, rfl, by simp, fun _ => ⟨rfl, rfl⟩, .inl rfl, fun g hg => by cases hg⟩
  · refine ⟨_, cap, rfl, h3, fun h => (by cases h), .inr ⟨g, 0, rfl, fun j u hu => ?_⟩, fun g' hg' => by
      cases hg'
      refine ⟨h1, ?_⟩
      rcases Nat.lt_or_ge g w.heap.size with q | q
      · exact q
      · rw [Array.getElem?_eq_none q] at h2; cases h2⟩
    have := ho.cells (g := g) rfl j u hu
    rwa [add_none] at this
end Go.Proofs.YtnkfdpnommjlcaaGreatDoor
