/- Line by line: what readL makes of a text that is put together of lines. -/
import Derived.Test.YtfnloomcianbiaaGreatDoorPure
namespace Go.Proofs.YtfnloomcianbiaaGreatDoor
open Go.RowKit Go.ChangeShapes Go.WideShapes Go.ChangeAt Go.Deep

theorem head_eval (l1 l2 r : List UInt8) (h1 : (10 : UInt8) ∉ l1) (h2 : (10 : UInt8) ∉ l2) {x y : Int} {nm : ByteArray} {vs : List Int} (hj : jobL (wordsOf (bs l1)) = some (x, y)) (hm : mainL (wordsOf (bs l2)) = some (nm, vs)) :
    headL (St.begin (bs (l1 ++ 10 :: (l2 ++ 10 :: r)))) = .ok ⟨bs r, 2, [], 0, vs, x, y, [⟨nm, 2, -1, 0⟩]⟩ := by
  obtain ⟨a1, a2, a3⟩ := cut_line l1 (l2 ++ 10 :: r) h1
  obtain ⟨b1, b2, b3⟩ := cut_line l2 r h2
  have e1 : lineOf (St.begin (bs (l1 ++ 10 :: (l2 ++ 10 :: r)))) = wordsOf (bs l1) := by
    unfold lineOf
    show wordsOf (cutFirst (bs (l1 ++ 10 :: (l2 ++ 10 :: r)))) = _
    rw [a1]
  unfold headL
  rw [e1, hj, show (St.begin (bs (l1 ++ 10 :: (l2 ++ 10 :: r)))).rest = bs (l1 ++ 10 :: (l2 ++ 10 :: r)) from rfl, a3, if_pos rfl]
  have e2 : (St.begin (bs (l1 ++ 10 :: (l2 ++ 10 :: r)))).next = ⟨bs (l2 ++ 10 :: r), 1, [], 0, [], 0, 0, []⟩ := by
    unfold St.next
    show St.mk (cutRest (bs (l1 ++ 10 :: (l2 ++ 10 :: r)))) _ _ _ _ _ _ _ = _
    rw [a2]; rfl
  simp only [e2]
  rw [b3, if_pos rfl]
  have e3 : lineOf ⟨bs (l2 ++ 10 :: r), 1, [], 0, [], x, y, []⟩ = wordsOf (bs l2) := by
    unfold lineOf
    show wordsOf (cutFirst (bs (l2 ++ 10 :: r))) = _
    rw [b1]
  rw [e3, hm]
  simp only [St.next, b2]
  rfl

/-- A reader at a line. -/
theorem line_at (st : St) (l r : List UInt8) (h : (10 : UInt8) ∉ l) (hst : st.rest = bs (l ++ 10 :: r)) : cutWhole st.rest = true ∧ lineOf st = wordsOf (bs l) ∧ cutRest st.rest = bs r ∧ st.next = { st with rest := bs r, line := st.line + 1 } := by
  obtain ⟨a1, a2, a3⟩ := cut_line l r h
  refine ⟨by rw [hst]; exact a3, by unfold lineOf; rw [hst, a1], by rw [hst]; exact a2, ?_⟩
  unfold St.next
  rw [hst, a2]

theorem body_func (n : Nat) (st : St) (l r : List UInt8) (h : (10 : UInt8) ∉ l) (hst : st.rest = bs (l ++ 10 :: r)) (he : isEnd (wordsOf (bs l)) = false) {f : Fun} (hf : funcL (wordsOf (bs l)) st.funcs = some f) :
    bodyL (n + 1) st = bodyL n { st with rest := bs r, line := st.line + 1, funcs := st.funcs ++ [f] } := by
  obtain ⟨a1, a2, _, a4⟩ := line_at st l r h hst
  rw [bodyL, a1, a2, he, a4]
  simp only [if_true, hf, Bool.false_eq_true, if_false]

theorem body_ins (n : Nat) (st : St) (l r : List UInt8) (h : (10 : UInt8) ∉ l) (hst : st.rest = bs (l ++ 10 :: r)) (he : isEnd (wordsOf (bs l)) = false) (hf : funcL (wordsOf (bs l)) st.funcs = none) {st' : St} (hi : insStep { st with rest := bs r, line := st.line + 1 } (wordsOf (bs l)) = some st') :
    bodyL (n + 1) st = bodyL n st' := by
  obtain ⟨a1, a2, _, a4⟩ := line_at st l r h hst
  rw [bodyL, a1, a2, he, a4]
  simp only [if_true, hf, Bool.false_eq_true, if_false, hi]

theorem body_end (n : Nat) (st : St) (hst : st.rest = bs [101, 110, 100, 10]) : bodyL (n + 1) st = .ok { st with rest := bs [], line := st.line + 1 } := by
  have hl : (10 : UInt8) ∉ ([101, 110, 100] : List UInt8) := by decide
  obtain ⟨a1, a2, a3, a4⟩ := line_at st [101, 110, 100] [] hl hst
  have he : isEnd (wordsOf (bs [101, 110, 100])) = true := by kernel_rfl
  have hz : (bs []).toList.isEmpty = true := by kernel_rfl
  rw [bodyL, a1, a2, he, a4, a3, hz]
  simp
end Go.Proofs.YtfnloomcianbiaaGreatDoor
