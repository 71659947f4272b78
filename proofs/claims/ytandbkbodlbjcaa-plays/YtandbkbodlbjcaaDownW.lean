/- IdentDown answers true: its walk. -/
import Derived.Test.YtandbkbodlbjcaaCommon
namespace Go.Proofs.Ytandbkbodlbjcaa
open Go.RowKit Go.ChangeShapes Go.WideShapes Go.ChangeAt Go.Deep

theorem Try.info31 : (Try.prog.info? 31).map (fun i => (i.zero, i.size, i.bytes)) = some (some (.string ⟨#[]⟩), 1, 16) := by kernel_rfl
theorem reads_ownN {w : World} {B n : Nat} {v : Value} {xs : List ByteArray} (h : w.ownsRow B 31 1 v n (nV xs)) :
    ∃ a cap, v = .slice a xs.length cap ∧ xs.length ≤ cap ∧ cap ≤ maxLen ∧ Reads w a (nV xs) := by
  have hn : n = xs.length := by have := h.1; simp [nV] at this; omega
  have h' := h
  subst hn
  rcases h.2 with ⟨rfl, h0⟩ | ⟨g, cap, cur, rfl, _, _, h3, h4, _⟩
  · refine ⟨none, 0, by rw [h0], by omega, by unfold maxLen; omega, .inl ?_⟩
    have : xs = [] := List.eq_nil_of_length_eq_zero h0
    rw [this]; rfl
  · refine ⟨_, cap, rfl, h3, h4, .inr ⟨g, 0, rfl, fun j u hu => ?_⟩⟩
    have := h'.cells (g := g) rfl j u hu
    rwa [add_none] at this

theorem own_belowN {w w' : World} {B n : Nat} {v : Value} {xs : List Value} (h : w.ownsRow B 31 1 v n xs) (hb : Below w.heap.size w w') : w'.ownsRow B 31 1 v n xs := by
  refine ⟨h.1, ?_⟩
  rcases h.2 with h | ⟨g, cap, cur, e, h1, h2, h3⟩
  · exact .inl h
  · refine .inr ⟨g, cap, cur, e, h1, ?_, h3⟩
    rw [hb.block g (by
      rcases Nat.lt_or_ge g w.heap.size with q | q
      · exact q
      · rw [Array.getElem?_eq_none q] at h2; cases h2)]
    exact h2

end Go.Proofs.Ytandbkbodlbjcaa
