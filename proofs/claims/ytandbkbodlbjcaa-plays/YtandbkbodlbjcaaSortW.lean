/- IdentSorts answers true: its walk. -/
import Derived.Test.YtandbkbodlbjcaaSame
import Derived.SliceStrings
namespace Go.Proofs.Ytandbkbodlbjcaa
open Go.RowKit Go.ChangeShapes Go.WideShapes Go.ChangeAt Go.Deep Go.Sort

theorem arg_names {H : Type} {enc : TypeId × Value → H} {W : World} {t e : TypeId} (ht : Try.prog.underlying t = some (.slice e)) (he : Try.prog.underlying e = some .string) (hc : Try.prog.cellsOf e = 1)
    {a : Option Addr} {len cap : Nat} {d : DataW H} {p : List MemPlace} (h : DataW.Trod enc Try.prog W 0 (fun _ => true) true t (.slice a len cap) d p) :
    ∃ ns : List ByteArray, ns.length = len ∧ len ≤ cap ∧ (cap ≤ maxLen ∧ (a = none → len = 0 ∧ cap = 0)) ∧ Reads W a (nV ns) ∧ ∀ s ∈ ns, s.size ≤ maxLen := by
  obtain ⟨fuel, hf⟩ := h
  rcases open_strings ht he hc hf with ⟨hcs, _⟩ | ⟨x, l, c, zs, hcs, _, hl, hm, hz, _, hcell, hwz⟩
  · simp [Value.cells] at hcs
    obtain ⟨rfl, rfl, rfl⟩ := hcs
    exact ⟨[], rfl, Nat.le_refl _, ⟨by unfold maxLen; omega, fun _ => ⟨rfl, rfl⟩⟩, .inl rfl, fun s hs => by cases hs⟩
  · simp [Value.cells] at hcs
    obtain ⟨rfl, rfl, rfl⟩ := hcs
    have hzl : zs.length = cap := by simpa using hz
    refine ⟨zs.take len, by simp; omega, hl, ⟨hm, fun h => by cases h⟩, ?_, fun s hs => hwz s (List.mem_of_mem_take hs)⟩
    by_cases h0 : len = 0
    · exact .inl (by simp [nV, h0])
    · have hz0 := hcell 0 (by omega)
      obtain ⟨b, off, rfl⟩ := reads_plain hz0 ⟨_, hz0⟩
      refine .inr ⟨b, off, rfl, fun j u hu => ?_⟩
      have hj : j < len := by
        rcases Nat.lt_or_ge j len with h | h
        · exact h
        · rw [List.getElem?_eq_none (by simp [nV]; omega)] at hu; cases hu
      have hjz : j < zs.length := by omega
      have := hcell j hjz
      rw [add_none] at this
      rw [this]
      simp [nV, hj, hjz] at hu
      subst hu
      simp [List.getD, hjz]

theorem stored_own {w : World} {B g n cap j : Nat} {xs : List Value} (v : Value) (ho : w.ownsRow B 31 1 (.slice (some ⟨g, 0, none⟩) n cap) n xs) :
    (w.setCell ⟨g, j, none⟩ v).ownsRow B 31 1 (.slice (some ⟨g, 0, none⟩) n cap) n (xs.set j v) ∧ w.grownBy (w.setCell ⟨g, j, none⟩ v) (some g) := ho.stored j v

end Go.Proofs.Ytandbkbodlbjcaa
