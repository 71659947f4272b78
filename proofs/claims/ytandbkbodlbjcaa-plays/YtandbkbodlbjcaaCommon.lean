/- Common: the longest name that all begin with; the code's and the document's own. -/
import Derived.Test.YtandbkbodlbjcaaUp2
namespace Go.Proofs.Ytandbkbodlbjcaa
open Go.RowKit Go.ChangeShapes Go.WideShapes Go.ChangeAt Go.Deep
theorem at_some {s : ByteArray} {k : Nat} (h : k < s.size) : ∃ x, s.data.toList[k]? = some x := ⟨s.data.toList[k]'(by rw [← Lib.size_eq]; exact h), List.getElem?_eq_getElem _⟩

/-- Names, as values. -/
def nV (l : List ByteArray) : List Value := l.map Value.string
theorem extract_size (c : ByteArray) (k : Nat) : (c.extract 0 k).size ≤ c.size := by
  rw [extract_bs, bs_size, Lib.size_eq]; simp; omega
theorem reads_nV {w : World} {a : Option Addr} {l : List ByteArray} {k : Nat} {x : ByteArray} (h : Reads w a (nV l)) (hk : l[k]? = some x) : ∃ b off, a = some ⟨b, off, none⟩ ∧ Hid (∀ j y, l[j]? = some y → w.cell? ⟨b, off + j, none⟩ = some (.string y)) := by
  rcases h with h | ⟨b, off, e, h⟩
  · have : l = [] := by simpa [nV] using h
    subst this; simp at hk
  · exact ⟨b, off, e, fun j y hy => h j _ (by simp [nV, hy])⟩

end Go.Proofs.Ytandbkbodlbjcaa
