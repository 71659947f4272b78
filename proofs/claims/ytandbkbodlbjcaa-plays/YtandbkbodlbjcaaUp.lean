/- Kid, Up, apart: the code's and the document's own; the example. -/
import Derived.Test.YtandbkbodlbjcaaKid
import Derived.Deep.QuietTactic
namespace Go.Proofs.Ytandbkbodlbjcaa
open Go.RowKit Go.ChangeShapes Go.WideShapes Go.ChangeAt Go.Deep
theorem u8_of {k : Int} (h0 : 0 ≤ k) (h1 : k < 256) : (k.toNat.toUInt8.toNat : Int) = k := by
  simp
  omega
theorem wrap8 {k : Int} (h0 : 0 ≤ k) (h1 : k < 256) : IntKind.u8.wrap k = k := by
  unfold IntKind.wrap
  simp [IntKind.signed, IntKind.bits]
  omega
theorem apart_any (s : ByteArray) (hs : s.size ≤ 281474976710656) (w : World) : Calls Try.prog 56 #[.string s] w fun e w' => e = .returned (.string s) ∧ Below w.heap.size w w' := by
  have C := fun w => Try.stringslite_Clone s w hs
  go_enter Try.func56, Try.ntmps56
  go_wp2_with (first | (go_at_call 57; go_must (with_reducible refine (C _).mono ?_; (rintro e wz ⟨rfl, hwz⟩))) | go_in)
  go_ret
  exact ⟨rfl, hwz⟩
end Go.Proofs.Ytandbkbodlbjcaa
