/- The document's own looks: two rows of numbers, two states, two results are one. -/
import Derived.Test.YtlhfjeohhfdccaaDoorPlyG
namespace Go.Proofs.YtlhfjeohhfdccaaDoor
open Go.RowKit Go.ChangeShapes Go.WideShapes Go.ChangeAt Go.Deep

set_option linter.unusedSimpArgs false in
set_option maxRecDepth 100000 in
set_option maxHeartbeats 2000000 in
theorem same_ints (a b : Option Addr) (ac bc n : Nat) (xs : List Int) (w : World) (hl : xs.length = n) (hn : n ≤ 1000000000) (hra : Reads w a (iV xs)) (hrb : Reads w b (iV xs)) : Calls Tryd.prog 14 #[.slice a n ac, .slice b n bc] w fun e w' => e = .returned (.bool true) ∧ Below w.heap.size w w' := by
  go_enter Tryd.func14, Tryd.ntmps14
  go_wp2_with fail
  go_loopw [5] (fun i wr => Hid (Below w.heap.size w wr) ∧ ∃ k : Nat, k ≤ n ∧ i = .int .i64 (k : Nat)) (fun i _ => n - (intOf i).toNat)
  case atStart => exact ⟨Below.refl _ _, 0, Nat.zero_le _, rfl⟩
  case round =>
    obtain ⟨hbw, k, hk, rfl⟩ := hrel
    by_cases hlt : k < n
    · have hlt' : (k : Int) < (n : Int) := by omega
      have hx : xs[k]? = some (xs[k]'(by omega)) := List.getElem?_eq_getElem (by omega)
      generalize xs[k]'(by omega) = x at hx
      obtain ⟨b1, o1, e1, c1⟩ := reads_iV (hra.below hbw.out) hx
      obtain ⟨b2, o2, e2, c2⟩ := reads_iV (hrb.below hbw.out) hx
      subst e1
      subst e2
      have hxx : (x != x) = false := by simp
      go_wp2_with fail
      go_big_quiet (fail)
      have HB := hide (below_drewN' hbw.out nq)
      go_wp2_with fail
      go_roundw
      case rel => exact ⟨HB, k + 1, by omega, by go_num⟩
      case measure => simp [intOf]; omega
    · have hlt' : ¬ (k : Int) < (n : Int) := by omega
      go_wp2_with fail
      go_ret
      exact ⟨rfl, hbw.out⟩

end Go.Proofs.YtlhfjeohhfdccaaDoor
