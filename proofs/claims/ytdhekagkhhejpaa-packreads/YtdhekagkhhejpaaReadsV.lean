/- The walk of PackReads, whatever the sizes. -/
import Derived.Test.YtdhekagkhhejpaaReadsW
namespace Go.Proofs.Ytdhekagkhhejpaa
namespace packReads
open Go.RowKit

theorem walk (a0 : Option Addr) (l0 c0 : Nat) (bs : List Nat) (a1 : Option Addr) (l1 c1 : Nat) (cs : List Bool) (w : World) (hl0 : bs.length = l0) (hB : Byt bs) (hlc : l0 ≤ c0) (hcm : c0 ≤ maxLen ∧ (a0 = none → l0 = 0 ∧ c0 = 0)) (hr0 : Reads w a0 (bV bs)) (hl1 : cs.length = l1) (hr1 : Reads w a1 (tV cs)) :
    Calls Try.prog 4 #[.slice a0 l0 c0, .slice a1 l1 c1] w fun e w' => e = .returned (.bool true) ∧ Below w.heap.size w w' := by
  by_cases hbig : 2000 < l0 ∨ 500 < l1
  · exact walk_big a0 l0 c0 a1 l1 c1 w hbig
  · exact walk_small a0 l0 c0 bs a1 l1 c1 cs w hl0 hB hlc hcm hr0 hl1 hr1 (by omega) (by omega)
end packReads
end Go.Proofs.Ytdhekagkhhejpaa
