/- NetPlays answers true, whatever the acts. -/
import Derived.Test.YtmjglgdihlomlaaPlW
namespace Go.Proofs.Ytmjglgdihlomlaa
namespace netPlays
open Go.RowKit Go.ChangeShapes Go.WideShapes Go.ChangeAt Go.Deep

set_option maxRecDepth 100000 in
theorem walk_skip (a : Option Addr) (n c : Nat) (ls : List Am) (w : World) (hm : n ≤ maxLen) (hR : RowA (OldB w) w a n ls) (hbg : (decide (200 < n) || ls.any bigA) = true) :
    Calls Try.prog 3 #[.slice a n c] w fun e w' => e = .returned (.bool true) ∧ Below w.heap.size w w' := by
  have C8 := hide (show ∀ W, Below w.heap.size w W → Calls Try.prog 8 #[.slice a n c] W fun e w' => e = .returned (.bool true) ∧ w' = W from fun W hb => by
    have := big_any (OldB w) W a n c ls (hR.keep fun k hk _ => hb.block k hk) (by unfold maxLen at hm; omega)
    rw [hbg] at this
    exact this)
  clear hR hbg
  go_enter Try.func3, Try.ntmps3
  go_wp2_with (first
    | (go_at_call 7; go_must ((with_reducible refine (alive_any w).mono ?_); rintro e w1 ⟨rfl, hb1⟩; have HB1 := hide hb1; clear hb1))
    | (go_at_call 8; go_must ((with_reducible refine (C8.out _ HB1.out).mono ?_); rintro e w9 ⟨rfl, hw⟩; have hw' : w1 = w9 := hw.symm; subst hw')))
  go_ret
  exact ⟨rfl, HB1.out⟩

/-- NetPlays answers true for every input. -/
theorem walk (a : Option Addr) (n c : Nat) (ls : List Am) (w : World) (hm : n ≤ maxLen) (hR : RowA (OldB w) w a n ls) (hwf : ∀ y ∈ ls, wfA y) :
    Calls Try.prog 3 #[.slice a n c] w fun e w' => e = .returned (.bool true) ∧ Below w.heap.size w w' := by
  by_cases h : (decide (200 < n) || ls.any bigA) = true
  · exact walk_skip a n c ls w hm hR h
  · rw [Bool.not_eq_true, Bool.or_eq_false_iff, decide_eq_false_iff_not] at h
    exact walk_main a n c ls w (by omega) hR hwf h.2
end netPlays
end Go.Proofs.Ytmjglgdihlomlaa
