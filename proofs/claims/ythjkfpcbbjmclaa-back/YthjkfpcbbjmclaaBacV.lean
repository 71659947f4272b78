/- ViewBack's walk, where the numbers are none; and whole. -/
import Derived.Test.YthjkfpcbbjmclaaBacW
namespace Go.Proofs.Ythjkfpcbbjmclaa
open Go.RowKit Go.ChangeShapes Go.WideShapes Go.ChangeAt Go.Deep
namespace viewBack
set_option maxRecDepth 100000 in
set_option maxHeartbeats 1000000 in
theorem walk0 (n k lf : Int) (w : World) (h : n < 2 ∨ 16 < n ∨ k < 1 ∨ n ≤ k ∨ lf < 2 ∨ 2147483647 < lf) : Calls Try.prog 6 #[.int .i64 n, .int .i64 k, .int .i64 lf] w fun e w' => e = .returned (.bool true) ∧ Below w.heap.size w w' := by
  have C8 := hide (alive_any w)
  by_cases h0 : n < 2
  · clear h
    go_enter Try.func6, Try.ntmps6
    go_wp2_with (go_at_call 8; go_must ((with_reducible refine C8.out.mono ?_); rintro e w1 ⟨rfl, hb1⟩; have HB1 := hide hb1; clear hb1))
    go_ret
    exact ⟨rfl, HB1.out⟩
  · skip
    by_cases h1 : 16 < n
    · clear h
      go_enter Try.func6, Try.ntmps6
      go_wp2_with (go_at_call 8; go_must ((with_reducible refine C8.out.mono ?_); rintro e w1 ⟨rfl, hb1⟩; have HB1 := hide hb1; clear hb1))
      go_ret
      exact ⟨rfl, HB1.out⟩
    · skip
      by_cases h2 : k < 1
      · clear h
        go_enter Try.func6, Try.ntmps6
        go_wp2_with (go_at_call 8; go_must ((with_reducible refine C8.out.mono ?_); rintro e w1 ⟨rfl, hb1⟩; have HB1 := hide hb1; clear hb1))
        go_ret
        exact ⟨rfl, HB1.out⟩
      · skip
        by_cases h3 : n ≤ k
        · clear h
          go_enter Try.func6, Try.ntmps6
          go_wp2_with (go_at_call 8; go_must ((with_reducible refine C8.out.mono ?_); rintro e w1 ⟨rfl, hb1⟩; have HB1 := hide hb1; clear hb1))
          go_ret
          exact ⟨rfl, HB1.out⟩
        · skip
          by_cases h4 : lf < 2
          · clear h
            go_enter Try.func6, Try.ntmps6
            go_wp2_with (go_at_call 8; go_must ((with_reducible refine C8.out.mono ?_); rintro e w1 ⟨rfl, hb1⟩; have HB1 := hide hb1; clear hb1))
            go_ret
            exact ⟨rfl, HB1.out⟩
          · skip
            have h5 : 2147483647 < lf := by omega
            clear h
            go_enter Try.func6, Try.ntmps6
            go_wp2_with (go_at_call 8; go_must ((with_reducible refine C8.out.mono ?_); rintro e w1 ⟨rfl, hb1⟩; have HB1 := hide hb1; clear hb1))
            go_ret
            exact ⟨rfl, HB1.out⟩
theorem walk (n k lf : Int) (w : World) (_h1 : -9223372036854775808 ≤ n ∧ n ≤ 9223372036854775807) (_h2 : -9223372036854775808 ≤ k ∧ k ≤ 9223372036854775807) (_h3 : -9223372036854775808 ≤ lf ∧ lf ≤ 9223372036854775807) :
    Calls Try.prog 6 #[.int .i64 n, .int .i64 k, .int .i64 lf] w fun e w' => e = .returned (.bool true) ∧ Below w.heap.size w w' := by
  by_cases h : n < 2 ∨ 16 < n ∨ k < 1 ∨ n ≤ k ∨ lf < 2 ∨ 2147483647 < lf
  · exact walk0 n k lf w h
  · obtain ⟨m, rfl⟩ : ∃ m : Nat, n = (m : Int) := ⟨n.toNat, by omega⟩
    obtain ⟨j, rfl⟩ : ∃ j : Nat, k = (j : Int) := ⟨k.toNat, by omega⟩
    exact back_walk m j lf w (by omega) (by omega) (by omega) (by omega) (by omega)
end viewBack
end Go.Proofs.Ythjkfpcbbjmclaa
