/- ViewTells' walk, whole. -/
import Derived.Test.YthjkfpcbbjmclaaTelW
import Derived.Test.YthjkfpcbbjmclaaArg
namespace Go.Proofs.Ythjkfpcbbjmclaa
open Go.RowKit Go.ChangeShapes Go.WideShapes Go.ChangeAt Go.Deep
namespace viewTells

set_option maxRecDepth 100000 in
set_option maxHeartbeats 1000000 in
theorem walk0 (ep : Int) (a : Option Addr) (l c : Nat) (b : Option Addr) (m d : Nat) (nd lf x : Int) (w : World) (h : 200 < l ∨ 100 < m) :
    Calls Try.prog 3 #[.agg #[.int .i64 ep, .slice a l c], .slice b m d, .int .i64 nd, .int .i64 lf, .int .i64 x] w fun e w' => e = .returned (.bool true) ∧ Below w.heap.size w w' := by
  have HB0 := hide (below_new w (.cells #[.int .i64 ep, .slice a l c] 24))
  have HX0 := hide (BoxL.new w [.int .i64 ep, .slice a l c] 24)
  obtain ⟨V, hV⟩ : ∃ V, V = w.alloc (.cells #[.int .i64 ep, .slice a l c] 24) := ⟨_, rfl⟩
  have HX := hide (show BoxL V w.heap.size [.int .i64 ep, .slice a l c] by rw [hV]; exact HX0.out)
  rw [← hV] at HB0
  have HV := hide hV
  have C8 := hide (alive_any V)
  have C9 := hide (fun X => big_any ep a l c X)
  clear hV HX0
  by_cases h0 : 200 < l
  · have qb : decide (200 < l) = true := by simpa using h0
    rw [qb] at C9
    clear h h0 qb
    go_enter Try.func3, Try.ntmps3
    go_upto_region 1 with fail
    rw [← HV.out]
    go_upto_region 2 with (go_at_call 8; go_must ((with_reducible refine C8.out.mono ?_); rintro e w1 ⟨rfl, hb1⟩; have HQ1 := hide hb1; clear hb1))
    obtain ⟨⟨x0, x1⟩, -⟩ := (HX.out.below HQ1.out).c2
    go_wp2_with (go_at_call 9; go_must ((with_reducible refine (C9.out _).mono ?_); rintro e w2 ⟨rfl, hb2⟩; have HQ2 := hide (HQ1.out.trans (hb2.mono HQ1.out.size)); clear hb2))
    go_ret
    exact ⟨rfl, HB0.out.trans (HQ2.out.mono HB0.out.size)⟩
  · have qb : decide (200 < l) = false := by simpa using h0
    have hm : (100 : Int) < (m : Int) := by omega
    rw [qb] at C9
    clear h h0 qb
    go_enter Try.func3, Try.ntmps3
    go_upto_region 1 with fail
    rw [← HV.out]
    go_upto_region 2 with (go_at_call 8; go_must ((with_reducible refine C8.out.mono ?_); rintro e w1 ⟨rfl, hb1⟩; have HQ1 := hide hb1; clear hb1))
    obtain ⟨⟨x0, x1⟩, -⟩ := (HX.out.below HQ1.out).c2
    go_wp2_with (go_at_call 9; go_must ((with_reducible refine (C9.out _).mono ?_); rintro e w2 ⟨rfl, hb2⟩; have HQ2 := hide (HQ1.out.trans (hb2.mono HQ1.out.size)); clear hb2))
    go_ret
    exact ⟨rfl, HB0.out.trans (HQ2.out.mono HB0.out.size)⟩
theorem walk (ep : Int) (ms : List Mb) (a : Option Addr) (l c : Nat) (b : Option Addr) (m d : Nat) (ns : List Int) (nd lf x : Int) (w : World) (hl : ms.length = l) (_hc : l ≤ c ∧ c ≤ maxLen) (hnil : a = none → l = 0 ∧ c = 0) (hr : Reads w a (mV ms)) (_h1 : In64i ep) (_h2 : ∀ y ∈ ms, In64i y.1 ∧ In64i y.2)
    (hm : ns.length = m) (_hi : In64 ns) (hs : Reads w b (iV ns)) (_b1 : -9223372036854775808 ≤ nd ∧ nd ≤ 9223372036854775807) (_b2 : -9223372036854775808 ≤ lf ∧ lf ≤ 9223372036854775807) (_b3 : -9223372036854775808 ≤ x ∧ x ≤ 9223372036854775807) :
    Calls Try.prog 3 #[.agg #[.int .i64 ep, .slice a l c], .slice b m d, .int .i64 nd, .int .i64 lf, .int .i64 x] w fun e w' => e = .returned (.bool true) ∧ Below w.heap.size w w' := by
  by_cases h : 200 < l ∨ 100 < m
  · exact walk0 ep a l c b m d nd lf x w h
  · exact walk1 ep ms a l c b m d ns nd lf x w hl (by omega) hr hnil hm (by omega) hs
end viewTells
end Go.Proofs.Ythjkfpcbbjmclaa
