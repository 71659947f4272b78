/- Out, In, New. -/
import Derived.Test.YtcfenakafcfjbaaHea
namespace Go.Proofs.Ytcfenakafcfjbaa
open Go.RowKit Go.ChangeShapes Go.WideShapes Go.ChangeAt Go.Deep Go.Maps

def inQ (F G : Int → Option Int) (x life now : Int) : Bool := !(F x).isSome && (okT life && okT now) && !((G x).isSome && decide (life ≤ (G x).getD 0))

set_option maxRecDepth 100000 in
set_option maxHeartbeats 2000000 in
theorem in_no {E : Cl} {w : World} {cb N : Nat} {wt : Int} {F G : Int → Option Int} (h : BeM E w cb wt N F G) (x life now : Int) (hx : I64 x) (hq : inQ F G x life now = false) :
    Calls Try.prog 13 #[.pointer (some ⟨cb, 0, none⟩), .int .i64 x, .int .i64 life, .int .i64 now] w fun e w' => e = .returned (.bool false) ∧ Below w.heap.size w w' := by
  have C24 := hide (watches_any h x hx)
  have hb := below_new w (.cells #[.int .i64 life, .int .i64 now] 3)
  obtain ⟨h1, h2, hw, v1, v2, hB, hF, hG, h6⟩ := h.below hb
  obtain ⟨c2, f2⟩ := hB.at (o := 2) rfl
  have l2 := (hG.look hx).1
  have C22 := hide (may_any (w.alloc (.cells #[.int .i64 life, .int .i64 now] 3)) [life, now] (some ⟨w.heap.size, 0, none⟩) 2 2 rfl (by omega) (reads2 w life now))
  have e : [life, now].all okT = (okT life && okT now) := by simp
  rw [e] at C22
  have HB := hide hb
  have HQ := hide hq
  unfold inQ at HQ
  generalize (F x).isSome = q1 at C24 HQ
  generalize (okT life && okT now) = q2 at C22 HQ
  generalize (G x).isSome = q3 at l2 HQ
  generalize (G x).getD 0 = g at l2 HQ
  clear hF hG h6 h1 hB hb e hq h
  cases q1
  · cases q2
    · clear HQ
      go_enter Try.func13, Try.ntmps13
      go_wp2_with (first
        | (go_at_call 24; (with_reducible refine C24.out.mono ?_); rintro e w1 ⟨rfl, hw1⟩; subst hw1)
        | (go_at_call 22; go_must ((with_reducible refine C22.out.mono ?_); rintro e w1 ⟨rfl, hw1⟩; subst hw1)))
      go_ret
      exact ⟨rfl, HB.out⟩
    · cases q3
      · have := HQ.out
        simp at this
      · have hle : decide (life ≤ g) = true := by have := HQ.out; simpa using this
        have hle' : life ≤ g := by simpa using hle
        clear HQ
        go_enter Try.func13, Try.ntmps13
        go_wp2_with (first
          | (go_at_call 24; (with_reducible refine C24.out.mono ?_); rintro e w1 ⟨rfl, hw1⟩; subst hw1)
          | (go_at_call 22; go_must ((with_reducible refine C22.out.mono ?_); rintro e w1 ⟨rfl, hw1⟩; subst hw1)))
        go_ret
        exact ⟨rfl, HB.out⟩
  · clear HQ
    go_enter Try.func13, Try.ntmps13
    go_wp2_with (first
      | (go_at_call 24; (with_reducible refine C24.out.mono ?_); rintro e w1 ⟨rfl, hw1⟩; subst hw1)
      | (go_at_call 22; go_must ((with_reducible refine C22.out.mono ?_); rintro e w1 ⟨rfl, hw1⟩; subst hw1)))
    go_ret
    exact ⟨rfl, Below.refl _ _⟩

set_option maxRecDepth 100000 in
set_option maxHeartbeats 2000000 in
theorem in_yes {E : Cl} {w : World} {cb N : Nat} {wt : Int} {F G : Int → Option Int} (h : BeM E w cb wt N F G) (hN : N ≤ 100000) (x life now : Int) (hx : I64 x) (hl : I64 life) (hn : I64 now) (hq : inQ F G x life now = true) :
    Calls Try.prog 13 #[.pointer (some ⟨cb, 0, none⟩), .int .i64 x, .int .i64 life, .int .i64 now] w fun e w' => e = .returned (.bool true) ∧ ∃ E', BeM E' w' cb wt (N + 1) (upd F x now) (upd G x life) ∧ Stp E E' w w' := by
  have C24 := hide (watches_any h x hx)
  have hb := below_new w (.cells #[.int .i64 life, .int .i64 now] 3)
  have h' := h.below hb
  have C20 := hide (watch_any h' hN x life now hx hl hn)
  obtain ⟨h1, h2, hw, v1, v2, hB, hF, hG, h6⟩ := h'
  obtain ⟨c2, f2⟩ := hB.at (o := 2) rfl
  have l2 := (hG.look hx).1
  have C22 := hide (may_any (w.alloc (.cells #[.int .i64 life, .int .i64 now] 3)) [life, now] (some ⟨w.heap.size, 0, none⟩) 2 2 rfl (by omega) (reads2 w life now))
  have e : [life, now].all okT = (okT life && okT now) := by simp
  rw [e] at C22
  have HB := hide hb
  have HQ := hide hq
  unfold inQ at HQ
  generalize (F x).isSome = q1 at C24 HQ
  generalize (okT life && okT now) = q2 at C22 HQ
  generalize (G x).isSome = q3 at l2 HQ
  generalize (G x).getD 0 = g at l2 HQ
  clear hF hG h6 h1 hB hb e hq h
  cases q1
  · cases q2
    · have := HQ.out
      simp at this
    · cases q3
      · clear HQ
        go_enter Try.func13, Try.ntmps13
        go_wp2_with (first
          | (go_at_call 24; (with_reducible refine C24.out.mono ?_); rintro e w1 ⟨rfl, hw1⟩; subst hw1)
          | (go_at_call 20; (with_reducible refine C20.out.mono ?_); rintro e w1 ⟨rfl, E1, hM1, hS1⟩; have HM1 := hide hM1; have HS1 := hide hS1; clear hM1 hS1)
          | (go_at_call 22; go_must ((with_reducible refine C22.out.mono ?_); rintro e w1 ⟨rfl, hw1⟩; subst hw1)))
        go_ret
        exact ⟨rfl, E1, HM1.out, (Stp.ofB HB.out).trans HS1.out⟩
      · have hle : decide (life ≤ g) = false := by have := HQ.out; simpa using this
        clear HQ
        go_enter Try.func13, Try.ntmps13
        go_wp2_with (first
          | (go_at_call 24; (with_reducible refine C24.out.mono ?_); rintro e w1 ⟨rfl, hw1⟩; subst hw1)
          | (go_at_call 20; (with_reducible refine C20.out.mono ?_); rintro e w1 ⟨rfl, E1, hM1, hS1⟩; have HM1 := hide hM1; have HS1 := hide hS1; clear hM1 hS1)
          | (go_at_call 22; go_must ((with_reducible refine C22.out.mono ?_); rintro e w1 ⟨rfl, hw1⟩; subst hw1)))
        go_ret
        exact ⟨rfl, E1, HM1.out, (Stp.ofB HB.out).trans HS1.out⟩
  · have := HQ.out
    simp at this
end Go.Proofs.Ytcfenakafcfjbaa
