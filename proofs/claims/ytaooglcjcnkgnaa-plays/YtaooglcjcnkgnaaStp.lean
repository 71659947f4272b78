/- goOn and Step. -/
import Derived.Test.YtaooglcjcnkgnaaPshA
import Derived.Test.YtaooglcjcnkgnaaPshB
import Derived.Test.YtaooglcjcnkgnaaPshC
import Derived.Test.YtaooglcjcnkgnaaPshD
import Derived.Test.YtaooglcjcnkgnaaPopA
import Derived.Test.YtaooglcjcnkgnaaPopC
import Derived.Test.YtaooglcjcnkgnaaPopD3
import Derived.Test.YtaooglcjcnkgnaaPopE
import Derived.Test.YtaooglcjcnkgnaaPopF
import Derived.Test.YtaooglcjcnkgnaaSteA
import Derived.Test.YtaooglcjcnkgnaaSteB
import Derived.Test.YtaooglcjcnkgnaaSteC
import Derived.Test.YtaooglcjcnkgnaaSteD
namespace Go.Proofs.Ytaooglcjcnkgnaa
open Go.RowKit Go.ChangeShapes Go.WideShapes Go.ChangeAt Go.Deep

theorem push_any (w : World) (cb g : Nat) (d : Dq) (p : Nat) (hp : p < 16) (h : DqM w cb g d) (hs : Sml 1000000 d) : Calls Try.prog 37 #[.pointer (some ⟨cb, 0, none⟩), .pointer (some ⟨cb, 3 + p * 7, none⟩)] w (GoPost cb g (pushD d p) w) := by
  by_cases h1 : (d.c p).s = 1
  · exact push_a w cb g d p hp h hs h1
  by_cases h2 : (d.c p).s = 2
  · by_cases hg : (d.n : Int) - 1 ≤ (d.c p).b - d.top
    · exact push_b w cb g d p hp h hs h2 hg
    · exact push_c w cb g d p hp h hs h2 hg
  by_cases h3 : (d.c p).s = 3
  · exact push_d w cb g d p hp h hs h3
  · exact push_e w cb g d p hp h hs h1 h2 h3

theorem pop_any (w : World) (cb g : Nat) (d : Dq) (p : Nat) (hp : p < 16) (h : DqM w cb g d) (hs : Sml 1000000 d) : Calls Try.prog 38 #[.pointer (some ⟨cb, 0, none⟩), .pointer (some ⟨cb, 3 + p * 7, none⟩)] w (GoPost cb g (popD d p) w) := by
  by_cases h1 : (d.c p).s = 1
  · exact popA w cb g d p hp h hs h1
  by_cases h2 : (d.c p).s = 2
  · by_cases hg : (d.c p).b < d.top
    · exact popB w cb g d p hp h hs h2 hg
    · exact popC w cb g d p hp h hs h2 hg
  by_cases h3 : (d.c p).s = 3
  · by_cases hg : (d.c p).t < (d.c p).b
    · exact popD3 w cb g d p hp h hs h3 hg
    · exact popE w cb g d p hp h hs h3 hg
  by_cases h4 : (d.c p).s = 4
  · exact popF w cb g d p hp h hs h4
  · exact popG w cb g d p hp h hs h1 h2 h3 h4

theorem steal_any (w : World) (cb g : Nat) (d : Dq) (p : Nat) (hp : p < 16) (h : DqM w cb g d) (hs : Sml 1000000 d) : Calls Try.prog 39 #[.pointer (some ⟨cb, 0, none⟩), .pointer (some ⟨cb, 3 + p * 7, none⟩)] w (GoPost cb g (stealD d p) w) := by
  by_cases h1 : (d.c p).s = 1
  · exact steA w cb g d p hp h hs h1
  by_cases h2 : (d.c p).s = 2
  · exact steB w cb g d p hp h hs h2
  by_cases h3 : (d.c p).s = 3
  · exact steC w cb g d p hp h hs h3
  · exact steD w cb g d p hp h hs h1 h2 h3

set_option maxRecDepth 100000 in
theorem goOn_any (w : World) (cb g : Nat) (d : Dq) (p : Nat) (hp : p < 16) (h : DqM w cb g d) (hs : Sml 1000000 d) : Calls Try.prog 27 #[.pointer (some ⟨cb, 0, none⟩), .pointer (some ⟨cb, 3 + p * 7, none⟩)] w (GoPost cb g (goD d p) w) := by
  have C37 := hide (push_any w cb g d p hp h hs)
  have C38 := hide (pop_any w cb g d p hp h hs)
  have C39 := hide (steal_any w cb g d p hp h hs)
  have hc4 := (h.call p 4 hp (by omega)).1
  simp only [clv] at hc4
  by_cases h1 : (d.c p).k = 1
  · have e : goD d p = pushD d p := by unfold goD; rw [if_pos h1]
    rw [e]
    generalize pushD d p = R at *
    rw [h1] at hc4
    clear h hs h1 e C38 C39
    go_enter Try.func27, Try.ntmps27
    go_wp2_with (go_at_call 37; go_must ((with_reducible refine C37.out.mono ?_); rintro e w1 ⟨rfl, hg⟩; have HG := hide hg; clear hg))
    go_ret
    exact ⟨rfl, HG.out⟩
  · have h1' : ((d.c p).k == 1) = false := by simpa using h1
    by_cases h2 : (d.c p).k = 2
    · have e : goD d p = popD d p := by unfold goD; rw [if_neg h1, if_pos h2]
      rw [e]
      generalize popD d p = R at *
      rw [h2] at hc4
      clear h hs h1 h1' h2 e C37 C39
      go_enter Try.func27, Try.ntmps27
      go_wp2_with (go_at_call 38; go_must ((with_reducible refine C38.out.mono ?_); rintro e w1 ⟨rfl, hg⟩; have HG := hide hg; clear hg))
      go_ret
      exact ⟨rfl, HG.out⟩
    · have h2' : ((d.c p).k == 2) = false := by simpa using h2
      have e : goD d p = stealD d p := by unfold goD; rw [if_neg h1, if_neg h2]
      rw [e]
      generalize stealD d p = R at *
      generalize (d.c p).k = kk at *
      clear h hs h1 h2 e C37 C38
      go_enter Try.func27, Try.ntmps27
      go_wp2_with (go_at_call 39; go_must ((with_reducible refine C39.out.mono ?_); rintro e w1 ⟨rfl, hg⟩; have HG := hide hg; clear hg))
      go_ret
      exact ⟨rfl, HG.out⟩

def StepPost (cb g : Nat) (r : Int × Int × Dq) (w : World) (e : Ending) (w' : World) : Prop :=
  e = .returned (.tuple #[.int .i64 r.1, .int .i64 r.2.1]) ∧ ∃ g', DqM w' cb g' r.2.2 ∧ Wr cb g w w' ∧ (g' = g ∨ w.heap.size ≤ g')

set_option maxRecDepth 100000 in
set_option maxHeartbeats 1000000 in
theorem step_yes (w : World) (cb g : Nat) (d : Dq) (p : Nat) (hp : p < 16) (h : DqM w cb g d) (hs : Sml 999999 d) (hb : busyD d p = true) : Calls Try.prog 14 #[.pointer (some ⟨cb, 0, none⟩), .int .i64 (p : Int)] w (StepPost cb g (stepB d p) w) := by
  have C18 := hide (busy_any w cb g d p h)
  rw [hb] at C18
  have hc6 := h.call p 6 hp (by omega)
  simp only [clv] at hc6
  obtain ⟨c6, f6⟩ := hc6
  have hs0 := hs.s p
  obtain ⟨s1, s2⟩ := hs0
  have HD := hide (show DqM (w.setCell ⟨cb, 3 + p * 7 + 6, none⟩ (.int .i64 ((d.c p).s + 1))) cb g (bump d p) from h.setCall p 6 hp (by omega) _ _ (by intro j hj; rcases j with _ | _ | _ | _ | _ | _ | _ | j <;> simp [clv] <;> omega))
  have HW := hide (Wr.set cb g (3 + p * 7 + 6) (.int .i64 ((d.c p).s + 1)) w)
  have HZ := hide (show (w.setCell ⟨cb, 3 + p * 7 + 6, none⟩ (.int .i64 ((d.c p).s + 1))).heap.size = w.heap.size by simp [World.setCell])
  have hsb := hs.bump p
  have C27 := hide (goOn_any (w.setCell ⟨cb, 3 + p * 7 + 6, none⟩ (.int .i64 ((d.c p).s + 1))) cb g (bump d p) p hp HD.out hsb)
  have HE := hide (show stepB d p = ((goD (bump d p) p).1, if (goD (bump d p) p).1 = 2 then ((goD (bump d p) p).2.c p).v else 0, if (goD (bump d p) p).1 = 0 then (goD (bump d p) p).2 else (goD (bump d p) p).2.put p Cl.zero) from rfl)
  generalize stepB d p = R at *
  generalize goD (bump d p) p = G at *
  obtain ⟨a, d2⟩ := G
  dsimp only at HE C27
  generalize (d.c p).s = s at *
  have hp' : (p : Int) < 16 := by omega
  clear h hs hsb hb
  by_cases h0 : a = 0
  · subst h0
    rw [if_neg (by decide), if_pos rfl] at HE
    go_enter Try.func14, Try.ntmps14
    go_wp2_with (first
      | (go_at_call 18; go_must ((with_reducible refine C18.out.mono ?_); rintro e w1 ⟨rfl, rfl⟩))
      | (go_at_call 27; go_must ((with_reducible refine C27.out.mono ?_); rintro e w2 ⟨rfl, g', hM, hW2, hg'⟩; have HM := hide hM; have HW2 := hide hW2; have HG := hide hg'; have k2 := hM.call p 2 hp (by omega); have HC := hide (fun j (hj : j < 7) => hM.call p j hp hj); simp only [clv] at k2; obtain ⟨k2, -⟩ := k2; clear hM hW2 hg')))
    go_ret2
    refine ⟨by rw [HE.out]; rfl, g', by rw [HE.out]; exact HM.out, HW.out.trans HW2.out, ?_⟩
    have q := HG.out
    rw [HZ.out] at q
    exact q
  by_cases h2 : a = 2
  · subst h2
    rw [if_pos rfl, if_neg (by decide)] at HE
    clear h0
    go_enter Try.func14, Try.ntmps14
    go_wp2_with (first
      | (go_at_call 18; go_must ((with_reducible refine C18.out.mono ?_); rintro e w1 ⟨rfl, rfl⟩))
      | (go_at_call 27; go_must ((with_reducible refine C27.out.mono ?_); rintro e w2 ⟨rfl, g', hM, hW2, hg'⟩; have HM := hide hM; have HW2 := hide hW2; have HG := hide hg'; have k2 := hM.call p 2 hp (by omega); have HC := hide (fun j (hj : j < 7) => hM.call p j hp hj); simp only [clv] at k2; obtain ⟨k2, -⟩ := k2; clear hM hW2 hg'; obtain ⟨q0, r0⟩ := (HC.out 0 (by omega)); obtain ⟨q1, r1⟩ := (HC.out 1 (by omega)); obtain ⟨q3, r3⟩ := (HC.out 3 (by omega)); obtain ⟨q4, r4⟩ := (HC.out 4 (by omega)); obtain ⟨q5, r5⟩ := (HC.out 5 (by omega)); obtain ⟨q6, r6⟩ := (HC.out 6 (by omega)); obtain ⟨-, r2⟩ := (HC.out 2 (by omega)); simp only [clv, Nat.add_zero] at q0 q1 q3 q4 q5 q6 r0 r1 r2 r3 r4 r5 r6)))
    go_ret2
    refine ⟨by rw [HE.out]; rfl, g', by rw [HE.out]; exact HM.out.setAll p hp Cl.zero, (HW.out.trans HW2.out).trans (Wr.setAll _ _ _ _ _ _ _ _ _ _ _), ?_⟩
    have q := HG.out
    rw [HZ.out] at q
    exact q
  · rw [if_neg h2, if_neg h0] at HE
    have h0' : (a == 0) = false := by simpa using h0
    have h2' : (a == 2) = false := by simpa using h2
    have h0'' : (a != 0) = true := by simpa using h0
    clear h0 h2
    go_enter Try.func14, Try.ntmps14
    go_wp2_with (first
      | (go_at_call 18; go_must ((with_reducible refine C18.out.mono ?_); rintro e w1 ⟨rfl, rfl⟩))
      | (go_at_call 27; go_must ((with_reducible refine C27.out.mono ?_); rintro e w2 ⟨rfl, g', hM, hW2, hg'⟩; have HM := hide hM; have HW2 := hide hW2; have HG := hide hg'; have k2 := hM.call p 2 hp (by omega); have HC := hide (fun j (hj : j < 7) => hM.call p j hp hj); simp only [clv] at k2; obtain ⟨k2, -⟩ := k2; clear hM hW2 hg'; obtain ⟨q0, r0⟩ := (HC.out 0 (by omega)); obtain ⟨q1, r1⟩ := (HC.out 1 (by omega)); obtain ⟨q3, r3⟩ := (HC.out 3 (by omega)); obtain ⟨q4, r4⟩ := (HC.out 4 (by omega)); obtain ⟨q5, r5⟩ := (HC.out 5 (by omega)); obtain ⟨q6, r6⟩ := (HC.out 6 (by omega)); obtain ⟨-, r2⟩ := (HC.out 2 (by omega)); simp only [clv, Nat.add_zero] at q0 q1 q3 q4 q5 q6 r0 r1 r2 r3 r4 r5 r6)))
    go_ret2
    refine ⟨by rw [HE.out]; rfl, g', by rw [HE.out]; exact HM.out.setAll p hp Cl.zero, (HW.out.trans HW2.out).trans (Wr.setAll _ _ _ _ _ _ _ _ _ _ _), ?_⟩
    have q := HG.out
    rw [HZ.out] at q
    exact q

set_option maxRecDepth 100000 in
theorem step_no (w : World) (cb g : Nat) (d : Dq) (who : Int) (h : DqM w cb g d) (hb : busyD d who = false) : Calls Try.prog 14 #[.pointer (some ⟨cb, 0, none⟩), .int .i64 who] w (StepPost cb g (0, 0, d) w) := by
  have C18 := hide (busy_any w cb g d who h)
  rw [hb] at C18
  have HD := hide h
  clear h hb
  go_enter Try.func14, Try.ntmps14
  go_wp2_with (go_at_call 18; go_must ((with_reducible refine C18.out.mono ?_); rintro e w1 ⟨rfl, rfl⟩))
  go_ret2
  exact ⟨rfl, g, HD.out, Wr.refl _ _ _, .inl rfl⟩

theorem step_any (w : World) (cb g : Nat) (d : Dq) (who : Int) (h : DqM w cb g d) (hs : Sml 999999 d) : Calls Try.prog 14 #[.pointer (some ⟨cb, 0, none⟩), .int .i64 who] w (StepPost cb g (stepD d who) w) := by
  unfold stepD
  by_cases hb : busyD d who = true
  · rw [if_pos hb]
    have hw : 0 ≤ who ∧ who < 16 := by
      unfold busyD at hb
      simp at hb
      exact hb.1
    obtain ⟨p, rfl⟩ : ∃ p : Nat, who = p := ⟨who.toNat, by omega⟩
    rw [Int.toNat_natCast]
    exact step_yes w cb g d p (by omega) h hs hb
  · rw [if_neg hb]
    exact step_no w cb g d who h (by simpa using hb)
end Go.Proofs.Ytaooglcjcnkgnaa
