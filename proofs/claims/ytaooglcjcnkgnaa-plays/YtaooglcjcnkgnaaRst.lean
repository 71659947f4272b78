/- The document's deque: push, pop, steal whole; Busy, Begin, Step. -/
import Derived.Test.YtaooglcjcnkgnaaOnc
import Derived.Test.YtaooglcjcnkgnaaRpB
import Derived.Test.YtaooglcjcnkgnaaRpC
import Derived.Test.YtaooglcjcnkgnaaRpD
import Derived.Test.YtaooglcjcnkgnaaRoA
import Derived.Test.YtaooglcjcnkgnaaRoC
import Derived.Test.YtaooglcjcnkgnaaRoD
import Derived.Test.YtaooglcjcnkgnaaRoE
import Derived.Test.YtaooglcjcnkgnaaRoF
import Derived.Test.YtaooglcjcnkgnaaRoH
import Derived.Test.YtaooglcjcnkgnaaRsA
import Derived.Test.YtaooglcjcnkgnaaRsB
import Derived.Test.YtaooglcjcnkgnaaRsC
import Derived.Test.YtaooglcjcnkgnaaRsD
import Derived.Test.YtaooglcjcnkgnaaRsF
namespace Go.Proofs.Ytaooglcjcnkgnaa
open Go.RowKit Go.ChangeShapes Go.WideShapes Go.ChangeAt Go.Deep

theorem rpush_any (w : World) (cb rb g : Nat) (d : Dq) (p : Nat) (hp : p < 16) (h : RQ w cb rb g d) (hs : Sml 1000000 d) : Calls Try.prog 28 #[.pointer (some ⟨cb, 0, none⟩), .pointer (some ⟨cb, 3 + p * 7, none⟩)] w (PuPost cb rb g (pushD d p) w) := by
  by_cases h1 : (d.c p).s = 1
  · exact rpu_a w cb rb g d p hp h hs h1
  by_cases h2 : (d.c p).s = 2
  · by_cases hg : (d.n : Int) - 1 ≤ (d.c p).b - d.top
    · exact rpu_c w cb rb g d p hp h hs h2 hg
    · exact rpu_b w cb rb g d p hp h hs h2 hg
  by_cases h3 : (d.c p).s = 3
  · exact rpu_d w cb rb g d p hp h hs h3
  · exact rpu_e w cb rb g d p hp h hs h1 h2 h3

theorem rpop_any (w : World) (cb rb g : Nat) (d : Dq) (p : Nat) (hp : p < 16) (h : RQ w cb rb g d) (hs : Sml 1000000 d) (hw : (d.c p).s = 4 → (d.c p).won = false) : Calls Try.prog 29 #[.pointer (some ⟨cb, 0, none⟩), .pointer (some ⟨cb, 3 + p * 7, none⟩)] w (PoPost cb rb g p (popD d p) w) := by
  by_cases h1 : (d.c p).s = 1
  · exact rpo_a w cb rb g d p hp h hs h1
  by_cases h2 : (d.c p).s = 2
  · by_cases hg : (d.c p).b < d.top
    · exact rpo_b w cb rb g d p hp h hs h2 hg
    · exact rpo_c w cb rb g d p hp h hs h2 hg
  by_cases h3 : (d.c p).s = 3
  · by_cases hg : (d.c p).t < (d.c p).b
    · exact rpo_d w cb rb g d p hp h hs h3 hg
    · exact rpo_e w cb rb g d p hp h hs h3 hg
  by_cases h4 : (d.c p).s = 4
  · by_cases hg : d.top = (d.c p).t
    · exact rpo_f w cb rb g d p hp h hs h4 hg
    · exact rpo_g w cb rb g d p hp h hs h4 hg (hw h4)
  cases hg : (d.c p).won
  · exact rpo_i w cb rb g d p hp h hs h1 h2 h3 h4 hg
  · exact rpo_h w cb rb g d p hp h hs h1 h2 h3 h4 hg

theorem rsteal_any (w : World) (cb rb g : Nat) (d : Dq) (p : Nat) (hp : p < 16) (h : RQ w cb rb g d) (hs : Sml 1000000 d) : Calls Try.prog 30 #[.pointer (some ⟨cb, 0, none⟩), .pointer (some ⟨cb, 3 + p * 7, none⟩)] w (PoPost cb rb g p (stealD d p) w) := by
  by_cases h1 : (d.c p).s = 1
  · exact rst_a w cb rb g d p hp h hs h1
  by_cases h2 : (d.c p).s = 2
  · by_cases hg : d.bot - (d.c p).t < 1
    · exact rst_b w cb rb g d p hp h hs h2 hg
    · exact rst_c w cb rb g d p hp h hs h2 hg
  by_cases h3 : (d.c p).s = 3
  · exact rst_d w cb rb g d p hp h hs h3
  by_cases hg : d.top = (d.c p).t
  · exact rst_e w cb rb g d p hp h hs h1 h2 h3 hg
  · exact rst_f w cb rb g d p hp h hs h1 h2 h3 hg

/-- The last item is won in the fourth step alone. -/
def Wf (d : Dq) : Prop := ∀ p, (d.c p).s ≤ 3 → (d.c p).won = false

theorem Wf.zero : Wf Dq.zero := fun _ _ => rfl

theorem go_won (d : Dq) (p : Nat) (h : (d.c p).s ≤ 3) : ((goD d p).2.c p).won = (d.c p).won := by
  unfold goD pushD popD stealD
  dsimp only
  repeat' split
  all_goals first
    | (simp [Dq.put]; done)
    | omega

theorem Wf.begin {d : Dq} (h : Wf d) (who kind item : Int) : Wf (beginD d who kind item).2 := by
  unfold beginD
  split
  · exact h
  · split
    · exact h
    · intro p hp
      by_cases e : p = who.toNat
      · simp [Dq.put, e, Cl.zero]
      · simp [Dq.put, e] at hp ⊢
        exact h p hp

theorem Wf.step {d : Dq} (h : Wf d) (who : Int) : Wf (stepD d who).2.2 := by
  by_cases hb : busyD d who = true
  · obtain ⟨e, _, _⟩ := stepD_busy hb
    rw [e]
    intro q hq
    obtain ⟨k1, k2, k3⟩ := go_ks (bump d who.toNat) who.toNat
    unfold stepB at hq ⊢
    dsimp only at hq ⊢
    by_cases ha : (goD (bump d who.toNat) who.toNat).1 = 0
    · rw [if_pos ha] at hq ⊢
      by_cases e2 : q = who.toNat
      · subst e2
        rw [k2] at hq
        rw [go_won _ _ hq]
        have hs : ((bump d who.toNat).c who.toNat).s = (d.c who.toNat).s + 1 := by simp [bump, Dq.put]
        rw [hs] at hq
        have := h who.toNat (by omega)
        simpa [bump, Dq.put] using this
      · rw [k3 q e2] at hq ⊢
        have hc : (bump d who.toNat).c q = d.c q := by simp [bump, Dq.put, e2]
        rw [hc] at hq ⊢
        exact h q hq
    · rw [if_neg ha] at hq ⊢
      by_cases e2 : q = who.toNat
      · simp [Dq.put, e2, Cl.zero]
      · have hc : ((goD (bump d who.toNat) who.toNat).2.put who.toNat Cl.zero).c q = d.c q := by
          simp [Dq.put, e2, k3 q e2]
          simp [bump, Dq.put, e2]
        rw [hc] at hq ⊢
        exact h q hq
  · have : stepD d who = (0, 0, d) := by unfold stepD; rw [if_neg hb]
    rw [this]
    exact h

set_option maxRecDepth 100000 in
theorem rbusy_yes (w : World) (cb rb g : Nat) (d : Dq) (p : Nat) (hp : p < 16) (h : RQ w cb rb g d) : Calls Try.prog 19 #[.pointer (some ⟨cb, 0, none⟩), .int .i64 (p : Int)] w fun e w' => e = .returned (.bool (busyD d p)) ∧ w' = w := by
  have hk := (h.call p 0 hp (by omega)).1
  have HB := hide (show busyD d p = ((d.c p).k != 0) by
    unfold busyD
    rw [decide_eq_true (show (0 : Int) ≤ (p : Int) ∧ (p : Int) < 16 by omega), Int.toNat_natCast]
    by_cases e : (d.c p).k = 0 <;> simp [e])
  simp only [rcl, Nat.add_zero] at hk
  generalize (d.c p).k = x at *
  have h3 : (p : Int) < 16 := by omega
  clear h
  go_enter Try.func19, Try.ntmps19
  go_wp2
  go_ret
  exact ⟨by rw [HB.out]; rfl, rfl⟩

set_option maxRecDepth 100000 in
theorem rbusy_no (w : World) (a : Value) (who : Int) (hp : ¬ (0 ≤ who ∧ who < 16)) : Calls Try.prog 19 #[a, .int .i64 who] w fun e w' => e = .returned (.bool false) ∧ w' = w := by
  have hp' : ¬ 0 ≤ who ∨ (0 ≤ who ∧ ¬ who < 16) := by omega
  clear hp
  rcases hp' with h1 | ⟨h1, h2⟩
  all_goals
    go_enter Try.func19, Try.ntmps19
    go_wp2
    go_ret
    exact ⟨rfl, rfl⟩

theorem rbusy_any (w : World) (cb rb g : Nat) (d : Dq) (who : Int) (h : RQ w cb rb g d) : Calls Try.prog 19 #[.pointer (some ⟨cb, 0, none⟩), .int .i64 who] w fun e w' => e = .returned (.bool (busyD d who)) ∧ w' = w := by
  by_cases hp : 0 ≤ who ∧ who < 16
  · obtain ⟨p, rfl⟩ : ∃ p : Nat, who = p := ⟨who.toNat, by omega⟩
    exact rbusy_yes w cb rb g d p (by omega) h
  · have : busyD d who = false := by unfold busyD; simp; intro h1 h2; omega
    rw [this]
    exact rbusy_no w _ who hp
end Go.Proofs.Ytaooglcjcnkgnaa
