/- isWho, isOwnCall, Busy, Begin, winTop. -/
import Derived.Test.YtaooglcjcnkgnaaDqm
namespace Go.Proofs.Ytaooglcjcnkgnaa
open Go.RowKit Go.ChangeShapes Go.WideShapes Go.ChangeAt Go.Deep

set_option maxRecDepth 100000 in
theorem isWho_any (w : World) (who : Int) : Calls Try.prog 31 #[.int .i64 who] w fun e w' => e = .returned (.bool (decide (0 ≤ who ∧ who < 16))) ∧ w' = w := by
  by_cases h : 0 ≤ who <;> by_cases h2 : who < 16 <;> (go_enter Try.func31, Try.ntmps31; go_wp2; go_ret; simp_all <;> omega)

set_option maxRecDepth 100000 in
theorem busy_yes (w : World) (cb g : Nat) (d : Dq) (p : Nat) (hp : p < 16) (h : DqM w cb g d) : Calls Try.prog 18 #[.pointer (some ⟨cb, 0, none⟩), .int .i64 (p : Int)] w fun e w' => e = .returned (.bool (busyD d p)) ∧ w' = w := by
  have C31 := hide (isWho_any w (p : Int))
  have hk := (h.call p 4 hp (by omega)).1
  have HB := hide (show busyD d p = ((d.c p).k != 0) by
    unfold busyD
    rw [decide_eq_true (show (0 : Int) ≤ (p : Int) ∧ (p : Int) < 16 by omega), Int.toNat_natCast]
    by_cases e : (d.c p).k = 0 <;> simp [e])
  rw [decide_eq_true (show (0 : Int) ≤ (p : Int) ∧ (p : Int) < 16 by omega)] at C31
  simp only [clv] at hk
  generalize (d.c p).k = x at *
  have h2 : (0 : Int) ≤ p ∧ (p : Int) < 16 := by omega
  obtain ⟨h2, h3⟩ := h2
  clear h
  go_enter Try.func18, Try.ntmps18
  go_wp2_with (go_at_call 31; go_must ((with_reducible refine C31.out.mono ?_); rintro e w1 ⟨rfl, rfl⟩))
  go_ret
  exact ⟨by rw [HB.out]; rfl, rfl⟩

set_option maxRecDepth 100000 in
theorem busy_no (w : World) (a : Value) (who : Int) (hp : ¬ (0 ≤ who ∧ who < 16)) : Calls Try.prog 18 #[a, .int .i64 who] w fun e w' => e = .returned (.bool false) ∧ w' = w := by
  have C31 := hide (isWho_any w who)
  rw [decide_eq_false hp] at C31
  clear hp
  go_enter Try.func18, Try.ntmps18
  go_wp2_with (go_at_call 31; go_must ((with_reducible refine C31.out.mono ?_); rintro e w1 ⟨rfl, rfl⟩))
  go_ret
  exact ⟨rfl, rfl⟩

theorem busy_any (w : World) (cb g : Nat) (d : Dq) (who : Int) (h : DqM w cb g d) : Calls Try.prog 18 #[.pointer (some ⟨cb, 0, none⟩), .int .i64 who] w fun e w' => e = .returned (.bool (busyD d who)) ∧ w' = w := by
  by_cases hw : 0 ≤ who ∧ who < 16
  · obtain ⟨p, rfl⟩ : ∃ p : Nat, who = p := ⟨who.toNat, by omega⟩
    exact busy_yes w cb g d p (by omega) h
  · have e : busyD d who = false := by unfold busyD; rw [decide_eq_false hw]; rfl
    rw [e]
    exact busy_no w _ who hw

set_option maxRecDepth 100000 in
theorem ownCall_any (w : World) (who call : Int) : Calls Try.prog 26 #[.int .i64 who, .int .i64 call] w fun e w' => e = .returned (.bool (ownC who call)) ∧ w' = w := by
  have C31 := hide (isWho_any w who)
  by_cases h0 : who = 0
  · subst h0
    by_cases h1 : call = 1
    · subst h1
      go_enter Try.func26, Try.ntmps26
      go_wp2
      go_ret
      exact ⟨rfl, rfl⟩
    · have h1' : (call == 1) = false := by simpa using h1
      have HO := hide (show ownC 0 call = (call == 2) by unfold ownC; by_cases e : call = 2 <;> simp [e, h1])
      clear h1
      go_enter Try.func26, Try.ntmps26
      go_wp2
      go_ret
      exact ⟨by rw [HO.out]; rfl, rfl⟩
  · have h0' : (who == 0) = false := by simpa using h0
    have HO := hide (show ownC who call = (decide (0 ≤ who ∧ who < 16) && (call == 3)) by
      unfold ownC
      rw [if_neg h0]
      by_cases e : call = 3 <;> simp [e])
    clear h0
    by_cases hw : 0 ≤ who ∧ who < 16
    · rw [decide_eq_true hw] at C31 HO
      clear hw
      go_enter Try.func26, Try.ntmps26
      go_wp2_with (go_at_call 31; go_must ((with_reducible refine C31.out.mono ?_); rintro e w1 ⟨rfl, rfl⟩))
      go_ret
      exact ⟨by rw [HO.out]; rfl, rfl⟩
    · rw [decide_eq_false hw] at C31 HO
      clear hw
      go_enter Try.func26, Try.ntmps26
      go_wp2_with (go_at_call 31; go_must ((with_reducible refine C31.out.mono ?_); rintro e w1 ⟨rfl, rfl⟩))
      go_ret
      exact ⟨by rw [HO.out]; rfl, rfl⟩

theorem ownC_who {who call : Int} (h : ownC who call = true) : 0 ≤ who ∧ who < 16 := by
  unfold ownC at h
  split at h
  · omega
  · simp at h; omega

/-- A whole call is written. -/
theorem DqM.setAll {w : World} {cb g : Nat} {d : Dq} (h : DqM w cb g d) (p : Nat) (hp : p < 16) (x : Cl) :
    DqM (((((((w.setCell ⟨cb, 3 + p * 7, none⟩ (.int .i64 x.b)).setCell ⟨cb, 3 + p * 7 + 1, none⟩ (.int .i64 x.t)).setCell ⟨cb, 3 + p * 7 + 2, none⟩ (.int .i64 x.v)).setCell ⟨cb, 3 + p * 7 + 3, none⟩ (.bool x.won)).setCell ⟨cb, 3 + p * 7 + 4, none⟩ (.int .i64 x.k)).setCell ⟨cb, 3 + p * 7 + 5, none⟩ (.int .i64 x.i)).setCell ⟨cb, 3 + p * 7 + 6, none⟩ (.int .i64 x.s)) cb g (d.put p x) := by
  have aux : ∀ {W : World} {D : Dq} (h : DqM W cb g D) (jj : Nat) (hjj : jj < 7) (v : Value) (y : Cl) (hx : ∀ j, j < 7 → clv y j = if j = jj then v else clv (D.c p) j), DqM (W.setCell ⟨cb, 3 + p * 7 + jj, none⟩ v) cb g (D.put p y) := fun h jj hjj v y hx => h.setCall p jj hp hjj v y hx
  have key : ∀ (c x : Cl) (j : Nat), j < 7 → True := fun _ _ _ _ => trivial
  have h1 := aux h 0 (by omega) (.int .i64 x.b) { d.c p with b := x.b } (by intro j hj; rcases j with _ | _ | _ | _ | _ | _ | _ | j <;> simp [clv] <;> omega)
  have h2 := aux h1 1 (by omega) (.int .i64 x.t) { d.c p with b := x.b, t := x.t } (by intro j hj; rw [Dq.put_same]; rcases j with _ | _ | _ | _ | _ | _ | _ | j <;> simp [clv] <;> omega)
  have h3 := aux h2 2 (by omega) (.int .i64 x.v) { d.c p with b := x.b, t := x.t, v := x.v } (by intro j hj; rw [Dq.put_same]; rcases j with _ | _ | _ | _ | _ | _ | _ | j <;> simp [clv] <;> omega)
  have h4 := aux h3 3 (by omega) (.bool x.won) { d.c p with b := x.b, t := x.t, v := x.v, won := x.won } (by intro j hj; rw [Dq.put_same]; rcases j with _ | _ | _ | _ | _ | _ | _ | j <;> simp [clv] <;> omega)
  have h5 := aux h4 4 (by omega) (.int .i64 x.k) { d.c p with b := x.b, t := x.t, v := x.v, won := x.won, k := x.k } (by intro j hj; rw [Dq.put_same]; rcases j with _ | _ | _ | _ | _ | _ | _ | j <;> simp [clv] <;> omega)
  have h6 := aux h5 5 (by omega) (.int .i64 x.i) { d.c p with b := x.b, t := x.t, v := x.v, won := x.won, k := x.k, i := x.i } (by intro j hj; rw [Dq.put_same]; rcases j with _ | _ | _ | _ | _ | _ | _ | j <;> simp [clv] <;> omega)
  have h7 := aux h6 6 (by omega) (.int .i64 x.s) x (by intro j hj; rw [Dq.put_same]; rcases j with _ | _ | _ | _ | _ | _ | _ | j <;> simp [clv] <;> omega)
  simp only [put_put, Nat.add_zero] at h7
  exact h7

theorem Wr.setAll (w : World) (cb g : Nat) (q : Nat) (v0 v1 v2 v3 v4 v5 v6 : Value) :
    Wr cb g w (((((((w.setCell ⟨cb, q, none⟩ v0).setCell ⟨cb, q + 1, none⟩ v1).setCell ⟨cb, q + 2, none⟩ v2).setCell ⟨cb, q + 3, none⟩ v3).setCell ⟨cb, q + 4, none⟩ v4).setCell ⟨cb, q + 5, none⟩ v5).setCell ⟨cb, q + 6, none⟩ v6) :=
  ((((((Wr.set cb g _ _ _).trans (Wr.set cb g _ _ _)).trans (Wr.set cb g _ _ _)).trans (Wr.set cb g _ _ _)).trans (Wr.set cb g _ _ _)).trans (Wr.set cb g _ _ _)).trans (Wr.set cb g _ _ _)

def BeginPost (cb g : Nat) (d : Dq) (who call item : Int) (w : World) (e : Ending) (w' : World) : Prop :=
  e = .returned (.int .i64 (beginD d who call item).1) ∧ DqM w' cb g (beginD d who call item).2 ∧ Wr cb g w w'

set_option maxRecDepth 100000 in
theorem begin_any (w : World) (cb g : Nat) (d : Dq) (who call item : Int) (h : DqM w cb g d) : Calls Try.prog 13 #[.pointer (some ⟨cb, 0, none⟩), .int .i64 who, .int .i64 call, .int .i64 item] w (BeginPost cb g d who call item w) := by
  have C26 := hide (ownCall_any w who call)
  have C18 := hide (busy_any w cb g d who h)
  by_cases ho : ownC who call = false
  · have HN := hide (show ∀ e w', e = .returned (.int .i64 1) ∧ w' = w → BeginPost cb g d who call item w e w' from fun e w' ⟨h1, h2⟩ => by
      subst h2
      unfold BeginPost beginD
      rw [if_pos ho]
      exact ⟨h1, h, Wr.refl _ _ _⟩)
    refine Calls.mono ?_ HN.out
    rw [ho] at C26
    clear h HN ho C18
    go_enter Try.func13, Try.ntmps13
    go_wp2_with (go_at_call 26; go_must ((with_reducible refine C26.out.mono ?_); rintro e w1 ⟨rfl, rfl⟩))
    go_ret
    exact ⟨rfl, rfl⟩
  · have ho' : ownC who call = true := by simpa using ho
    rw [ho'] at C26
    by_cases hb : busyD d who = true
    · have HN := hide (show ∀ e w', e = .returned (.int .i64 31) ∧ w' = w → BeginPost cb g d who call item w e w' from fun e w' ⟨h1, h2⟩ => by
        subst h2
        unfold BeginPost beginD
        rw [if_neg ho, if_pos hb]
        exact ⟨h1, h, Wr.refl _ _ _⟩)
      refine Calls.mono ?_ HN.out
      rw [hb] at C18
      clear h HN ho hb ho'
      go_enter Try.func13, Try.ntmps13
      go_wp2_with (first
        | (go_at_call 26; go_must ((with_reducible refine C26.out.mono ?_); rintro e w1 ⟨rfl, rfl⟩))
        | (go_at_call 18; go_must ((with_reducible refine C18.out.mono ?_); rintro e w1 ⟨rfl, rfl⟩)))
      go_ret
      exact ⟨rfl, rfl⟩
    · have hb' : busyD d who = false := by simpa using hb
      rw [hb'] at C18
      have hw := ownC_who ho'
      obtain ⟨p, rfl⟩ : ∃ p : Nat, who = p := ⟨who.toNat, by omega⟩
      have hp : p < 16 := by omega
      have HD := hide (h.setAll p hp { Cl.zero with k := call, i := item })
      have HW := hide (Wr.setAll w cb g (3 + p * 7) (.int .i64 0) (.int .i64 0) (.int .i64 0) (.bool false) (.int .i64 call) (.int .i64 item) (.int .i64 0))
      have HN := hide (show ∀ e w', e = .returned (.int .i64 0) ∧ w' = (((((((w.setCell ⟨cb, 3 + p * 7, none⟩ (.int .i64 0)).setCell ⟨cb, 3 + p * 7 + 1, none⟩ (.int .i64 0)).setCell ⟨cb, 3 + p * 7 + 2, none⟩ (.int .i64 0)).setCell ⟨cb, 3 + p * 7 + 3, none⟩ (.bool false)).setCell ⟨cb, 3 + p * 7 + 4, none⟩ (.int .i64 call)).setCell ⟨cb, 3 + p * 7 + 5, none⟩ (.int .i64 item)).setCell ⟨cb, 3 + p * 7 + 6, none⟩ (.int .i64 0)) → BeginPost cb g d p call item w e w' from fun e w' ⟨h1, h2⟩ => by
        subst h2
        unfold BeginPost beginD
        rw [if_neg ho, if_neg (by rw [hb']; decide), Int.toNat_natCast]
        exact ⟨h1, HD.out, HW.out⟩)
      refine Calls.mono ?_ HN.out
      have hc0 := h.call p 0 hp (by omega)
      have hc1 := h.call p 1 hp (by omega)
      have hc2 := h.call p 2 hp (by omega)
      have hc3 := h.call p 3 hp (by omega)
      have hc4 := h.call p 4 hp (by omega)
      have hc5 := h.call p 5 hp (by omega)
      have hc6 := h.call p 6 hp (by omega)
      simp only [clv, Nat.add_zero] at hc0 hc1 hc2 hc3 hc4 hc5 hc6
      obtain ⟨c0, f0⟩ := hc0
      obtain ⟨c1, f1⟩ := hc1
      obtain ⟨c2, f2⟩ := hc2
      obtain ⟨c3, f3⟩ := hc3
      obtain ⟨c4, f4⟩ := hc4
      obtain ⟨c5, f5⟩ := hc5
      obtain ⟨c6, f6⟩ := hc6
      have hp' : (p : Int) < 16 := by omega
      clear h HN ho hb ho' hb' HD HW hw
      go_enter Try.func13, Try.ntmps13
      go_wp2_with (first
        | (go_at_call 26; go_must ((with_reducible refine C26.out.mono ?_); rintro e w1 ⟨rfl, rfl⟩))
        | (go_at_call 18; go_must ((with_reducible refine C18.out.mono ?_); rintro e w1 ⟨rfl, rfl⟩)))
      go_ret
      exact ⟨rfl, rfl⟩

set_option maxRecDepth 100000 in
theorem winTop_any (w : World) (cb g : Nat) (d : Dq) (t : Int) (h : DqM w cb g d) (ht : -1000000000 ≤ t ∧ t ≤ 1000000000) : Calls Try.prog 46 #[.pointer (some ⟨cb, 0, none⟩), .int .i64 t] w fun e w' =>
    (d.top = t ∧ e = .returned (.bool true) ∧ w' = w.setCell ⟨cb, 0, none⟩ (.int .i64 (t + 1))) ∨ (d.top ≠ t ∧ e = .returned (.bool false) ∧ w' = w) := by
  obtain ⟨c0, f0⟩ := h.top
  obtain ⟨t1, t2⟩ := ht
  by_cases e : d.top = t
  · rw [e] at c0
    refine Calls.mono (R := fun e w' => e = .returned (.bool true) ∧ w' = w.setCell ⟨cb, 0, none⟩ (.int .i64 (t + 1))) ?_ (fun _ _ h => .inl ⟨e, h⟩)
    clear h e
    go_enter Try.func46, Try.ntmps46
    go_wp2
    go_ret
    exact ⟨rfl, rfl⟩
  · refine Calls.mono (R := fun e w' => e = .returned (.bool false) ∧ w' = w) ?_ (fun _ _ h => .inr ⟨e, h⟩)
    have e' : (d.top != t) = true := by simpa using e
    have e'' : (d.top == t) = false := by simpa using e
    generalize d.top = x at *
    clear h e
    go_enter Try.func46, Try.ntmps46
    go_wp2
    go_ret
    exact ⟨rfl, rfl⟩
end Go.Proofs.Ytaooglcjcnkgnaa
