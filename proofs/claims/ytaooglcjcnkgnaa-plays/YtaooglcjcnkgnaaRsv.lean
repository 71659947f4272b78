/- The document's deque: Step. -/
import Derived.Test.YtaooglcjcnkgnaaRsu
namespace Go.Proofs.Ytaooglcjcnkgnaa
open Go.RowKit Go.ChangeShapes Go.WideShapes Go.ChangeAt Go.Deep

def RSPost (cb rb g : Nat) (r : Int × Int × Dq) (w : World) (e : Ending) (w' : World) : Prop :=
  e = .returned (.tuple #[.int .i64 r.1, .int .i64 r.2.1]) ∧ ∃ rb' g', RQ w' cb rb' g' r.2.2 ∧ Wr cb g w w' ∧ Mv rb g rb' g' w

theorem PoPost.no {cb rb g p : Nat} {a : Int} {d2 : Dq} {w : World} {e : Ending} {w' : World} (h : PoPost cb rb g p (a, d2) w e w') (ha : ¬ a = 2) : e = .returned (.tuple #[.int .i64 a, .int .i64 0]) ∧ RQ w' cb rb g d2 ∧ Wr cb g w w' := by
  obtain ⟨h1, h2, h3⟩ := h
  dsimp only at h1
  rw [if_neg ha] at h1
  exact ⟨h1, h2, h3⟩

theorem push_ans (d : Dq) (p : Nat) : (pushD d p).1 ≠ 2 := by
  unfold pushD
  dsimp only
  repeat' split
  all_goals simp

theorem mv_size {rb g rb' g' : Nat} {w w' : World} (h : Mv rb g rb' g' w') (e : w'.heap.size = w.heap.size) : Mv rb g rb' g' w := by
  unfold Mv at *
  rw [e] at h
  exact h

set_option linter.unusedSimpArgs false in
set_option maxRecDepth 100000 in
set_option maxHeartbeats 1000000 in
theorem rstep_push (w : World) (cb rb g : Nat) (d : Dq) (p : Nat) (hp : p < 16) (h : RQ w cb rb g d) (hs : Sml 999999 d) (hb : busyD d p = true) (hk : (d.c p).k = 1) : Calls Try.prog 17 #[.pointer (some ⟨cb, 0, none⟩), .int .i64 (p : Int)] w (RSPost cb rb g (stepB d p) w) := by
  have C19 := hide (rbusy_any w cb rb g d p h)
  rw [hb] at C19
  have hc2 := h.call p 2 hp (by omega)
  have hc0 := h.call p 0 hp (by omega)
  simp only [rcl, Nat.add_zero] at hc2 hc0
  obtain ⟨c2, f2⟩ := hc2
  obtain ⟨c0, f0⟩ := hc0
  obtain ⟨s1, s2⟩ := hs.s p
  have HD := hide (show RQ (w.setCell ⟨cb, 3 + p * 7 + 2, none⟩ (.int .i64 ((d.c p).s + 1))) cb rb g (bump d p) from h.setCall p 2 hp (by omega) _ _ (by intro j hj; rcases j with _ | _ | _ | _ | _ | _ | _ | j <;> simp [rcl] <;> omega))
  have HW := hide (Wr.set cb g (3 + p * 7 + 2) (.int .i64 ((d.c p).s + 1)) w)
  have HZ := hide (show (w.setCell ⟨cb, 3 + p * 7 + 2, none⟩ (.int .i64 ((d.c p).s + 1))).heap.size = w.heap.size by simp [World.setCell])
  have hsb := hs.bump p
  have hkb : ((bump d p).c p).k = (d.c p).k := by simp [bump, Dq.put]
  have hgo : goD (bump d p) p = pushD (bump d p) p := by unfold goD; rw [hkb]; rw [if_pos hk]
  have CC := hide (rpush_any (w.setCell ⟨cb, 3 + p * 7 + 2, none⟩ (.int .i64 ((d.c p).s + 1))) cb rb g (bump d p) p hp HD.out hsb)
  have HE := hide (show stepB d p = ((pushD (bump d p) p).1, if (pushD (bump d p) p).1 = 2 then ((pushD (bump d p) p).2.c p).v else 0, if (pushD (bump d p) p).1 = 0 then (pushD (bump d p) p).2 else (pushD (bump d p) p).2.put p Cl.zero) by rw [← hgo]; rfl)
  have HA := hide (show (pushD (bump d p) p).1 ≠ 2 from push_ans _ _)
  generalize stepB d p = R at *
  generalize pushD (bump d p) p = G at *
  obtain ⟨a, d2⟩ := G
  dsimp only at HE CC HA
  generalize (d.c p).s = s at *
  have hp' : (p : Int) < 16 := by omega
  rw [hk] at c0
  clear hk
  clear h hs hsb hb hkb hgo
  by_cases h0 : a = 0
  · subst h0
    rw [if_neg (by decide), if_pos rfl] at HE
    go_enter Try.func17, Try.ntmps17
    go_wp2_with (first
      | (go_at_call 19; go_must ((with_reducible refine C19.out.mono ?_); rintro e w1 ⟨rfl, rfl⟩))
      | (go_at_call 28; go_must ((with_reducible refine CC.out.mono ?_); rintro e w2 ⟨rfl, rb', g', hM, hW2, hmv⟩; have HM := hide hM; have HW2 := hide hW2; have HMV := hide hmv; have HC := hide (fun j (hj : j < 7) => hM.call p j hp hj); clear hM hW2 hmv)))
    go_ret2
    refine ⟨by rw [HE.out]; rfl, rb', g', by rw [HE.out]; exact HM.out, HW.out.trans HW2.out, mv_size HMV.out HZ.out⟩
  · rw [if_neg HA.out, if_neg h0] at HE
    have h0'' : (a != 0) = true := by simpa using h0
    have h0' : (a == 0) = false := by simpa using h0
    clear h0
    go_enter Try.func17, Try.ntmps17
    go_wp2_with (first
      | (go_at_call 19; go_must ((with_reducible refine C19.out.mono ?_); rintro e w1 ⟨rfl, rfl⟩))
      | (go_at_call 28; go_must ((with_reducible refine CC.out.mono ?_); rintro e w2 ⟨rfl, rb', g', hM, hW2, hmv⟩; have HM := hide hM; have HW2 := hide hW2; have HMV := hide hmv; have HC := hide (fun j (hj : j < 7) => hM.call p j hp hj); clear hM hW2 hmv; obtain ⟨q0, r0⟩ := (HC.out 0 (by omega)); obtain ⟨q1, r1⟩ := (HC.out 1 (by omega)); obtain ⟨q2, r2⟩ := (HC.out 2 (by omega)); obtain ⟨q3, r3⟩ := (HC.out 3 (by omega)); obtain ⟨q4, r4⟩ := (HC.out 4 (by omega)); obtain ⟨q5, r5⟩ := (HC.out 5 (by omega)); obtain ⟨q6, r6⟩ := (HC.out 6 (by omega)); simp only [rcl, Nat.add_zero] at q0 q1 q2 q3 q4 q5 q6 r0 r1 r2 r3 r4 r5 r6)))
    go_ret2
    refine ⟨by rw [HE.out]; rfl, rb', g', by rw [HE.out]; exact HM.out.setAll p hp Cl.zero, (HW.out.trans HW2.out).trans (Wr.setAll _ _ _ _ _ _ _ _ _ _ _), mv_size HMV.out HZ.out⟩

set_option linter.unusedSimpArgs false in
set_option maxRecDepth 100000 in
set_option maxHeartbeats 1000000 in
theorem rstep_pop (w : World) (cb rb g : Nat) (d : Dq) (p : Nat) (hp : p < 16) (h : RQ w cb rb g d) (hs : Sml 999999 d) (hb : busyD d p = true) (hk : (d.c p).k = 2) (hw : Wf d) : Calls Try.prog 17 #[.pointer (some ⟨cb, 0, none⟩), .int .i64 (p : Int)] w (RSPost cb rb g (stepB d p) w) := by
  have C19 := hide (rbusy_any w cb rb g d p h)
  rw [hb] at C19
  have hc2 := h.call p 2 hp (by omega)
  have hc0 := h.call p 0 hp (by omega)
  simp only [rcl, Nat.add_zero] at hc2 hc0
  obtain ⟨c2, f2⟩ := hc2
  obtain ⟨c0, f0⟩ := hc0
  obtain ⟨s1, s2⟩ := hs.s p
  have HD := hide (show RQ (w.setCell ⟨cb, 3 + p * 7 + 2, none⟩ (.int .i64 ((d.c p).s + 1))) cb rb g (bump d p) from h.setCall p 2 hp (by omega) _ _ (by intro j hj; rcases j with _ | _ | _ | _ | _ | _ | _ | j <;> simp [rcl] <;> omega))
  have HW := hide (Wr.set cb g (3 + p * 7 + 2) (.int .i64 ((d.c p).s + 1)) w)
  have HZ := hide (show (w.setCell ⟨cb, 3 + p * 7 + 2, none⟩ (.int .i64 ((d.c p).s + 1))).heap.size = w.heap.size by simp [World.setCell])
  have hsb := hs.bump p
  have hkb : ((bump d p).c p).k = (d.c p).k := by simp [bump, Dq.put]
  have hgo : goD (bump d p) p = popD (bump d p) p := by unfold goD; rw [hkb]; rw [if_neg (by omega), if_pos hk]
  have CC := hide (rpop_any (w.setCell ⟨cb, 3 + p * 7 + 2, none⟩ (.int .i64 ((d.c p).s + 1))) cb rb g (bump d p) p hp HD.out hsb (fun h4 => by
    have e1 : ((bump d p).c p).s = (d.c p).s + 1 := by simp [bump, Dq.put]
    have e2 : ((bump d p).c p).won = (d.c p).won := by simp [bump, Dq.put]
    rw [e2]; exact hw p (by omega)))
  have HE := hide (show stepB d p = ((popD (bump d p) p).1, if (popD (bump d p) p).1 = 2 then ((popD (bump d p) p).2.c p).v else 0, if (popD (bump d p) p).1 = 0 then (popD (bump d p) p).2 else (popD (bump d p) p).2.put p Cl.zero) by rw [← hgo]; rfl)
  generalize stepB d p = R at *
  generalize popD (bump d p) p = G at *
  obtain ⟨a, d2⟩ := G
  dsimp only at HE CC
  generalize (d.c p).s = s at *
  have hp' : (p : Int) < 16 := by omega
  rw [hk] at c0
  clear hk
  clear h hs hsb hb hkb hgo
  by_cases h0 : a = 0
  · subst h0
    rw [if_neg (by decide), if_pos rfl] at HE
    go_enter Try.func17, Try.ntmps17
    go_wp2_with (first
      | (go_at_call 19; go_must ((with_reducible refine C19.out.mono ?_); rintro e w1 ⟨rfl, rfl⟩))
      | (go_at_call 29; go_must ((with_reducible refine CC.out.mono ?_); rintro e w2 ⟨rfl, hM, hW2⟩; have HM := hide hM; have HW2 := hide hW2; have HC := hide (fun j (hj : j < 7) => hM.call p j hp hj); clear hM hW2)))
    go_ret2
    refine ⟨by rw [HE.out]; rfl, rb, g, by rw [HE.out]; exact HM.out, HW.out.trans HW2.out, .inl ⟨rfl, rfl⟩⟩
  by_cases h2 : a = 2
  · subst h2
    rw [if_pos rfl, if_neg (by decide)] at HE
    clear h0
    go_enter Try.func17, Try.ntmps17
    go_wp2_with (first
      | (go_at_call 19; go_must ((with_reducible refine C19.out.mono ?_); rintro e w1 ⟨rfl, rfl⟩))
      | (go_at_call 29; go_must ((with_reducible refine CC.out.mono ?_); rintro e w2 ⟨rfl, hM, hW2⟩; have HM := hide hM; have HW2 := hide hW2; have HC := hide (fun j (hj : j < 7) => hM.call p j hp hj); clear hM hW2; obtain ⟨q0, r0⟩ := (HC.out 0 (by omega)); obtain ⟨q1, r1⟩ := (HC.out 1 (by omega)); obtain ⟨q2, r2⟩ := (HC.out 2 (by omega)); obtain ⟨q3, r3⟩ := (HC.out 3 (by omega)); obtain ⟨q4, r4⟩ := (HC.out 4 (by omega)); obtain ⟨q5, r5⟩ := (HC.out 5 (by omega)); obtain ⟨q6, r6⟩ := (HC.out 6 (by omega)); simp only [rcl, Nat.add_zero] at q0 q1 q2 q3 q4 q5 q6 r0 r1 r2 r3 r4 r5 r6)))
    go_ret2
    refine ⟨by rw [HE.out]; rfl, rb, g, by rw [HE.out]; exact HM.out.setAll p hp Cl.zero, (HW.out.trans HW2.out).trans (Wr.setAll _ _ _ _ _ _ _ _ _ _ _), .inl ⟨rfl, rfl⟩⟩
  · rw [if_neg h2, if_neg h0] at HE
    replace CC := hide (CC.out.mono (fun e w' h => h.no h2))
    have h0'' : (a != 0) = true := by simpa using h0
    have h0' : (a == 0) = false := by simpa using h0
    clear h0 h2
    go_enter Try.func17, Try.ntmps17
    go_wp2_with (first
      | (go_at_call 19; go_must ((with_reducible refine C19.out.mono ?_); rintro e w1 ⟨rfl, rfl⟩))
      | (go_at_call 29; go_must ((with_reducible refine CC.out.mono ?_); rintro e w2 ⟨rfl, hM, hW2⟩; have HM := hide hM; have HW2 := hide hW2; have HC := hide (fun j (hj : j < 7) => hM.call p j hp hj); clear hM hW2; obtain ⟨q0, r0⟩ := (HC.out 0 (by omega)); obtain ⟨q1, r1⟩ := (HC.out 1 (by omega)); obtain ⟨q2, r2⟩ := (HC.out 2 (by omega)); obtain ⟨q3, r3⟩ := (HC.out 3 (by omega)); obtain ⟨q4, r4⟩ := (HC.out 4 (by omega)); obtain ⟨q5, r5⟩ := (HC.out 5 (by omega)); obtain ⟨q6, r6⟩ := (HC.out 6 (by omega)); simp only [rcl, Nat.add_zero] at q0 q1 q2 q3 q4 q5 q6 r0 r1 r2 r3 r4 r5 r6)))
    go_ret2
    refine ⟨by rw [HE.out]; rfl, rb, g, by rw [HE.out]; exact HM.out.setAll p hp Cl.zero, (HW.out.trans HW2.out).trans (Wr.setAll _ _ _ _ _ _ _ _ _ _ _), .inl ⟨rfl, rfl⟩⟩

set_option linter.unusedSimpArgs false in
set_option maxRecDepth 100000 in
set_option maxHeartbeats 1000000 in
theorem rstep_steal (w : World) (cb rb g : Nat) (d : Dq) (p : Nat) (hp : p < 16) (h : RQ w cb rb g d) (hs : Sml 999999 d) (hb : busyD d p = true) (hk1 : ¬ (d.c p).k = 1) (hk2 : ¬ (d.c p).k = 2) : Calls Try.prog 17 #[.pointer (some ⟨cb, 0, none⟩), .int .i64 (p : Int)] w (RSPost cb rb g (stepB d p) w) := by
  have C19 := hide (rbusy_any w cb rb g d p h)
  rw [hb] at C19
  have hc2 := h.call p 2 hp (by omega)
  have hc0 := h.call p 0 hp (by omega)
  simp only [rcl, Nat.add_zero] at hc2 hc0
  obtain ⟨c2, f2⟩ := hc2
  obtain ⟨c0, f0⟩ := hc0
  obtain ⟨s1, s2⟩ := hs.s p
  have HD := hide (show RQ (w.setCell ⟨cb, 3 + p * 7 + 2, none⟩ (.int .i64 ((d.c p).s + 1))) cb rb g (bump d p) from h.setCall p 2 hp (by omega) _ _ (by intro j hj; rcases j with _ | _ | _ | _ | _ | _ | _ | j <;> simp [rcl] <;> omega))
  have HW := hide (Wr.set cb g (3 + p * 7 + 2) (.int .i64 ((d.c p).s + 1)) w)
  have HZ := hide (show (w.setCell ⟨cb, 3 + p * 7 + 2, none⟩ (.int .i64 ((d.c p).s + 1))).heap.size = w.heap.size by simp [World.setCell])
  have hsb := hs.bump p
  have hkb : ((bump d p).c p).k = (d.c p).k := by simp [bump, Dq.put]
  have hgo : goD (bump d p) p = stealD (bump d p) p := by unfold goD; rw [hkb]; rw [if_neg hk1, if_neg hk2]
  have CC := hide (rsteal_any (w.setCell ⟨cb, 3 + p * 7 + 2, none⟩ (.int .i64 ((d.c p).s + 1))) cb rb g (bump d p) p hp HD.out hsb)
  have HE := hide (show stepB d p = ((stealD (bump d p) p).1, if (stealD (bump d p) p).1 = 2 then ((stealD (bump d p) p).2.c p).v else 0, if (stealD (bump d p) p).1 = 0 then (stealD (bump d p) p).2 else (stealD (bump d p) p).2.put p Cl.zero) by rw [← hgo]; rfl)
  generalize stepB d p = R at *
  generalize stealD (bump d p) p = G at *
  obtain ⟨a, d2⟩ := G
  dsimp only at HE CC
  generalize (d.c p).s = s at *
  have hp' : (p : Int) < 16 := by omega
  have hk1' : ((d.c p).k == 1) = false := by simpa using hk1
  have hk2' : ((d.c p).k == 2) = false := by simpa using hk2
  generalize (d.c p).k = kk at *
  clear hk1 hk2
  clear h hs hsb hb hkb hgo
  by_cases h0 : a = 0
  · subst h0
    rw [if_neg (by decide), if_pos rfl] at HE
    go_enter Try.func17, Try.ntmps17
    go_wp2_with (first
      | (go_at_call 19; go_must ((with_reducible refine C19.out.mono ?_); rintro e w1 ⟨rfl, rfl⟩))
      | (go_at_call 30; go_must ((with_reducible refine CC.out.mono ?_); rintro e w2 ⟨rfl, hM, hW2⟩; have HM := hide hM; have HW2 := hide hW2; have HC := hide (fun j (hj : j < 7) => hM.call p j hp hj); clear hM hW2)))
    go_ret2
    refine ⟨by rw [HE.out]; rfl, rb, g, by rw [HE.out]; exact HM.out, HW.out.trans HW2.out, .inl ⟨rfl, rfl⟩⟩
  by_cases h2 : a = 2
  · subst h2
    rw [if_pos rfl, if_neg (by decide)] at HE
    clear h0
    go_enter Try.func17, Try.ntmps17
    go_wp2_with (first
      | (go_at_call 19; go_must ((with_reducible refine C19.out.mono ?_); rintro e w1 ⟨rfl, rfl⟩))
      | (go_at_call 30; go_must ((with_reducible refine CC.out.mono ?_); rintro e w2 ⟨rfl, hM, hW2⟩; have HM := hide hM; have HW2 := hide hW2; have HC := hide (fun j (hj : j < 7) => hM.call p j hp hj); clear hM hW2; obtain ⟨q0, r0⟩ := (HC.out 0 (by omega)); obtain ⟨q1, r1⟩ := (HC.out 1 (by omega)); obtain ⟨q2, r2⟩ := (HC.out 2 (by omega)); obtain ⟨q3, r3⟩ := (HC.out 3 (by omega)); obtain ⟨q4, r4⟩ := (HC.out 4 (by omega)); obtain ⟨q5, r5⟩ := (HC.out 5 (by omega)); obtain ⟨q6, r6⟩ := (HC.out 6 (by omega)); simp only [rcl, Nat.add_zero] at q0 q1 q2 q3 q4 q5 q6 r0 r1 r2 r3 r4 r5 r6)))
    go_ret2
    refine ⟨by rw [HE.out]; rfl, rb, g, by rw [HE.out]; exact HM.out.setAll p hp Cl.zero, (HW.out.trans HW2.out).trans (Wr.setAll _ _ _ _ _ _ _ _ _ _ _), .inl ⟨rfl, rfl⟩⟩
  · rw [if_neg h2, if_neg h0] at HE
    replace CC := hide (CC.out.mono (fun e w' h => h.no h2))
    have h0'' : (a != 0) = true := by simpa using h0
    have h0' : (a == 0) = false := by simpa using h0
    clear h0 h2
    go_enter Try.func17, Try.ntmps17
    go_wp2_with (first
      | (go_at_call 19; go_must ((with_reducible refine C19.out.mono ?_); rintro e w1 ⟨rfl, rfl⟩))
      | (go_at_call 30; go_must ((with_reducible refine CC.out.mono ?_); rintro e w2 ⟨rfl, hM, hW2⟩; have HM := hide hM; have HW2 := hide hW2; have HC := hide (fun j (hj : j < 7) => hM.call p j hp hj); clear hM hW2; obtain ⟨q0, r0⟩ := (HC.out 0 (by omega)); obtain ⟨q1, r1⟩ := (HC.out 1 (by omega)); obtain ⟨q2, r2⟩ := (HC.out 2 (by omega)); obtain ⟨q3, r3⟩ := (HC.out 3 (by omega)); obtain ⟨q4, r4⟩ := (HC.out 4 (by omega)); obtain ⟨q5, r5⟩ := (HC.out 5 (by omega)); obtain ⟨q6, r6⟩ := (HC.out 6 (by omega)); simp only [rcl, Nat.add_zero] at q0 q1 q2 q3 q4 q5 q6 r0 r1 r2 r3 r4 r5 r6)))
    go_ret2
    refine ⟨by rw [HE.out]; rfl, rb, g, by rw [HE.out]; exact HM.out.setAll p hp Cl.zero, (HW.out.trans HW2.out).trans (Wr.setAll _ _ _ _ _ _ _ _ _ _ _), .inl ⟨rfl, rfl⟩⟩

set_option maxRecDepth 100000 in
theorem rstep_no (w : World) (cb rb g : Nat) (d : Dq) (who : Int) (h : RQ w cb rb g d) (hb : busyD d who = false) : Calls Try.prog 17 #[.pointer (some ⟨cb, 0, none⟩), .int .i64 who] w (RSPost cb rb g (0, 0, d) w) := by
  have C19 := hide (rbusy_any w cb rb g d who h)
  rw [hb] at C19
  have HD := hide h
  clear h hb
  go_enter Try.func17, Try.ntmps17
  go_wp2_with (go_at_call 19; go_must ((with_reducible refine C19.out.mono ?_); rintro e w1 ⟨rfl, rfl⟩))
  go_ret2
  exact ⟨rfl, rb, g, HD.out, Wr.refl _ _ _, .inl ⟨rfl, rfl⟩⟩

theorem rstep_any (w : World) (cb rb g : Nat) (d : Dq) (who : Int) (h : RQ w cb rb g d) (hs : Sml 999999 d) (hw : Wf d) : Calls Try.prog 17 #[.pointer (some ⟨cb, 0, none⟩), .int .i64 who] w (RSPost cb rb g (stepD d who) w) := by
  by_cases hb : busyD d who = true
  · obtain ⟨e, hk, h1, h2⟩ := stepD_busy hb
    obtain ⟨p, rfl⟩ : ∃ p : Nat, who = p := ⟨who.toNat, by omega⟩
    rw [Int.toNat_natCast] at e hk
    rw [e]
    by_cases k1 : (d.c p).k = 1
    · exact rstep_push w cb rb g d p (by omega) h hs hb k1
    by_cases k2 : (d.c p).k = 2
    · exact rstep_pop w cb rb g d p (by omega) h hs hb k2 hw
    · exact rstep_steal w cb rb g d p (by omega) h hs hb k1 k2
  · rw [stepD_idle hb]
    exact rstep_no w cb rb g d who h (by simpa using hb)
end Go.Proofs.Ytaooglcjcnkgnaa
