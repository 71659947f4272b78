/- DequeCalls answers true. -/
import Derived.Test.YtaooglcjcnkgnaaIts
import Derived.Test.YtaooglcjcnkgnaaOnc
namespace Go.Proofs.Ytaooglcjcnkgnaa
open Go.RowKit Go.ChangeShapes Go.WideShapes Go.ChangeAt Go.Deep

theorem busy_zero (who : Int) : busyD Dq.zero who = false := by
  unfold busyD
  simp [Dq.zero, Cl.zero]

theorem call_no {who call : Int} (h : ownC who call = false) (i : Int) : beginD Dq.zero who call i = (1, Dq.zero) := by
  unfold beginD; rw [if_pos h]

theorem call_yes {who call : Int} (h : ownC who call = true) : (beginD Dq.zero who call 5).1 = 0 ∧ busyD (beginD Dq.zero who call 5).2 who = true ∧ (stepD (beginD Dq.zero who call 5).2 who).1 = 0 ∧ (stepD (beginD Dq.zero who call 5).2 who).2.1 = 0 ∧ (beginD (stepD (beginD Dq.zero who call 5).2 who).2.2 who call 6).1 = 31 := by
  have hw : 0 ≤ who ∧ who < 16 := ownC_who h
  obtain ⟨p, rfl⟩ : ∃ p : Nat, who = p := ⟨who.toNat, by omega⟩
  have hb : beginD Dq.zero (p : Int) call 5 = (0, Dq.zero.mk' p 0 0 4 (List.replicate 4 0) ⟨0, 0, 0, false, call, 5, 0⟩) := by
    unfold beginD
    rw [if_neg (by rw [h]; simp), if_neg (by rw [busy_zero]; simp), Int.toNat_natCast]
    rfl
  have hcall : call = 1 ∨ call = 2 ∨ call = 3 := by
    unfold ownC at h
    split at h <;> simp at h <;> omega
  rw [hb]
  generalize hd : Dq.zero.mk' p 0 0 4 (List.replicate 4 0) ⟨0, 0, 0, false, call, 5, 0⟩ = d
  have hc : d.c p = ⟨0, 0, 0, false, call, 5, 0⟩ := by rw [← hd, mk_c]
  have hby : busyD d p = true := by
    unfold busyD
    rw [decide_eq_true (show (0 : Int) ≤ (p : Int) ∧ (p : Int) < 16 by omega), Int.toNat_natCast, hc]
    simp
    omega
  have hs : stepD d p = stepB d p := by rw [(stepD_busy hby).1, Int.toNat_natCast]
  have key : ∃ x : Cl, x.k = call ∧ ∃ t b, stepB d p = (0, 0, d.mk' p t b d.n d.L x) := by
    rcases hcall with rfl | rfl | rfl
    · exact ⟨_, rfl, _, _, sp0 hc⟩
    · exact ⟨_, rfl, _, _, so0 hc⟩
    · exact ⟨_, rfl, _, _, ss0 hc⟩
  obtain ⟨x, hx, t, b, hk⟩ := key
  refine ⟨rfl, hby, ?_, ?_, ?_⟩
  · show (stepD d p).1 = 0
    rw [hs, hk]
  · show (stepD d p).2.1 = 0
    rw [hs, hk]
  · show (beginD (stepD d p).2.2 p call 6).1 = 31
    rw [hs, hk]
    unfold beginD
    rw [if_neg (by rw [h]; simp), if_pos]
    unfold busyD
    rw [decide_eq_true (show (0 : Int) ≤ (p : Int) ∧ (p : Int) < 16 by omega), Int.toNat_natCast, mk_c, hx]
    simp
    omega

namespace dequeCalls

set_option maxRecDepth 100000 in
set_option maxHeartbeats 1000000 in
theorem walk_yes (who call : Int) (w : World) (h : ownC who call = true) (hcs : who = 0 ∧ call = 1 ∨ who = 0 ∧ call = 2 ∨ 0 < who ∧ who < 16 ∧ call = 3) :
    Calls Try.prog 9 #[.int .i64 who, .int .i64 call] w fun e w' => e = .returned (.bool true) ∧ Below w.heap.size w w' := by
  obtain ⟨e1, e2, e3, e4, e5⟩ := call_yes h
  have C13 := hide (fun W cb (hd : Dn (fun k => k < w.heap.size) W cb Dq.zero) => hd.begin who call 5)
  have C18 := hide (fun W cb (hd : Dn (fun k => k < w.heap.size) W cb (beginD Dq.zero who call 5).2) => hd.busy who)
  have C14 := hide (fun W cb (hd : Dn (fun k => k < w.heap.size) W cb (beginD Dq.zero who call 5).2) => hd.step ((Sml.zero.begin who call 5).mono (by omega)) who)
  have C13b := hide (fun W cb (hd : Dn (fun k => k < w.heap.size) W cb (stepD (beginD Dq.zero who call 5).2 who).2.2) => hd.begin who call 6)
  rw [e1] at C13
  rw [e2] at C18
  rw [e3, e4] at C14
  rw [e5] at C13b
  generalize (beginD (stepD (beginD Dq.zero who call 5).2 who).2.2 who call 6).2 = d3 at *
  generalize (stepD (beginD Dq.zero who call 5).2 who).2.2 = d2 at *
  generalize (beginD Dq.zero who call 5).2 = d1 at *
  clear e1 e2 e3 e4 e5 h
  have C11 := hide (fun W (hb : Below w.heap.size w W) => Dn.new hb)
  rcases hcs with ⟨rfl, rfl⟩ | ⟨rfl, rfl⟩ | ⟨h1, h2, rfl⟩
  all_goals
    try have h3 : (who == 0) = false := by simp; omega
    go_enter Try.func9, Try.ntmps9
    go_wp2_with (first
      | (go_at_call 10; go_must ((with_reducible refine (alive_any w).mono ?_); rintro e w1 ⟨rfl, hb1⟩; have CN := hide (C11.out _ hb1); clear hb1))
      | (go_at_call 11; go_must ((with_reducible refine CN.out.mono ?_); rintro e w2 ⟨cb, rfl, hD, hB⟩; have HB := hide hB; have CB := hide (C13.out _ _ hD); clear hD hB))
      | (go_at_call 13; ((with_reducible refine CB.out.mono ?_); rintro e w3 ⟨rfl, hD, hK⟩; have HK3 := hide hK; have CY := hide (C18.out _ _ hD); have CS := hide (C14.out _ _ hD); clear hD hK))
      | (go_at_call 15; go_must ((with_reducible refine (num_any _ _).mono ?_); rintro e w7 ⟨rfl, rfl⟩))
      | (go_at_call 18; go_must ((with_reducible refine CY.out.mono ?_); rintro e w7 ⟨rfl, rfl⟩))
      | (go_at_call 14; go_must ((with_reducible refine CS.out.mono ?_); rintro e w4 ⟨rfl, hD, hK⟩; have HK4 := hide hK; have CB2 := hide (C13b.out _ _ hD); clear hD hK))
      | (go_at_call 13; go_must ((with_reducible refine CB2.out.mono ?_); rintro e w5 ⟨rfl, hD, hK⟩; have HK5 := hide hK; clear hD hK)))
    go_ret
    exact ⟨rfl, ((HK3.out.trans HK4.out).trans HK5.out).below HB.out (Nat.le_refl _) (fun k hk => hk)⟩

set_option maxRecDepth 100000 in
set_option maxHeartbeats 1000000 in
theorem walk_no (who call : Int) (w : World) (h : ownC who call = false) (hcs : who < 0 ∨ 16 ≤ who ∨ who = 0 ∧ call ≠ 1 ∧ call ≠ 2 ∨ 0 < who ∧ who < 16 ∧ call ≠ 3) :
    Calls Try.prog 9 #[.int .i64 who, .int .i64 call] w fun e w' => e = .returned (.bool true) ∧ Below w.heap.size w w' := by
  have C13 := hide (fun W cb i (hd : Dn (fun k => k < w.heap.size) W cb Dq.zero) => by
    have := hd.begin who call i
    rw [call_no h] at this
    exact this)
  have C18 := hide (fun W cb (hd : Dn (fun k => k < w.heap.size) W cb Dq.zero) => by
    have := hd.busy who
    rw [busy_zero] at this
    exact this)
  have C14 := hide (fun W cb (hd : Dn (fun k => k < w.heap.size) W cb Dq.zero) => by
    have := hd.step (Sml.zero.mono (by omega)) who
    rw [stepD_idle (by rw [busy_zero]; simp)] at this
    exact this)
  have C11 := hide (fun W (hb : Below w.heap.size w W) => Dn.new hb)
  clear h
  dsimp only at C13 C14
  rcases hcs with h1 | h1 | ⟨rfl, h1, h2⟩ | ⟨h1, h2, h4⟩
  all_goals
    try have h3 : (who == 0) = false := by simp; omega
    try have h5 : (call == 1) = false := by simp; omega
    try have h6 : (call == 2) = false := by simp; omega
    try have h7 : (call == 3) = false := by simp; omega
    try have h8 : 0 < who := by omega
    try have h9 : ¬ who < 16 := by omega
    try have h9 : ¬ 0 < who := by omega
    go_enter Try.func9, Try.ntmps9
    go_wp2_with (first
      | (go_at_call 10; go_must ((with_reducible refine (alive_any w).mono ?_); rintro e w1 ⟨rfl, hb1⟩; have CN := hide (C11.out _ hb1); clear hb1))
      | (go_at_call 11; go_must ((with_reducible refine CN.out.mono ?_); rintro e w2 ⟨cb, rfl, hD, hB⟩; have HB := hide hB; have CB := hide (C13.out _ _ 5 hD); clear hD hB))
      | (go_at_call 13; ((with_reducible refine CB.out.mono ?_); rintro e w3 ⟨rfl, hD, hK⟩; have HK3 := hide hK; have CY := hide (C18.out _ _ hD); have CS := hide (C14.out _ _ hD); clear hD hK))
      | (go_at_call 15; go_must ((with_reducible refine (num_any _ _).mono ?_); rintro e w7 ⟨rfl, rfl⟩))
      | (go_at_call 18; go_must ((with_reducible refine CY.out.mono ?_); rintro e w7 ⟨rfl, rfl⟩))
      | (go_at_call 14; go_must ((with_reducible refine CS.out.mono ?_); rintro e w4 ⟨rfl, hD, hK⟩; have HK4 := hide hK; have CB2 := hide (C13.out _ _ 6 hD); clear hD hK))
      | (go_at_call 13; go_must ((with_reducible refine CB2.out.mono ?_); rintro e w5 ⟨rfl, hD, hK⟩; have HK5 := hide hK; clear hD hK)))
    go_ret
    exact ⟨rfl, ((HK3.out.trans HK4.out).trans HK5.out).below HB.out (Nat.le_refl _) (fun k hk => hk)⟩

theorem walk (who call : Int) (w : World) (_h1 : -9223372036854775808 ≤ who ∧ who ≤ 9223372036854775807) (_h2 : -9223372036854775808 ≤ call ∧ call ≤ 9223372036854775807) :
    Calls Try.prog 9 #[.int .i64 who, .int .i64 call] w fun e w' => e = .returned (.bool true) ∧ Below w.heap.size w w' := by
  by_cases h : ownC who call = true
  · refine walk_yes who call w h ?_
    unfold ownC at h
    split at h <;> simp at h <;> omega
  · have h' : ownC who call = false := by simpa using h
    refine walk_no who call w h' ?_
    unfold ownC at h'
    split at h' <;> simp at h' <;> omega
end dequeCalls
end Go.Proofs.Ytaooglcjcnkgnaa
