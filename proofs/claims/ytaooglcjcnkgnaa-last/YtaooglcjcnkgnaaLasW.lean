/- DequeLast answers true. -/
import Derived.Test.YtaooglcjcnkgnaaIts
import Derived.Test.YtaooglcjcnkgnaaThu
namespace Go.Proofs.Ytaooglcjcnkgnaa
open Go.RowKit Go.ChangeShapes Go.WideShapes Go.ChangeAt Go.Deep

theorem pop_ans {d : Dq} (h : (d.c 0).k = 2) : (stepB d 0).1 = 0 ∨ (stepB d 0).1 = 2 ∨ (stepB d 0).1 = 3 := by
  have hb : ((bump d 0).c 0).k = 2 := by simp [bump, Dq.put, h]
  unfold stepB goD popD
  rw [hb]
  dsimp only
  rw [if_neg (by omega), if_pos rfl]
  repeat' split
  all_goals simp

namespace dequeLast

/-- One item, that got of them have taken. -/
structure LI (m : Nat) (d : Dq) (got : Nat) : Prop where
  j : ∃ H, J d H ∧ (got = 0 ∧ H = [5] ∨ got = 1 ∧ H = []) ∧ ((d.c 0).k = 2 ∨ (d.c 0).k = 0 ∧ H = [])
  sm : Sml m d

theorem LI.step {m : Nat} {d : Dq} {got : Nat} (h : LI m d got) (who : Int) (hm : m ≤ 10000) :
    ((stepD d who).1 = 2 → (stepD d who).2.1 = 5 ∧ got = 0 ∧ LI (m + 2) (stepD d who).2.2 1) ∧ ((stepD d who).1 ≠ 2 → LI (m + 2) (stepD d who).2.2 got) := by
  obtain ⟨⟨H, hJ, hH, hk⟩, hs⟩ := h
  by_cases hb : busyD d who = true
  · obtain ⟨e, hkk, hw⟩ := stepD_busy hb
    have hs2 := hs.step who
    rw [e] at hs2 ⊢
    generalize hp : who.toNat = p at *
    have hbt := hs.bot
    obtain ⟨H', hS⟩ := hJ.stepB hkk (by omega)
    obtain ⟨c1, c2, c3⟩ := stepB_c d p
    have own : ((stepB d p).1 ≠ 2 → ((stepB d p).2.2.c 0).k = 2 ∨ ((stepB d p).2.2.c 0).k = 0 ∧ H' = []) := by
      intro ha
      have hHH := hS.same ha
      by_cases e0 : p = 0
      · subst e0
        have hk2 : (d.c 0).k = 2 := by
          rcases hk with h | ⟨h, _⟩
          · exact h
          · exact absurd h hkk
        rcases pop_ans hk2 with h | h | h
        · left; rw [(c2 h).1]; exact hk2
        · exact absurd h ha
        · right
          exact ⟨by rw [c3 (by omega)]; rfl, hS.none rfl hk2 h⟩
      · rw [c1 0 (fun e => e0 e.symm), hHH]
        exact hk
    refine ⟨fun h2 => ?_, fun h2 => ⟨⟨H', hS.j, by rw [hS.same h2]; exact hH, own h2⟩, hs2⟩⟩
    have hHv : got = 0 ∧ (stepB d p).2.1 = 5 ∧ H' = [] := by
      have hp2 := hS.item h2
      rcases hH with ⟨h1, h3⟩ | ⟨_, h3⟩
      · rw [h3] at hp2
        have := List.singleton_perm.1 hp2
        simp only [List.cons.injEq] at this
        exact ⟨h1, this.1.symm, this.2.symm⟩
      · rw [h3] at hp2
        have := hp2.length_eq
        simp at this
    obtain ⟨g1, g2, g3⟩ := hHv
    refine ⟨g2, g1, ⟨H', hS.j, .inr ⟨rfl, g3⟩, ?_⟩, hs2⟩
    by_cases e0 : p = 0
    · subst e0
      right
      exact ⟨by rw [c3 (by omega)]; rfl, g3⟩
    · rw [c1 0 (fun e => e0 e.symm)]
      rcases hk with h | ⟨h, _⟩
      · exact .inl h
      · exact .inr ⟨h, g3⟩
  · rw [stepD_idle hb]
    exact ⟨fun e => by simp at e, fun _ => ⟨⟨H, hJ, hH, hk⟩, hs.mono (by omega)⟩⟩

theorem LI.first : ∃ H, J (thruD Dq.zero 0 1 5).2.2 H ∧ H = [5] ∧ Sml 12 (thruD Dq.zero 0 1 5).2.2 ∧ ∀ p, (thruD Dq.zero 0 1 5).2.2.c p = Cl.zero := by
  obtain ⟨_, h⟩ := thru_push Al.zero (by decide) 5
  exact ⟨_, h.j, rfl, Sml.zero.thru 0 1 5, h.z⟩

theorem LI.pop : LI 12 (beginD (thruD Dq.zero 0 1 5).2.2 0 2 0).2 0 := by
  obtain ⟨H, hJ, rfl, hs, hz⟩ := LI.first
  have hb := (Al.mk hz hJ).begin 0 2 0 (by decide)
  have h2 := (hJ.begin 0 2 0).2 (by rw [show beginD _ 0 2 0 = _ from hb])
  rw [if_neg (by omega)] at h2
  refine ⟨⟨_, h2, .inl ⟨rfl, rfl⟩, .inl ?_⟩, hs.begin 0 2 0⟩
  rw [show beginD (thruD Dq.zero 0 1 5).2.2 0 2 0 = _ from hb]
  show ((Dq.mk' _ 0 _ _ _ _ _).c 0).k = 2
  rw [mk_c]

theorem LI.steal {m : Nat} {d : Dq} {got : Nat} (h : LI m d got) (p : Nat) (hp : 1 ≤ p) : LI m (beginD d p 3 0).2 got := by
  obtain ⟨⟨H, hJ, hH, hk⟩, hs⟩ := h
  obtain ⟨h1, h2⟩ := hJ.begin p 3 0
  by_cases e : (beginD d p 3 0).1 = 0
  · have h3 := h2 e
    rw [if_neg (by omega)] at h3
    refine ⟨⟨H, h3, hH, ?_⟩, hs.begin p 3 0⟩
    have hc : (beginD d p 3 0).2.c 0 = d.c 0 := by
      unfold beginD
      split
      · rfl
      · split
        · rfl
        · rw [Int.toNat_natCast]
          have : (0 : Nat) ≠ p := by omega
          simp [Dq.put, this]
    rw [hc]
    exact hk
  · rw [h1 e]
    exact ⟨⟨H, hJ, hH, hk⟩, hs⟩

theorem LI.done {m t len : Nat} {d : Dq} {got : Nat} (h : LI m d got) (hp : Pr (t + 1) len (len + 100) d) (ht : t ≤ 15) : got = 1 ∧ itemsD d = [] := by
  obtain ⟨⟨H, hJ, hH, hk⟩, hs⟩ := h
  have h0 := hp.done hJ (by omega) (by omega) 0 (by omega)
  have hI := hJ.items h0
  have hE : H = [] := by
    rcases hk with h | ⟨_, h⟩
    · omega
    · exact h
  rw [← hI]
  refine ⟨?_, hE⟩
  rcases hH with ⟨_, h⟩ | ⟨h, _⟩
  · rw [hE] at h; cases h
  · exact h

/-- In memory. -/
structure LW (w wr : World) (cb m : Nat) (d : Dq) (got : Nat) : Prop where
  bel : Below w.heap.size w wr
  dn : Dn (fun k => k < w.heap.size) wr cb d
  li : LI m d got

theorem LW.start {w w2 : World} {cb : Nat} (hb : Below w.heap.size w w2) (hd : Dn (fun k => k < w.heap.size) w2 cb Dq.zero) : Calls Try.prog 23 #[.pointer (some ⟨cb, 0, none⟩), .int .i64 0, .int .i64 1, .int .i64 5] w2 fun e w' => ∃ a v, e = .returned (.tuple #[.int .i64 a, .int .i64 v]) ∧ Calls Try.prog 13 #[.pointer (some ⟨cb, 0, none⟩), .int .i64 0, .int .i64 2, .int .i64 0] w' fun e w'' => ∃ x d, e = .returned (.int .i64 x) ∧ LW w w'' cb 12 d 0 := by
  refine (hd.thru (Sml.zero.mono (by omega)) 0 1 5).mono ?_
  rintro e w' ⟨rfl, hd2, hK⟩
  refine ⟨_, _, rfl, (hd2.begin 0 2 0).mono ?_⟩
  rintro e w'' ⟨rfl, hd3, hK2⟩
  exact ⟨_, _, rfl, (hK.trans hK2).below hb (Nat.le_refl _) (fun k hk => hk), hd3, LI.pop⟩

theorem LW.steal {w wr : World} {cb m : Nat} {d : Dq} {got : Nat} (h : LW w wr cb m d got) (p : Nat) (hp : 1 ≤ p) : Calls Try.prog 13 #[.pointer (some ⟨cb, 0, none⟩), .int .i64 (p : Int), .int .i64 3, .int .i64 0] wr fun e w' => ∃ x d', e = .returned (.int .i64 x) ∧ LW w w' cb m d' got := by
  refine (h.dn.begin p 3 0).mono ?_
  rintro e w' ⟨rfl, hd3, hK2⟩
  exact ⟨_, _, rfl, hK2.below h.bel (Nat.le_refl _) (fun k hk => hk), hd3, h.li.steal p hp⟩

theorem LW.step {w wr : World} {cb m : Nat} {d : Dq} {got : Nat} (h : LW w wr cb m d got) (hm : m ≤ 10000) (q : Nat) : Calls Try.prog 14 #[.pointer (some ⟨cb, 0, none⟩), .int .i64 (q : Int)] wr fun e w' => e = .returned (.tuple #[.int .i64 (stepD d (q : Int)).1, .int .i64 (stepD d (q : Int)).2.1]) ∧ Below w.heap.size w w' ∧ Dn (fun k => k < w.heap.size) w' cb (stepD d (q : Int)).2.2 := by
  refine (h.dn.step (h.li.sm.mono (by omega)) q).mono ?_
  rintro e w' ⟨rfl, hd3, hK2⟩
  exact ⟨rfl, hK2.below h.bel (Nat.le_refl _) (fun k hk => hk), hd3⟩

set_option maxRecDepth 100000 in
theorem walk_skip (t : Int) (a : Option Addr) (n c : Nat) (w : World) (hn : n ≤ maxLen) (h : t < 1 ∨ 15 < t ∨ 200 < n) : Calls Try.prog 6 #[.int .i64 t, .slice a n c] w fun e w' => e = .returned (.bool true) ∧ Below w.heap.size w w' := by
  have h' : t < 1 ∨ (¬ t < 1 ∧ 15 < t) ∨ (¬ t < 1 ∧ ¬ 15 < t ∧ 200 < (n : Int)) := by omega
  have hm' : n ≤ 9223372036854775807 := by unfold maxLen at hn; omega
  clear h
  rcases h' with h1 | ⟨h1, h2⟩ | ⟨h1, h2, h3⟩
  all_goals
    go_enter Try.func6, Try.ntmps6
    go_wp2_with (go_at_call 10; go_must ((with_reducible refine (alive_any w).mono ?_); rintro e w1 ⟨rfl, hb1⟩))
    go_ret
    exact ⟨rfl, hb1⟩

set_option maxRecDepth 100000 in
set_option maxHeartbeats 4000000 in
theorem walk_main (t : Nat) (a : Option Addr) (n c : Nat) (l : List Int) (w : World) (ht1 : 1 ≤ t) (ht : t ≤ 15) (hn : n ≤ 200) (hl : l.length = n) (hr : Reads w a (iV l)) : Calls Try.prog 6 #[.int .i64 (t : Int), .slice a n c] w fun e w' => e = .returned (.bool true) ∧ Below w.heap.size w w' := by
  have HL := hide hl
  have HR := hide hr
  clear hl hr
  have ht1' : ¬ (t : Int) < 1 := by omega
  have ht' : ¬ 15 < (t : Int) := by omega
  have hn' : ¬ 200 < (n : Int) := by omega
  go_enter Try.func6, Try.ntmps6
  go_wp2_with (first
    | (go_at_call 10; go_must ((with_reducible refine (alive_any w).mono ?_); rintro e w1 ⟨rfl, hb1⟩; have C11 := hide (Dn.new hb1); clear hb1))
    | (go_at_call 11; go_must ((with_reducible refine C11.out.mono ?_); rintro e w2 ⟨cb, rfl, hD, hB⟩; have C23 := hide (LW.start hB hD); clear hD hB))
    | (go_at_call 23; go_must ((with_reducible refine C23.out.mono ?_); rintro e w3 ⟨a3, v3, rfl, hc⟩; have C13 := hide hc; clear hc))
    | (go_at_call 13; go_must ((with_reducible refine C13.out.mono ?_); rintro e w4 ⟨x4, d4, rfl, hW⟩; have HW := hide hW; clear hW)))
  go_loopw [7] (fun i wr => ∃ (k : Nat) (d : Dq), 1 ≤ k ∧ k ≤ t + 1 ∧ i = .int .i64 (k : Nat) ∧ Hid (LW w wr cb 12 d 0)) (fun i _ => t + 1 - (intOf i).toNat)
  case atStart => exact ⟨1, d4, by omega, by omega, rfl, HW⟩
  case round =>
    obtain ⟨k, d, hk1, hk, rfl, HM⟩ := hrel
    by_cases hlt : k ≤ t
    · have hlt' : (k : Int) ≤ (t : Int) := by omega
      have C13b := hide (HM.out.steal k hk1)
      go_wp2_with (go_at_call 13; go_must ((with_reducible refine C13b.out.mono ?_); rintro e w5 ⟨x5, d5, rfl, hW⟩; have HW5 := hide hW; clear hW))
      go_roundw
      case rel => exact ⟨k + 1, d5, by omega, by omega, by go_num, HW5⟩
      case measure => simp [intOf]; omega
    · obtain rfl : k = t + 1 := by omega
      have hlt' : ¬ (((t + 1 : Nat) : Nat) : Int) ≤ (t : Int) := by omega
      have HP0 := hide (show Pr (t + 1) n 0 d from Pr.early (Nat.zero_le _) HM.out.li.sm)
      go_wp2
      go_loopw [8, 9] (fun g i wr => ∃ (k got : Nat) (d : Dq), k ≤ n + 100 ∧ got ≤ 1 ∧ g = .int .i64 (got : Nat) ∧ i = .int .i64 (k : Nat) ∧ Hid (LW w wr cb (12 + 2 * k) d got ∧ Pr (t + 1) n k d)) (fun _ i _ => n + 100 - (intOf i).toNat)
      case atStart => exact ⟨0, 0, d, by omega, by omega, rfl, rfl, hide ⟨HM.out, HP0.out⟩⟩
      case round =>
        obtain ⟨k, got, d, hk, hgot, rfl, rfl, HM⟩ := hrel
        by_cases hkn : k < n + 100
        · have hkn' : (k : Int) < (n : Int) + 100 := by omega
          obtain ⟨q, hq⟩ : ∃ q, q = k % (t + 1) := ⟨_, rfl⟩
          have hqm : (k : Int) % ((t : Int) + 1) = (q : Int) := by rw [hq]; push_cast; rfl
          by_cases hkl : k < n
          · have hkl' : (k : Int) < (n : Int) := by omega
            obtain ⟨b, off, rfl, hc0⟩ := iv_at HR.out (show k < l.length by have := HL.out; omega)
            have hc := keep_cell hc0 HM.out.1.bel
            clear hc0
            generalize l.getD k 0 = x at *
            have hb : bits .and .i64 x 127 = x % 128 := i64_mask 7 (by omega) x
            obtain ⟨y, hy⟩ : ∃ y : Nat, x % 128 = y := ⟨(x % 128).toNat, by omega⟩
            obtain ⟨u, hu⟩ : ∃ u, u = y % (t + 1) := ⟨_, rfl⟩
            have hum : (y : Int) % ((t : Int) + 1) = (u : Int) := by rw [hu]; push_cast; rfl
            rw [hy] at hb
            clear hq hu hy
            have C14 := hide (HM.out.1.step (by omega) u)
            have HS := hide (HM.out.1.li.step (u : Int) (by omega))
            have HSM := hide (HM.out.1.li.sm.step (u : Int))
            generalize stepD d (u : Int) = r at *
            obtain ⟨a6, v6, d6⟩ := r
            dsimp only at C14 HS HSM
            have HPR := hide (show Pr (t + 1) n (k + 1) d6 from Pr.early (by omega) HSM.out)
            clear HM HSM
            by_cases ha : a6 = 2
            · subst ha
              obtain ⟨rfl, hg0, hL⟩ := HS.out.1 rfl
              subst hg0
              have HL6 := hide hL
              clear hL HS
              go_wp2_with (go_at_call 14; go_must ((with_reducible refine C14.out.mono ?_); rintro e w6 ⟨rfl, hb6, hd6⟩; have HW6 := hide (show LW w w6 cb (12 + 2 * k + 2) d6 1 from ⟨hb6, hd6, HL6.out⟩); clear hb6 hd6))
              go_roundw
              case rel => exact ⟨k + 1, 1, d6, by omega, by omega, rfl, by go_num, hide ⟨(by rw [show 12 + 2 * (k + 1) = 12 + 2 * k + 2 by omega]; exact HW6.out), HPR.out⟩⟩
              case measure => simp [intOf]; omega
            · have ha' : (a6 == 2) = false := by simpa using ha
              have HL6 := hide (HS.out.2 ha)
              clear HS ha
              go_wp2_with (go_at_call 14; go_must ((with_reducible refine C14.out.mono ?_); rintro e w6 ⟨rfl, hb6, hd6⟩; have HW6 := hide (show LW w w6 cb (12 + 2 * k + 2) d6 got from ⟨hb6, hd6, HL6.out⟩); clear hb6 hd6))
              go_roundw
              case rel => exact ⟨k + 1, got, d6, by omega, by omega, rfl, by go_num, hide ⟨(by rw [show 12 + 2 * (k + 1) = 12 + 2 * k + 2 by omega]; exact HW6.out), HPR.out⟩⟩
              case measure => simp [intOf]; omega
          · have hkl' : ¬ (k : Int) < (n : Int) := by omega
            have C14 := hide (HM.out.1.step (by omega) q)
            have HS := hide (HM.out.1.li.step (q : Int) (by omega))
            have HSM := hide (HM.out.1.li.sm.step (q : Int))
            have HP := hide (HM.out.2.step (by omega) (by omega) hq)
            clear hq
            generalize stepD d (q : Int) = r at *
            obtain ⟨a6, v6, d6⟩ := r
            dsimp only at C14 HS HSM HP
            have HPR := hide (show Pr (t + 1) n (k + 1) d6 from HP.out)
            clear HM HSM
            by_cases ha : a6 = 2
            · subst ha
              obtain ⟨rfl, hg0, hL⟩ := HS.out.1 rfl
              subst hg0
              have HL6 := hide hL
              clear hL HS
              go_wp2_with (go_at_call 14; go_must ((with_reducible refine C14.out.mono ?_); rintro e w6 ⟨rfl, hb6, hd6⟩; have HW6 := hide (show LW w w6 cb (12 + 2 * k + 2) d6 1 from ⟨hb6, hd6, HL6.out⟩); clear hb6 hd6))
              go_roundw
              case rel => exact ⟨k + 1, 1, d6, by omega, by omega, rfl, by go_num, hide ⟨(by rw [show 12 + 2 * (k + 1) = 12 + 2 * k + 2 by omega]; exact HW6.out), HPR.out⟩⟩
              case measure => simp [intOf]; omega
            · have ha' : (a6 == 2) = false := by simpa using ha
              have HL6 := hide (HS.out.2 ha)
              clear HS ha
              go_wp2_with (go_at_call 14; go_must ((with_reducible refine C14.out.mono ?_); rintro e w6 ⟨rfl, hb6, hd6⟩; have HW6 := hide (show LW w w6 cb (12 + 2 * k + 2) d6 got from ⟨hb6, hd6, HL6.out⟩); clear hb6 hd6))
              go_roundw
              case rel => exact ⟨k + 1, got, d6, by omega, by omega, rfl, by go_num, hide ⟨(by rw [show 12 + 2 * (k + 1) = 12 + 2 * k + 2 by omega]; exact HW6.out), HPR.out⟩⟩
              case measure => simp [intOf]; omega
        · obtain rfl : k = n + 100 := by omega
          have HD := hide (HM.out.1.li.done HM.out.2 ht)
          have hg1 := HD.out.1
          subst hg1
          have C21 := hide (HM.out.1.dn.items (HM.out.1.li.sm.mono (by omega)))
          rw [HD.out.2] at C21
          have HB := hide HM.out.1.bel
          have hkn' : ¬ (((n + 100 : Nat) : Nat) : Int) < (n : Int) + 100 := by omega
          clear HM HD
          go_wp2_with (go_at_call 21; go_must ((with_reducible refine C21.out.mono ?_); rintro e w5 ⟨a5, m5, c5, rfl, hm5, ho5, hb5⟩; simp only [List.length_nil] at hm5; subst hm5; have HB5 := hide (HB.out.trans (hb5.mono HB.out.size)); clear ho5 hb5))
          go_ret
          exact ⟨rfl, HB5.out⟩

theorem walk (t : Int) (a : Option Addr) (n c : Nat) (l : List Int) (w : World) (_h1 : -9223372036854775808 ≤ t ∧ t ≤ 9223372036854775807) (hl : l.length = n) (_hB : In64 l) (hm : n ≤ maxLen) (hr : Reads w a (iV l)) : Calls Try.prog 6 #[.int .i64 t, .slice a n c] w fun e w' => e = .returned (.bool true) ∧ Below w.heap.size w w' := by
  by_cases h : t < 1 ∨ 15 < t ∨ 200 < n
  · exact walk_skip t a n c w hm h
  · obtain ⟨b, rfl⟩ : ∃ b : Nat, t = b := ⟨t.toNat, by omega⟩
    exact walk_main b a n c l w (by omega) (by omega) (by omega) hl hr
end dequeLast
end Go.Proofs.Ytaooglcjcnkgnaa
