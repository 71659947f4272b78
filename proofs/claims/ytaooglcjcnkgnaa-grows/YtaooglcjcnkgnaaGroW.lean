/- DequeGrows answers true. -/
import Derived.Test.YtaooglcjcnkgnaaGra
namespace Go.Proofs.Ytaooglcjcnkgnaa
open Go.RowKit Go.ChangeShapes Go.WideShapes Go.ChangeAt Go.Deep
namespace dequeGrows

set_option maxRecDepth 100000 in
theorem walk_skip (t : Int) (a : Option Addr) (n c : Nat) (w : World) (hn : n ≤ maxLen) (h : t < 0 ∨ 200 < t ∨ 300 < n) : Calls Try.prog 7 #[.int .i64 t, .slice a n c] w fun e w' => e = .returned (.bool true) ∧ Below w.heap.size w w' := by
  have h' : t < 0 ∨ (¬ t < 0 ∧ 200 < t) ∨ (¬ t < 0 ∧ ¬ 200 < t ∧ 300 < (n : Int)) := by omega
  have hm' : n ≤ 9223372036854775807 := by unfold maxLen at hn; omega
  clear h
  rcases h' with h1 | ⟨h1, h2⟩ | ⟨h1, h2, h3⟩
  all_goals
    go_enter Try.func7, Try.ntmps7
    go_wp2_with (go_at_call 10; go_must ((with_reducible refine (alive_any w).mono ?_); rintro e w1 ⟨rfl, hb1⟩))
    go_ret
    exact ⟨rfl, hb1⟩

set_option maxRecDepth 100000 in
set_option maxHeartbeats 8000000 in
theorem walk_main (n : Nat) (a : Option Addr) (m c : Nat) (l : List Int) (w : World) (hn : n ≤ 200) (hm : m ≤ 300) (hl : l.length = m) (hr : Reads w a (iV l)) : Calls Try.prog 7 #[.int .i64 (n : Int), .slice a m c] w fun e w' => e = .returned (.bool true) ∧ Below w.heap.size w w' := by
  obtain ⟨i0, hi, hz0, hz1, hz2⟩ := info_parts Try.info3
  have HL := hide hl
  have HR := hide hr
  clear hl hr
  have hn0 : ¬ (n : Int) < 0 := by omega
  have hn' : ¬ 200 < (n : Int) := by omega
  have hm' : ¬ 300 < (m : Int) := by omega
  go_enter Try.func7, Try.ntmps7
  go_wp2_with (first
    | (go_at_call 10; go_must ((with_reducible refine (alive_any w).mono ?_); rintro e w1 ⟨rfl, hb1⟩; have C11 := hide (Dn.new hb1); clear hb1))
    | (go_at_call 11; go_must ((with_reducible refine C11.out.mono ?_); rintro e w2 ⟨cb, rfl, hD, hB⟩; have HD := hide hD; have HB := hide hB; clear hD hB))
    | (at_make; go_must (refine wpList_make_full _ rfl (.tmp 39) (.tmp 39) 38 rfl w2.heap.size 3 i0 (.int .i64 0) 1 Try.underlying38 hi hz0 hz1 .i64 .i64 _ _ (n + 1) rfl rfl (by push_cast; rfl) (by push_cast; rfl) (by rw [hz2]; omega) (by unfold maxLen; omega) (Nat.le_refl _) ?_; intro w3 ho3 hg3; have HO := hide (GM.start HB.out HD.out ho3 hg3); clear ho3 hg3)))
  generalize w2.heap.size = tb at *
  clear hi hz0 hz1 hz2 C11 HD HB
  go_loopw [8, 9] (fun p i wr => ∃ (k : Nat) (d : Dq) (X : List Int) (pu : Nat), p = .int .i64 (pu : Nat) ∧ i = .int .i64 (k : Nat) ∧ Hid (GM w wr cb tb (n + 1) d X ∧ GI n m k d X pu)) (fun _ i _ => 5000 - (intOf i).toNat)
  case atStart => exact ⟨0, Dq.zero, [], 0, rfl, rfl, hide ⟨HO.out, GI.zero n m⟩⟩
  case round =>
    obtain ⟨k, d, X, pu, rfl, rfl, HM⟩ := hrel
    have hkb := HM.out.2.bound
    have hpn := HM.out.2.pun
    have hk5 : ¬ 5000 < (k : Int) := by omega
    by_cases hpu : pu < n
    · have hpu' : (pu : Int) < (n : Int) := by omega
      by_cases hkm : k < m
      · have hkm' : (k : Int) < (m : Int) := by omega
        obtain ⟨b, off, rfl, hc0⟩ := iv_at HR.out (show k < l.length by have := HL.out; omega)
        have hc := keep_cell hc0 HM.out.1.bel
        clear hc0
        generalize l.getD k 0 = x at *
        have hbt : bits .and .i64 x 3 = x % 4 := i64_mask 2 (by omega) x
        obtain ⟨q, hq⟩ : ∃ q : Nat, x % 4 = q := ⟨(x % 4).toNat, by omega⟩
        rw [hq] at hbt
        have hq4 : q < 4 := by omega
        clear hq
        have C18 := hide (HM.out.1.dn.busy (q : Int))
        by_cases hb : busyD d (q : Int) = true
        · have C14 := hide (HM.out.1.step (HM.out.2.oi.sm.mono (by omega)) (q : Int))
          have HS := hide (HM.out.2.step q (.inl hkm) hb (by omega))
          rw [hb] at C18
          generalize stepD d (q : Int) = r at *
          obtain ⟨ra, rv, d2⟩ := r
          dsimp only at C14 HS
          clear HM hb
          by_cases ha : ra = 2
          · subst ha
            obtain ⟨v1, v2, v3, v4⟩ := HS.out.1 rfl
            obtain ⟨vn, rfl⟩ : ∃ vn : Nat, rv = vn := ⟨rv.toNat, by omega⟩
            have hv1 : ¬ (vn : Int) < 1 := by omega
            have hv2 : ¬ (n : Int) < (vn : Int) := by omega
            have hvm : vn < n + 1 := by omega
            have HT := hide (fun W (hB : GM w W cb tb (n + 1) d2 X) => hB.took v3 hvm)
            have HG := hide v4
            clear HS v1 v2 v3 v4
            go_wp2_with (first
                | (go_at_call 18; go_must ((with_reducible refine C18.out.mono ?_); rintro e w5 ⟨rfl, rfl⟩))
                | (go_at_call 14; go_must ((with_reducible refine C14.out.mono ?_); rintro e w6 ⟨rfl, hB⟩; obtain ⟨t0, t1, hO6⟩ := HT.out _ hB; have HO6 := hide hO6; clear hB hO6)))
            go_roundw
            case rel => exact ⟨k + 1, d2, (vn : Int) :: X, pu, rfl, by go_num, hide ⟨HO6.out, HG.out⟩⟩
            case measure => simp [intOf]; omega
          · have ha' : (ra == 2) = false := by simpa using ha
            have HG := hide (HS.out.2 ha)
            clear HS ha
            go_wp2_with (first
                | (go_at_call 18; go_must ((with_reducible refine C18.out.mono ?_); rintro e w5 ⟨rfl, rfl⟩))
                | (go_at_call 14; go_must ((with_reducible refine C14.out.mono ?_); rintro e w6 ⟨rfl, hB⟩; have HO6 := hide hB; clear hB)))
            go_roundw
            case rel => exact ⟨k + 1, d2, X, pu, rfl, by go_num, hide ⟨HO6.out, HG.out⟩⟩
            case measure => simp [intOf]; omega
        · have hb' : busyD d (q : Int) = false := by simpa using hb
          rw [hb'] at C18
          by_cases hq0 : q = 0
          · subst hq0
            have e9 : ((0 : Nat) : Int) = 0 := rfl
            rw [e9] at C18 hbt
            clear e9 hq4
            have C13 := hide (HM.out.1.begin 0 1 ((pu + 1 : Nat) : Int))
            have HG := hide (HM.out.2.push hb' hpu)
            have e1 : ((pu + 1 : Nat) : Int) = (pu : Int) + 1 := by push_cast; rfl
            have e0 : ((0 : Nat) : Int) = 0 := rfl
            rw [e1] at C13 HG
            rw [e0] at HG
            generalize (beginD d 0 1 ((pu : Int) + 1)).2 = d2 at *
            clear HM hb hb' e1 e0
            go_wp2_with (first
              | (go_at_call 18; go_must ((with_reducible refine C18.out.mono ?_); rintro e w5 ⟨rfl, rfl⟩))
              | (go_at_call 13; go_must ((with_reducible refine C13.out.mono ?_); rintro e w6 ⟨⟨x6, rfl⟩, hB⟩; have HO6 := hide hB; clear hB)))
            go_roundw
            case rel => exact ⟨k + 1, d2, X, pu + 1, by go_num, by go_num, hide ⟨HO6.out, HG.out⟩⟩
            case measure => simp [intOf]; omega
          · skip
            have hq0' : 0 < (q : Int) := by omega
            have C13 := hide (HM.out.1.begin (q : Int) 3 0)
            have HG := hide (HM.out.2.steal hkm q hq0)
            generalize (beginD d (q : Int) 3 0).2 = d2 at *
            clear HM hb hb'
            go_wp2_with (first
              | (go_at_call 18; go_must ((with_reducible refine C18.out.mono ?_); rintro e w5 ⟨rfl, rfl⟩))
              | (go_at_call 13; go_must ((with_reducible refine C13.out.mono ?_); rintro e w6 ⟨⟨x6, rfl⟩, hB⟩; have HO6 := hide hB; clear hB)))
            go_roundw
            case rel => exact ⟨k + 1, d2, X, pu, by go_num, by go_num, hide ⟨HO6.out, HG.out⟩⟩
            case measure => simp [intOf]; omega
      · have hkm' : ¬ (k : Int) < (m : Int) := by omega
        have C18 := hide (HM.out.1.dn.busy 0)
        by_cases hb : busyD d 0 = true
        · have C14 := hide (HM.out.1.step (HM.out.2.oi.sm.mono (by omega)) 0)
          have HS := hide (HM.out.2.step 0 (.inr rfl) hb (by omega))
          rw [hb] at C18
          have e0 : ((0 : Nat) : Int) = 0 := rfl
          rw [e0] at HS
          clear e0
          generalize stepD d 0 = r at *
          obtain ⟨ra, rv, d2⟩ := r
          dsimp only at C14 HS
          clear HM hb
          by_cases ha : ra = 2
          · subst ha
            obtain ⟨v1, v2, v3, v4⟩ := HS.out.1 rfl
            obtain ⟨vn, rfl⟩ : ∃ vn : Nat, rv = vn := ⟨rv.toNat, by omega⟩
            have hv1 : ¬ (vn : Int) < 1 := by omega
            have hv2 : ¬ (n : Int) < (vn : Int) := by omega
            have hvm : vn < n + 1 := by omega
            have HT := hide (fun W (hB : GM w W cb tb (n + 1) d2 X) => hB.took v3 hvm)
            have HG := hide v4
            clear HS v1 v2 v3 v4
            go_wp2_with (first
                | (go_at_call 18; go_must ((with_reducible refine C18.out.mono ?_); rintro e w5 ⟨rfl, rfl⟩))
                | (go_at_call 14; go_must ((with_reducible refine C14.out.mono ?_); rintro e w6 ⟨rfl, hB⟩; obtain ⟨t0, t1, hO6⟩ := HT.out _ hB; have HO6 := hide hO6; clear hB hO6)))
            go_roundw
            case rel => exact ⟨k + 1, d2, (vn : Int) :: X, pu, rfl, by go_num, hide ⟨HO6.out, HG.out⟩⟩
            case measure => simp [intOf]; omega
          · have ha' : (ra == 2) = false := by simpa using ha
            have HG := hide (HS.out.2 ha)
            clear HS ha
            go_wp2_with (first
                | (go_at_call 18; go_must ((with_reducible refine C18.out.mono ?_); rintro e w5 ⟨rfl, rfl⟩))
                | (go_at_call 14; go_must ((with_reducible refine C14.out.mono ?_); rintro e w6 ⟨rfl, hB⟩; have HO6 := hide hB; clear hB)))
            go_roundw
            case rel => exact ⟨k + 1, d2, X, pu, rfl, by go_num, hide ⟨HO6.out, HG.out⟩⟩
            case measure => simp [intOf]; omega
        · have hb' : busyD d 0 = false := by simpa using hb
          rw [hb'] at C18
          have C13 := hide (HM.out.1.begin 0 1 ((pu + 1 : Nat) : Int))
          have HG := hide (HM.out.2.push hb' hpu)
          have e1 : ((pu + 1 : Nat) : Int) = (pu : Int) + 1 := by push_cast; rfl
          have e0 : ((0 : Nat) : Int) = 0 := rfl
          rw [e1] at C13 HG
          rw [e0] at HG
          generalize (beginD d 0 1 ((pu : Int) + 1)).2 = d2 at *
          clear HM hb hb' e1 e0
          go_wp2_with (first
            | (go_at_call 18; go_must ((with_reducible refine C18.out.mono ?_); rintro e w5 ⟨rfl, rfl⟩))
            | (go_at_call 13; go_must ((with_reducible refine C13.out.mono ?_); rintro e w6 ⟨⟨x6, rfl⟩, hB⟩; have HO6 := hide hB; clear hB)))
          go_roundw
          case rel => exact ⟨k + 1, d2, X, pu + 1, by go_num, by go_num, hide ⟨HO6.out, HG.out⟩⟩
          case measure => simp [intOf]; omega
    · have hpu' : ¬ (pu : Int) < (n : Int) := by omega
      by_cases hkm : k < m
      · have hkm' : (k : Int) < (m : Int) := by omega
        obtain ⟨b, off, rfl, hc0⟩ := iv_at HR.out (show k < l.length by have := HL.out; omega)
        have hc := keep_cell hc0 HM.out.1.bel
        clear hc0
        generalize l.getD k 0 = x at *
        have hbt : bits .and .i64 x 3 = x % 4 := i64_mask 2 (by omega) x
        obtain ⟨q, hq⟩ : ∃ q : Nat, x % 4 = q := ⟨(x % 4).toNat, by omega⟩
        rw [hq] at hbt
        have hq4 : q < 4 := by omega
        clear hq
        have C18 := hide (HM.out.1.dn.busy (q : Int))
        by_cases hb : busyD d (q : Int) = true
        · have C14 := hide (HM.out.1.step (HM.out.2.oi.sm.mono (by omega)) (q : Int))
          have HS := hide (HM.out.2.step q (.inl hkm) hb (by omega))
          rw [hb] at C18
          generalize stepD d (q : Int) = r at *
          obtain ⟨ra, rv, d2⟩ := r
          dsimp only at C14 HS
          clear HM hb
          by_cases ha : ra = 2
          · subst ha
            obtain ⟨v1, v2, v3, v4⟩ := HS.out.1 rfl
            obtain ⟨vn, rfl⟩ : ∃ vn : Nat, rv = vn := ⟨rv.toNat, by omega⟩
            have hv1 : ¬ (vn : Int) < 1 := by omega
            have hv2 : ¬ (n : Int) < (vn : Int) := by omega
            have hvm : vn < n + 1 := by omega
            have HT := hide (fun W (hB : GM w W cb tb (n + 1) d2 X) => hB.took v3 hvm)
            have HG := hide v4
            clear HS v1 v2 v3 v4
            go_wp2_with (first
                | (go_at_call 18; go_must ((with_reducible refine C18.out.mono ?_); rintro e w5 ⟨rfl, rfl⟩))
                | (go_at_call 14; go_must ((with_reducible refine C14.out.mono ?_); rintro e w6 ⟨rfl, hB⟩; obtain ⟨t0, t1, hO6⟩ := HT.out _ hB; have HO6 := hide hO6; clear hB hO6)))
            go_roundw
            case rel => exact ⟨k + 1, d2, (vn : Int) :: X, pu, rfl, by go_num, hide ⟨HO6.out, HG.out⟩⟩
            case measure => simp [intOf]; omega
          · have ha' : (ra == 2) = false := by simpa using ha
            have HG := hide (HS.out.2 ha)
            clear HS ha
            go_wp2_with (first
                | (go_at_call 18; go_must ((with_reducible refine C18.out.mono ?_); rintro e w5 ⟨rfl, rfl⟩))
                | (go_at_call 14; go_must ((with_reducible refine C14.out.mono ?_); rintro e w6 ⟨rfl, hB⟩; have HO6 := hide hB; clear hB)))
            go_roundw
            case rel => exact ⟨k + 1, d2, X, pu, rfl, by go_num, hide ⟨HO6.out, HG.out⟩⟩
            case measure => simp [intOf]; omega
        · have hb' : busyD d (q : Int) = false := by simpa using hb
          rw [hb'] at C18
          by_cases hq0 : q = 0
          · subst hq0
            have e9 : ((0 : Nat) : Int) = 0 := rfl
            rw [e9] at C18 hbt
            clear e9 hq4
            have HG := hide (HM.out.2.skip hkm)
            have HO6 := hide HM.out.1
            clear HM hb hb'
            go_wp2_with (go_at_call 18; go_must ((with_reducible refine C18.out.mono ?_); rintro e w5 ⟨rfl, rfl⟩))
            go_roundw
            case rel => exact ⟨k + 1, d, X, pu, by go_num, by go_num, hide ⟨HO6.out, HG.out⟩⟩
            case measure => simp [intOf]; omega
          · skip
            have hq0' : 0 < (q : Int) := by omega
            have C13 := hide (HM.out.1.begin (q : Int) 3 0)
            have HG := hide (HM.out.2.steal hkm q hq0)
            generalize (beginD d (q : Int) 3 0).2 = d2 at *
            clear HM hb hb'
            go_wp2_with (first
              | (go_at_call 18; go_must ((with_reducible refine C18.out.mono ?_); rintro e w5 ⟨rfl, rfl⟩))
              | (go_at_call 13; go_must ((with_reducible refine C13.out.mono ?_); rintro e w6 ⟨⟨x6, rfl⟩, hB⟩; have HO6 := hide hB; clear hB)))
            go_roundw
            case rel => exact ⟨k + 1, d2, X, pu, by go_num, by go_num, hide ⟨HO6.out, HG.out⟩⟩
            case measure => simp [intOf]; omega
      · have hkm' : ¬ (k : Int) < (m : Int) := by omega
        obtain rfl : pu = n := by omega
        have HP0 := hide (show Pr 4 0 0 d from Pr.early (Nat.zero_le _) HM.out.2.oi.sm)
        have HOI := hide HM.out.2.oi
        have HGM := hide HM.out.1
        clear HM
        go_wp2
        go_loopw [14] (fun i wr => ∃ (q : Nat) (d : Dq) (X : List Int), q ≤ 40 ∧ i = .int .i64 (q : Nat) ∧ Hid (GM w wr cb tb (pu + 1) d X ∧ OI (k + q) d X (pu + 1) ∧ Pr 4 0 q d)) (fun i _ => 40 - (intOf i).toNat)
        case atStart => exact ⟨0, d, X, by omega, rfl, hide ⟨HGM.out, HOI.out, HP0.out⟩⟩
        case round =>
          obtain ⟨q, d, X, hq, rfl, HM⟩ := hrel
          by_cases hq4 : q < 40
          · have hq4' : (q : Int) < 40 := by omega
            obtain ⟨u, hu⟩ : ∃ u : Nat, u = q % 4 := ⟨_, rfl⟩
            have hbt : bits .and .i64 (q : Int) 3 = (u : Int) := by
              have : bits .and .i64 (q : Int) 3 = (q : Int) % 4 := i64_mask 2 (by omega) q
              rw [this]; omega
            have HPR := hide (HM.out.2.2.step (by omega) (by omega) hu)
            have C14 := hide (HM.out.1.step (HM.out.2.1.sm.mono (by omega)) (u : Int))
            have HS0 := HM.out.2.1.step (u : Int) (by omega)
            have HS := hide (show ((stepD d (u : Int)).1 = 2 → 1 ≤ (stepD d (u : Int)).2.1 ∧ (stepD d (u : Int)).2.1 ≤ (pu : Int) ∧ X.count (stepD d (u : Int)).2.1 = 0 ∧ OI (k + (q + 1)) (stepD d (u : Int)).2.2 ((stepD d (u : Int)).2.1 :: X) (pu + 1)) ∧ ((stepD d (u : Int)).1 ≠ 2 → OI (k + (q + 1)) (stepD d (u : Int)).2.2 X (pu + 1)) from ⟨fun h => by obtain ⟨a1, a2, a3, a4⟩ := HS0.1 h; exact ⟨a1, by omega, a3, a4⟩, fun h => HS0.2 h⟩)
            clear HS0 HM hu
            generalize stepD d (u : Int) = r at *
            obtain ⟨ra, rv, d2⟩ := r
            dsimp only at C14 HS HPR
            by_cases ha : ra = 2
            · subst ha
              obtain ⟨v1, v2, v3, v4⟩ := HS.out.1 rfl
              obtain ⟨vn, rfl⟩ : ∃ vn : Nat, rv = vn := ⟨rv.toNat, by omega⟩
              have hv1 : ¬ (vn : Int) < 1 := by omega
              have hv2 : ¬ (pu : Int) < (vn : Int) := by omega
              have hvm : vn < pu + 1 := by omega
              have HT := hide (fun W (hB : GM w W cb tb (pu + 1) d2 X) => hB.took v3 hvm)
              have HG := hide v4
              clear HS v1 v2 v3 v4
              go_wp2_with ((go_at_call 14; go_must ((with_reducible refine C14.out.mono ?_); rintro e w6 ⟨rfl, hB⟩; obtain ⟨t0, t1, hO6⟩ := HT.out _ hB; have HO6 := hide hO6; clear hB hO6)))
              go_roundw
              case rel => exact ⟨q + 1, d2, (vn : Int) :: X, by omega, by go_num, hide ⟨HO6.out, HG.out, HPR.out⟩⟩
              case measure => simp [intOf]; omega
            · have ha' : (ra == 2) = false := by simpa using ha
              have HG := hide (HS.out.2 ha)
              clear HS ha
              go_wp2_with ((go_at_call 14; go_must ((with_reducible refine C14.out.mono ?_); rintro e w6 ⟨rfl, hB⟩; have HO6 := hide hB; clear hB)))
              go_roundw
              case rel => exact ⟨q + 1, d2, X, by omega, by go_num, hide ⟨HO6.out, HG.out, HPR.out⟩⟩
              case measure => simp [intOf]; omega
          · obtain rfl : q = 40 := by omega
            have HAC := hide (HM.out.2.1.last (m := 4) (len := 0) (n := 40) HM.out.2.2 (by omega) (by omega))
            have C21 := hide (HM.out.1.dn.items (HM.out.2.1.sm.mono (by omega)))
            have HST := hide (fun (w' : World) (a : Option Addr) (m c : Nat) ho hb => LM.start (w' := w') (a := a) (m := m) (c := c) HM.out.1 ho hb)
            generalize hH : itemsD d = H at *
            obtain ⟨h9, hm9⟩ : ∃ h9, h9 = H.length := ⟨_, rfl⟩
            have hle : h9 ≤ 1000 := by have := HAC.out.2; omega
            have HMM := hide hm9
            rw [← hm9] at C21
            clear HM hH hm9
            go_wp2_with (go_at_call 21; go_must ((with_reducible refine C21.out.mono ?_); rintro e w4 ⟨a4, m4, c4, rfl, hm4, ho4, hb4⟩; subst hm4; have HLM := hide (HST.out _ _ _ _ ho4 hb4); clear ho4 hb4))
            clear C21 HST
            go_loopw [18] (fun i wr => ∃ j : Nat, j ≤ m4 ∧ i = .int .i64 (j : Nat) ∧ Hid (LM w wr tb (pu + 1) (.slice a4 m4 c4) m4 H X j)) (fun i _ => m4 - (intOf i).toNat)
            case atStart => exact ⟨0, Nat.zero_le _, rfl, HLM⟩
            case round =>
              obtain ⟨j, hj, rfl, HLj⟩ := hrel
              by_cases hjm : j < m4
              · obtain ⟨g, v, rfl, hv1, hv2, hmc, hc1, hc2, hf2, hN⟩ := HLj.out.next HAC.out hjm (Nat.le_refl _)
                have HN := hide hN
                have hv1' : ¬ (v : Int) < 1 := by omega
                have hv2' : ¬ (pu : Int) < (v : Int) := by omega
                have hvm : v < pu + 1 := by omega
                clear hN hv1 hv2 HLj
                go_wp2
                go_roundw
                case rel => exact ⟨j + 1, by omega, by go_num, HN⟩
                case measure => simp [intOf]; omega
              · obtain rfl : j = m4 := by omega
                go_wp2
                go_loopw [19] (fun i wr => ∃ y : Nat, 1 ≤ y ∧ y ≤ pu + 1 ∧ i = .int .i64 (y : Nat) ∧ Hid (LM w wr tb (pu + 1) (.slice a4 j c4) j H X j)) (fun i _ => pu + 1 - (intOf i).toNat)
                case atStart => exact ⟨1, by omega, by omega, rfl, HLj⟩
                case round =>
                  obtain ⟨y, hy1, hy2, rfl, HLy⟩ := hrel
                  by_cases hyp : y < pu + 1
                  · have hyp' : (y : Int) ≤ (pu : Int) := by omega
                    have hcy := HLy.out.one HMM.out HAC.out (Nat.le_refl _) hy1 hyp
                    go_wp2
                    go_roundw
                    case rel => exact ⟨y + 1, by omega, by omega, by go_num, HLy⟩
                    case measure => simp [intOf]; omega
                  · have hyp' : ¬ (y : Int) ≤ (pu : Int) := by omega
                    go_wp2
                    go_ret
                    exact ⟨rfl, HLy.out.bel⟩

theorem walk (t : Int) (a : Option Addr) (n c : Nat) (l : List Int) (w : World) (_h1 : -9223372036854775808 ≤ t ∧ t ≤ 9223372036854775807) (hl : l.length = n) (_hB : In64 l) (hm : n ≤ maxLen) (hr : Reads w a (iV l)) : Calls Try.prog 7 #[.int .i64 t, .slice a n c] w fun e w' => e = .returned (.bool true) ∧ Below w.heap.size w w' := by
  by_cases h : t < 0 ∨ 200 < t ∨ 300 < n
  · exact walk_skip t a n c w hm h
  · obtain ⟨b, rfl⟩ : ∃ b : Nat, t = b := ⟨t.toNat, by omega⟩
    exact walk_main b a n c l w (by omega) (by omega) hl hr
end dequeGrows
end Go.Proofs.Ytaooglcjcnkgnaa
