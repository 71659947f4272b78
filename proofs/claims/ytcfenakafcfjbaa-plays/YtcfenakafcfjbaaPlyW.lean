/- BeatPlays answers true. -/
import Derived.Test.YtcfenakafcfjbaaPlyC
import Derived.Deep.CutRange
import Derived.Deep.CutBlock
namespace Go.Proofs.Ytcfenakafcfjbaa
open Go.RowKit Go.ChangeShapes Go.WideShapes Go.ChangeAt Go.Deep Go.Maps Go.Sort
namespace beatPlays

theorem acts_at {w : World} {d : Option Addr} {l : List Ac} {k : Nat} (h : ActsM w d l) (hk : k < l.length) : ∃ b off y, d = some ⟨b, off, none⟩ ∧ okAc w y ∧ w.cell? ⟨b, off + k * 5, none⟩ = some (.int .i64 y.wy) ∧ w.cell? ⟨b, off + k * 5 + 1, none⟩ = some (.int .i64 y.x) ∧ w.cell? ⟨b, off + k * 5 + 2, none⟩ = some (.int .i64 y.lf) ∧ w.cell? ⟨b, off + k * 5 + 3, none⟩ = some (.int .i64 y.now) ∧ w.cell? ⟨b, off + k * 5 + 4, none⟩ = some (.slice y.a y.n y.c) := by
  rcases h with h | ⟨b, off, e, h⟩
  · subst h; simp at hk
  · obtain ⟨h1, h2⟩ := h k l[k] (by simp [hk])
    exact ⟨b, off, _, e, h1, h2⟩
theorem same_eqI {L : List Int} {a b : Option Addr} {n c e : Nat} {w : World} (hn : L.length = n) (hl : n ≤ 900) (ha : Reads w a (iV L)) (hb : Reads w b (iV L)) : Calls Try.prog 18 #[.slice a n c, .slice b n e] w fun e w' => e = .returned (.bool true) ∧ Below w.heap.size w w' := by
  refine (sameInts_any L L a b n c n e w hn hn (by omega) ha hb).mono ?_
  rintro e w' ⟨rfl, hb⟩
  exact ⟨by simp, hb⟩
theorem FR.isAt {w W : World} {E1 E2 : Cl} {ab n c : Nat} {a : Option Addr} {L : List Int} (h : FR w W E1 E2 ab a n c L) (h0 : 0 < n) : ∃ g, a = some ⟨g, 0, none⟩ := by
  rcases h.1.2 with ⟨e, h1⟩ | ⟨g, cap, cur, e, h1, h2, _⟩
  · omega
  · simp only [Value.slice.injEq] at e
    exact ⟨g, e.1⟩
theorem FR.put {w W : World} {cb rb N ab n c g j : Nat} {wt : Int} {E1 E2 : Cl} {F G : Int → Option Int} {S : List Wd} {xs : List Value} {L : List Int} (h : FR w W E1 E2 ab (some ⟨g, 0, none⟩) n c L) (hx : PA w W cb rb wt N ab xs E1 E2 F G S) (hj : j < n) :
    ∃ u, W.cell? ⟨g, j, none⟩ = some u ∧ W.frozen? ⟨g, j, none⟩ = false ∧ ∃ L', PA w (W.setCell ⟨g, j, none⟩ (.int .i64 (-1))) cb rb wt N ab xs E1 E2 F G S ∧ FR w (W.setCell ⟨g, j, none⟩ (.int .i64 (-1))) E1 E2 ab (some ⟨g, 0, none⟩) n c L' := by
  obtain ⟨h1, h2, h3⟩ := h
  have hl : j < L.length := by omega
  have h4 := h1.cells (g := g) rfl j (.int .i64 L[j]) (by simp [iV, hl])
  rw [add_none, Nat.zero_add] at h4
  obtain ⟨o1, o2⟩ := h1.stored j (.int .i64 (-1))
  have hb := h3 g rfl
  refine ⟨_, h4, h1.frozenAt j, L.set j (-1), ⟨hx.toPM.wipe o2 (fun b e => by cases e; exact ⟨hb.1, hb.2.1, hb.2.2.1⟩), hx.bx.keep o2.size (o2.block ab hx.bx.1 (fun e => by cases e; exact hb.2.2.2 rfl)), hx.b1, hx.b2, hx.b3⟩, ?_, by rw [List.length_set]; exact h2, h3⟩
  have e : iV (L.set j (-1)) = (iV L).set j (.int .i64 (-1)) := by simp [iV, List.map_set]
  rw [e]; exact o1

set_option maxRecDepth 100000 in
set_option maxHeartbeats 16000000 in
theorem walk_main (wt : Int) (hwt : I64 wt) (na : Option Addr) (nn nc : Nat) (nl : List Int) (hnl : nl.length = nn) (hni : In64 nl) (a : Option Addr) (n c : Nat) (l : List Ac) (w : World) (hnr : Reads w na (iV nl)) (hl : l.length = n) (hA : ActsM w a l) (hn : n ≤ 200) (hm : nn ≤ 100) :
    Calls Try.prog 3 #[.int .i64 wt, .slice na nn nc, .slice a n c] w fun e w' => e = .returned (.bool true) ∧ Below w.heap.size w w' := by
  have HL := hide hl
  have HA := hide hA
  have HNL := hide hnl
  have HNI := hide hni
  have HNR := hide hnr
  have HWT := hide hwt
  have hn' : ¬ 200 < (n : Int) := by omega
  have hm' : ¬ 100 < (nn : Int) := by omega
  clear hl hA hnl hni hnr hwt
  go_enter Try.func3, Try.ntmps3
  go_wp2_with (first
    | (go_at_call 6; go_must ((with_reducible refine (alive_any w).mono ?_); rintro e w1 ⟨rfl, hb1⟩; have HB1 := hide hb1; have C7 := hide (new_one w1 wt HWT.out nl na nn nc HNL.out (by omega) HNI.out (HNR.out.below hb1)); unfold NewP at C7; clear hb1))
    | (go_at_call 7; go_must ((with_reducible refine C7.out.mono ?_); rintro e w2 ⟨cb, E1, rfl, hT, hB, hE⟩; have HT := hide hT; have HB := hide hB; have HE := hide hE; have C8 := hide (rnew_any w2 wt HWT.out nl na nn nc HNL.out (by omega) ((HNR.out.below HB1.out).below hB)); unfold RNewP at C8; clear hT hB hE))
    | (go_at_call 8; go_must ((with_reducible refine C8.out.mono ?_); rintro e w3 ⟨rb, E2, rfl, hT2, hB2, hE2⟩; have HQ0 := hide (PQ.start HB1.out HT.out HB.out HE.out hT2 hB2 hE2 hm HNL.out HNI.out); clear hT2 hB2 hE2)))
  clear C7 C8 HT HB HE HB1 HNR
  go_loopw [10] (fun i wr => ∃ k : Nat, k ≤ n ∧ i = .int .i64 (k : Nat) ∧ Hid (PQ w wr cb rb wt k)) (fun i _ => n - (intOf i).toNat)
  case atStart => exact ⟨0, by omega, rfl, HQ0⟩
  case round =>
    obtain ⟨k, hk, rfl, HQ⟩ := hrel
    by_cases hlt : k < n
    · obtain ⟨N, E1, E2, F, G, S, hM, hR, hN, hS⟩ := HQ.out.ex
      obtain ⟨b, off, y, rfl, hok, ha0, ha1, ha2, ha3, ha4⟩ := acts_at HA.out (show k < l.length by have := HL.out; omega)
      obtain ⟨wy, x, lf, now, a3, n3, c3, L⟩ := y
      obtain ⟨hi1, hi2, hi3, hL1, hL2, hL3⟩ := hok
      dsimp only at ha0 ha1 ha2 ha3 ha4 hi1 hi2 hi3 hL1 hL2 hL3
      have hc0 := keep_cell ha0 hM.bel
      have hc1 := keep_cell ha1 hM.bel
      have hc2 := keep_cell ha2 hM.bel
      have hc3 := keep_cell ha3 hM.bel
      have hc4 := keep_cell ha4 hM.bel
      have hltI : (k : Int) < (n : Int) := by omega
      clear ha0 ha1 ha2 ha3 ha4 HQ
      go_upto_region 10 with fail
      generalize hV : wr.alloc (.cells #[.int .i64 wy, .int .i64 x, .int .i64 lf, .int .i64 now, .slice a3 n3 c3] 30) = V at *
      have HX := hide (hM.box (xs := [.int .i64 wy, .int .i64 x, .int .i64 lf, .int .i64 now, .slice a3 n3 c3]) hV)
      have hR := hide hR
      have HI1 := hide hi1
      have HI2 := hide hi2
      have HI3 := hide hi3
      have HL1 := hide hL1
      have HIL := hide hL2
      have HL3 := hide hL3
      generalize hab : wr.heap.size = ab at *
      clear hab hV hc0 hc1 hc2 hc3 hc4 hM hi1 hi2 hi3 hL1 hL2 hL3
      have z0 := (HX.out.bx.at (o := 0) rfl).1
      have z1 := (HX.out.bx.at (o := 1) rfl).1
      have z2 := (HX.out.bx.at (o := 2) rfl).1
      have z3 := (HX.out.bx.at (o := 3) rfl).1
      have z4 := (HX.out.bx.at (o := 4) rfl).1
      by_cases h50 : 50 < n3
      · have h50' : (50 : Int) < (n3 : Int) := by omega
        go_wp2
        go_ret
        exact ⟨rfl, HX.out.bel⟩
      · have h50' : ¬ (50 : Int) < (n3 : Int) := by omega
        go_upto_block 2 with fail
        go_cut [12] from 54 to 100 (fun v wc => v = .bool true ∧ Hid (PX w wc cb rb wt ab [.int .i64 wy, .int .i64 x, .int .i64 lf, .int .i64 now, .slice a3 n3 c3] (k + 1)))
        case first =>
          have hways : wy = 0 ∨ wy = 1 ∨ ((wy == 0) = false ∧ (wy == 1) = false) := by
            simp only [beq_eq_false_iff_ne]; omega
          rcases hways with hw | hw | ⟨e0, e1⟩
          · subst hw
            obtain ⟨q, F', G', S', hPR, hSl, hB1, hB2⟩ := heard_two (N := N) hR.out (by omega) (by omega) cb rb wt x lf now HI1.out HI3.out
            have HPR := hide hPR
            have C1 := hide (hB1 E1 _ HX.out.drew.be)
            have C2 := hide (fun E W (h : RbM E W rb (max 1 wt) S) => hB2 E W h)
            unfold BeQ at C1
            unfold RbQ at C2
            clear hB1 hB2 hPR
            have hqq : (q == q) = true := by simp
            go_upto_region 16 with fail
            go_region_held3 (fun W => W.cell? ⟨ab, 1, none⟩ = some (.int .i64 x) ∧ W.cell? ⟨ab, 2, none⟩ = some (.int .i64 lf) ∧ W.cell? ⟨ab, 3, none⟩ = some (.int .i64 now)) (first | exact ⟨z1, z2, z3⟩ | exact ⟨y1, y2, y3⟩ | exact ⟨x1, x2, x3⟩ | go_keep) (first
              | (go_at_call 9; (with_reducible refine C1.out.mono ?_); rintro e w5 ⟨rfl, E5, hT5, hS5⟩; have HX5 := hide (HX.out.drew.stepB hT5 hS5); have y1 := (HX5.out.bx.at (o := 1) rfl).1; have y2 := (HX5.out.bx.at (o := 2) rfl).1; have y3 := (HX5.out.bx.at (o := 3) rfl).1; have C2b := hide (C2.out _ _ HX5.out.rf); clear hT5 hS5)
              | (go_at_call 10; (with_reducible refine C2b.out.mono ?_); rintro e w7 ⟨rfl, E7, hU7, hS7⟩; have HX7 := hide (HX5.out.stepR hU7 hS7); have x1 := (HX7.out.bx.at (o := 1) rfl).1; have x2 := (HX7.out.bx.at (o := 2) rfl).1; have x3 := (HX7.out.bx.at (o := 3) rfl).1; clear hU7 hS7))
            go_wp2
            go_meet
            exact ⟨rfl, hide ⟨_, _, _, _, _, _, HX7.out, HPR.out, by omega, by omega⟩⟩
          · subst hw
            obtain ⟨F', G', S', hPR, hSl, hB1, hB2⟩ := out_two (N := N) (w := w) hR.out (by omega) cb rb wt L a3 n3 c3 HL1.out (by omega) HIL.out HL3.out
            have HPR := hide hPR
            have C1 := hide (hB1 E1 _ HX.out.be HX.out.bel HX.out.n1)
            have C2 := hide (fun E W (h : RbM E W rb (max 1 wt) S) hb hE => hB2 E W h hb hE)
            unfold BeQ at C1
            unfold RbQ at C2
            clear hB1 hB2 hPR
            go_wp2_with (first
              | (go_at_call 11; go_must ((with_reducible refine C1.out.mono ?_); rintro e w5 ⟨rfl, E5, hT5, hS5⟩; have HX5 := hide (HX.out.stepB hT5 hS5); have y4 := (HX5.out.bx.at (o := 4) rfl).1; have C2b := hide (C2.out _ _ HX5.out.rf HX5.out.bel HX5.out.n2); clear hT5 hS5))
              | (go_at_call 12; go_must ((with_reducible refine C2b.out.mono ?_); rintro e w7 ⟨rfl, E7, hU7, hS7⟩; have HX7 := hide (HX5.out.stepR hU7 hS7); clear hU7 hS7)))
            go_meet
            exact ⟨rfl, hide ⟨_, _, _, _, _, _, HX7.out, HPR.out, by omega, by omega⟩⟩
          · skip
            obtain ⟨q, F', G', S', hPR, hSl, hB1, hB2⟩ := in_two (N := N) hR.out (by omega) (by omega) cb rb wt x lf now HI1.out HI2.out HI3.out
            have HPR := hide hPR
            have C1 := hide (hB1 E1 _ HX.out.drew.be)
            have C2 := hide (fun E W (h : RbM E W rb (max 1 wt) S) => hB2 E W h)
            unfold BeQ at C1
            unfold RbQ at C2
            clear hB1 hB2 hPR
            have hqq : (q == q) = true := by simp
            go_upto_region 14 with fail
            go_region_held3 (fun W => W.cell? ⟨ab, 1, none⟩ = some (.int .i64 x) ∧ W.cell? ⟨ab, 2, none⟩ = some (.int .i64 lf) ∧ W.cell? ⟨ab, 3, none⟩ = some (.int .i64 now)) (first | exact ⟨z1, z2, z3⟩ | exact ⟨y1, y2, y3⟩ | exact ⟨x1, x2, x3⟩ | go_keep) (first
              | (go_at_call 13; (with_reducible refine C1.out.mono ?_); rintro e w5 ⟨rfl, E5, hT5, hS5⟩; have HX5 := hide (HX.out.drew.stepB hT5 hS5); have y1 := (HX5.out.bx.at (o := 1) rfl).1; have y2 := (HX5.out.bx.at (o := 2) rfl).1; have y3 := (HX5.out.bx.at (o := 3) rfl).1; have C2b := hide (C2.out _ _ HX5.out.rf); clear hT5 hS5)
              | (go_at_call 14; (with_reducible refine C2b.out.mono ?_); rintro e w7 ⟨rfl, E7, hU7, hS7⟩; have HX7 := hide (HX5.out.stepR hU7 hS7); have x1 := (HX7.out.bx.at (o := 1) rfl).1; have x2 := (HX7.out.bx.at (o := 2) rfl).1; have x3 := (HX7.out.bx.at (o := 3) rfl).1; clear hU7 hS7))
            go_wp2
            go_meet
            exact ⟨rfl, hide ⟨_, _, _, _, _, _, HX7.out, HPR.out, by omega, by omega⟩⟩
        case rest =>
          obtain ⟨rfl, HP⟩ := hcut
          clear HX hR z0 z1 z2 z3 z4 hN hS
          obtain ⟨N5, E5, E6, F5, G5, S5, hX5, hR5, hN5, hS5⟩ := HP.out
          clear HP
          have HX5 := hide hX5
          have HR5 := hide hR5
          obtain ⟨v, q, hl1, hl2⟩ := life_two hR5 (by omega) (N := N5) cb rb wt x HI1.out
          obtain ⟨R, hRl, ht1, ht2⟩ := late_two hR5 (by omega) (by omega) (N := N5) cb rb wt now
          obtain ⟨nr, hnr⟩ : ∃ nr, nr = R.length := ⟨_, rfl⟩
          have hnr9 : nr ≤ 900 := by omega
          have HNR := hide hnr
          have C15 := hide (ht1 E5 _ hX5.be)
          have C16 := hide (fun E W h => hl1 E W h)
          have C17 := hide (fun E W h => hl2 E W h)
          have C19 := hide (fun E W h => ht2 E W h)
          unfold RowP at C15 C19
          rw [← hnr] at C15 C19
          have hvv : ((v : Int) != v) = false := by simp
          have hqq : (q != q) = false := by simp
          clear hl1 hl2 ht1 ht2 hX5 hR5 hRl hnr
          have z1 := (HX5.out.bx.at (o := 1) rfl).1
          have z3 := (HX5.out.bx.at (o := 3) rfl).1
          go_wp2_with (first
            | (go_at_call 15; go_must ((with_reducible refine C15.out.mono ?_); rintro e w6 ⟨a6, c6, rfl, ho6, hr6, hb6⟩; have HF6 := hide (HX5.out.fr ho6 HNR.out.symm); have HX6 := hide (HX5.out.below hb6); have HR6 := hide hr6; have y1 := (HX6.out.bx.at (o := 1) rfl).1; have y3 := (HX6.out.bx.at (o := 3) rfl).1; have C16b := hide (C16.out _ _ HX6.out.be); have C17b := hide (C17.out _ _ HX6.out.rf); have C19b := hide (C19.out _ _ HX6.out.rf); clear ho6 hr6 hb6))
            | (go_at_call 16; go_must ((with_reducible refine C16b.out.mono ?_); rintro e w7 ⟨rfl, rfl⟩))
            | (go_at_call 17; go_must ((with_reducible refine C17b.out.mono ?_); rintro e w8 ⟨rfl, rfl⟩))
            | (go_at_call 19; go_must ((with_reducible refine C19b.out.mono ?_); rintro e w9 ⟨a9, c9, rfl, ho9, hr9, hb9⟩; have HF9 := hide (HF6.out.below hb9); have HX9 := hide (HX6.out.below hb9); have CS := hide (same_eqI (c := c6) (e := c9) HNR.out.symm hnr9 (HR6.out.below hb9) hr9); clear ho9 hr9 hb9))
            | (go_at_call 18; go_must ((with_reducible refine CS.out.mono ?_); rintro e wa ⟨rfl, hba⟩; have HFa := hide (HF9.out.below hba); have HXa := hide (HX9.out.below hba); clear hba)))
          go_loopw [18] (fun i wb => ∃ j : Nat, j ≤ nr ∧ i = .int .i64 (j : Nat) ∧ Hid (∃ L', PA w wb cb rb wt N5 ab [.int .i64 wy, .int .i64 x, .int .i64 lf, .int .i64 now, .slice a3 n3 c3] E5 E6 F5 G5 S5 ∧ FR w wb E5 E6 ab a6 nr c6 L')) (fun i _ => nr - (intOf i).toNat)
          case atStart => exact ⟨0, Nat.zero_le _, rfl, hide ⟨_, HXa.out, HFa.out⟩⟩
          case round =>
            obtain ⟨j, hj, rfl, HJ⟩ := hrel
            obtain ⟨L', hXj, hFj⟩ := HJ.out
            by_cases hjl : j < nr
            · have hjI : (j : Int) < (nr : Int) := by omega
              obtain ⟨g, rfl⟩ := hFj.isAt (by omega)
              obtain ⟨u, p1, p2, p3⟩ := hFj.put hXj hjl
              have HNX := hide p3
              clear p3 hXj hFj HJ
              go_wp2_with fail
              go_roundw
              case rel => exact ⟨j + 1, by omega, by go_num, HNX⟩
              case measure => simp [intOf]; omega
            · obtain rfl : j = nr := by omega
              have hjI : ¬ (j : Int) < (j : Int) := by omega
              have HXj := hide hXj.toPM
              clear hXj hFj HJ
              go_wp2
              go_roundw
              case rel => exact ⟨k + 1, by omega, by go_num, hide ⟨⟨_, _, _, _, _, _, HXj.out, HR5.out, by omega, by omega⟩⟩⟩
              case measure => simp [intOf]; omega

    · obtain rfl : k = n := by omega
      have hltI : ¬ (k : Int) < (k : Int) := by omega
      obtain ⟨N, E1, E2, F, G, S, hM, hR, hN, hS⟩ := HQ.out.ex
      have HB := hide hM.bel
      clear hM hR
      go_wp2
      go_ret
      exact ⟨rfl, HB.out⟩

set_option maxRecDepth 100000 in
theorem walk_skip (wt : Int) (na : Option Addr) (nn nc : Nat) (a : Option Addr) (n c : Nat) (w : World) (hn : 200 < n ∨ 100 < nn) : Calls Try.prog 3 #[.int .i64 wt, .slice na nn nc, .slice a n c] w fun e w' => e = .returned (.bool true) ∧ Below w.heap.size w w' := by
  by_cases hn1 : 200 < n
  · have hn' : (200 : Int) < (n : Int) := by omega
    go_enter Try.func3, Try.ntmps3
    go_wp2_with (go_at_call 6; go_must ((with_reducible refine (alive_any w).mono ?_); rintro e w1 ⟨rfl, hb1⟩; have HB1 := hide hb1; clear hb1))
    go_ret
    exact ⟨rfl, HB1.out⟩
  · have hn' : ¬ (200 : Int) < (n : Int) := by omega
    have hm' : (100 : Int) < (nn : Int) := by omega
    go_enter Try.func3, Try.ntmps3
    go_wp2_with (go_at_call 6; go_must ((with_reducible refine (alive_any w).mono ?_); rintro e w1 ⟨rfl, hb1⟩; have HB1 := hide hb1; clear hb1))
    go_ret
    exact ⟨rfl, HB1.out⟩
theorem walk (wt : Int) (na : Option Addr) (nn nc : Nat) (nl : List Int) (a : Option Addr) (n c : Nat) (l : List Ac) (w : World) (hwt : I64 wt) (hnl : nl.length = nn) (hni : In64 nl) (hnr : Reads w na (iV nl)) (hl : l.length = n) (hA : ActsM w a l) :
    Calls Try.prog 3 #[.int .i64 wt, .slice na nn nc, .slice a n c] w fun e w' => e = .returned (.bool true) ∧ Below w.heap.size w w' := by
  by_cases h : 200 < n ∨ 100 < nn
  · exact walk_skip wt na nn nc a n c w h
  · exact walk_main wt hwt na nn nc nl hnl hni a n c l w hnr hl hA (by omega) (by omega)
end beatPlays
end Go.Proofs.Ytcfenakafcfjbaa
