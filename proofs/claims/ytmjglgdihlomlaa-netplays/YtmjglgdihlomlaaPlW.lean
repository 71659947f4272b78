/- NetPlays answers true. -/
import Derived.Test.YtmjglgdihlomlaaPlE
import Derived.Deep.CutBlock
import Derived.Deep.RegionHeld3
namespace Go.Proofs.Ytmjglgdihlomlaa
namespace netPlays
open Go.RowKit Go.ChangeShapes Go.WideShapes Go.ChangeAt Go.Deep

set_option linter.unusedSimpArgs false in
set_option maxRecDepth 100000 in
set_option maxHeartbeats 16000000 in
theorem walk_main (a : Option Addr) (n c : Nat) (ls : List Am) (w : World) (hn : n ≤ 200) (hR : RowA (OldB w) w a n ls) (hwf : ∀ y ∈ ls, wfA y) (hbg : ls.any bigA = false) :
    Calls Try.prog 3 #[.slice a n c] w fun e w' => e = .returned (.bool true) ∧ Below w.heap.size w w' := by
  have C8 := hide (show ∀ W, Below w.heap.size w W → Calls Try.prog 8 #[.slice a n c] W fun e w' => e = .returned (.bool false) ∧ w' = W from fun W hb => by
    have := big_any (OldB w) W a n c ls (hR.keep fun k hk _ => hb.block k hk) (by omega)
    rw [hbg, decide_eq_false (by omega)] at this
    exact this)
  have HR := hide hR
  have HWF := hide hwf
  have HBG := hide hbg
  clear hR hwf hbg
  go_enter Try.func3, Try.ntmps3
  go_upto_region 8 with (first
    | (go_at_call 7; go_must ((with_reducible refine (alive_any w).mono ?_); rintro e w1 ⟨rfl, hb1⟩; have HB1 := hide hb1; clear hb1))
    | (go_at_call 8; go_must ((with_reducible refine (C8.out _ HB1.out).mono ?_); rintro e w9 ⟨rfl, hw⟩; have hw' : w1 = w9 := hw.symm; subst hw'))
    | (go_at_call 9; (with_reducible refine (new_any w1).mono ?_); rintro e w2 ⟨nb, rfl, hN2, hg2, hb2⟩; have HN2 := hide hN2; have HB2 := hide (HB1.out.trans (hb2.mono HB1.out.size)); have HG2 := hide (Nat.le_trans HB1.out.size hg2); clear hN2 hg2 hb2)
    | (go_at_call 9; go_must ((with_reducible refine (new_any w2).mono ?_); rintro e w3 ⟨ob, rfl, hN3, hg3, hb3⟩; have HN0 := hide (n_zero HN2.out HB2.out HG2.out hN3 hb3 hg3 30); clear hN3 hg3 hb3)))
  have HS0 := hide (show S1 w (w3.alloc (.cells #[.slice none 0 0] 30)) nb ob w3.heap.size from ⟨[], ok0, HN0.out⟩)
  generalize w3.heap.size = rb at HS0 ⊢
  generalize w3.alloc (.cells #[.slice none 0 0] 30) = w4 at HS0 ⊢
  clear HN0 HN2 HB2 HG2 HB1 C8
  go_wp2_with fail
  go_loopw [8] (fun iv wr => ∃ i : Nat, i ≤ n ∧ iv = .int .i64 (i : Nat) ∧ Hid (S1 w wr nb ob rb)) (fun iv _ => n - (intOf iv).toNat)
  case atStart => exact ⟨0, Nat.zero_le _, rfl, HS0⟩
  case round =>
    obtain ⟨i, hi, rfl, HS⟩ := hrel
    obtain ⟨L, hok, hN⟩ := HS.out
    have hBel := hN.bel
    by_cases hlt : i < n
    · have hil : i < ls.length := by have := HR.out.1; omega
      obtain ⟨b, off, har, y0, y1, y2, y3, y4⟩ := HR.out.at hil
      subst har
      have hmem : ls[i] ∈ ls := List.getElem_mem _
      obtain ⟨x, hx⟩ : ∃ x, x = ls[i] := ⟨_, rfl⟩
      rw [← hx] at y0 y1 y2 y3 y4 hmem
      have z0 := keep_cell y0 hBel
      have z1 := keep_cell y1 hBel
      have z2 := keep_cell y2 hBel
      have z3 := keep_cell y3 hBel
      have z4 := keep_cell y4 hBel
      have HX := hide (HR.out.2.2.2 x hmem)
      have HXW := hide (HWF.out x hmem)
      have HXB := hide (List.any_eq_false.1 HBG.out x hmem)
      have HNN := hide hN
      have HOK := hide hok
      clear y0 y1 y2 y3 y4 hx hil hBel hN hok hmem HS0
      go_upto_region 12 with fail
      have HG5 := hide (n_box HNN.out (below_new wr (.cells #[.int .i64 x.wy, .int .i64 x.k, .int .i64 x.b, .slice x.a x.n x.c, .slice x.d x.m x.e] 33)) (BoxL.new wr [.int .i64 x.wy, .int .i64 x.k, .int .i64 x.b, .slice x.a x.n x.c, .slice x.d x.m x.e] 33))
      have HQ := hide (act_small HXB.out)
      generalize wr.alloc (.cells #[.int .i64 x.wy, .int .i64 x.k, .int .i64 x.b, .slice x.a x.n x.c, .slice x.d x.m x.e] 33) = w5 at HG5 ⊢
      generalize wr.heap.size = ab at HG5 ⊢
      have CO := hide (step_other HG5.out x.a x.n x.c x.l HX.out.1 HQ.out.1 HQ.out.2.2)
      obtain ⟨q0, q1, q2, q3, q4⟩ := HG5.out.cells
      clear z0 z1 z2 z3 z4 HNN
      go_upto_region 14 with (go_at_call 10; go_must ((with_reducible refine CO.out.mono ?_); rintro e w6 ⟨⟨v6, rfl⟩, hG6⟩; have HG6 := hide hG6; clear hG6))
      clear q0 q1 q2 q3 q4 CO HG5
      obtain ⟨q0, q1, q2, q3, q4⟩ := HG6.out.cells
      go_upto_block 2 with fail
      go_cut [10] from 44 to 247 (fun s10 wc => s10 = .bool true ∧ ∃ L', Hid (Ok L') ∧ Hid (G w wc nb ob rb ab [.int .i64 x.wy, .int .i64 x.k, .int .i64 x.b, .slice x.a x.n x.c, .slice x.d x.m x.e] L' L'))
      case rest =>
        as_aux_lemma =>
          obtain ⟨rfl, L', HOK7, HG7⟩ := hcut
          have CW := hide (step_way HG7.out HOK7.out)
          clear HG6 q0 q1 q2 q3 q4
          go_upto_region 43 with (go_at_call 22; go_must ((with_reducible refine CW.out.mono ?_); rintro e w8 ⟨a8, n8, c8, l8, rfl, hF, hl8, hX⟩; have HF8 := hide hF; have HL8 := hide hl8; have HX8 := hide hX; clear hF hl8 hX))
          obtain ⟨a2, n2, c2, hr2, hS⟩ := step_same HX8.out.g HOK7.out
          have CS := hide (hS _ a8 n8 c8 l8 HF8.out.1.1.weak HL8.out)
          clear hS CW
          go_upto_region 45 with (go_at_call 14; go_must ((with_reducible refine CS.out.mono ?_); rintro e w9 ⟨rfl, hb9⟩; have HX9 := hide (HX8.out.below (hb9.mono HX8.out.le)); have HF9 := hide (HF8.out.below hb9); clear hb9))
          clear hr2 CS HX8 HF8
          generalize wc.heap.size = B at HX9 HF9
          have HXQ := hide (xq_of HF9.out)
          have HLN := hide (HF9.out.1.1.1)
          have hn8 : n8 ≤ 10000 := by have h1 := HLN.out; have h2 := congrArg List.length HL8.out; have h3 := HOK7.out.len; rw [List.length_map] at h2; omega
          have HYN := hide (show ∀ y ∈ l8, y.n ≤ 1000000 from fun y hy => by have h1 := HOK7.out.sz y.p (by rw [← HL8.out]; exact List.mem_map_of_mem hy); have h2 := (HF9.out.1.1.2.2.2.2.2 y hy).1; omega)
          clear HF9
          go_wp2_with fail
          go_loopw [23] (fun kv wi => ∃ k : Nat, k ≤ n8 ∧ kv = .int .i64 (k : Nat) ∧ Hid (GX w wi nb ob rb ab [.int .i64 x.wy, .int .i64 x.k, .int .i64 x.b, .slice x.a x.n x.c, .slice x.d x.m x.e] L' B) ∧ Hid (XQ B wi a8 n8 c8 l8)) (fun kv _ => n8 - (intOf kv).toNat)
          case atStart => exact ⟨0, Nat.zero_le _, rfl, HX9, HXQ⟩
          case round =>
            obtain ⟨k, hk, rfl, HA, HXa⟩ := hrel
            clear HX9 HXQ
            by_cases hkn : k < n8
            · obtain ⟨b8, off8, har, hB8, hXs⟩ := HXa.out.resolve_left (by omega)
              subst har
              have hkl : k < l8.length := by have := HLN.out; omega
              obtain ⟨y, hy⟩ : ∃ y, y = l8[k] := ⟨_, rfl⟩
              have HY := hide (show ∀ W, Xs B W b8 off8 n8 c8 l8 → W.cell? ⟨b8, off8 + k * 3 + 2, none⟩ = some (.slice y.a y.n y.c) ∧ Xb B b8 W y from fun W h => h.at hkl y hy)
              have hyn : y.n ≤ 1000000 := HYN.out y (by rw [hy]; exact List.getElem_mem _)
              have HXs := hide hXs
              have HB8 := hide hB8
              clear hXs HXa hy hkl hB8
              go_wp2_with fail
              go_loopw [24] (fun jv wj => ∃ j : Nat, j ≤ y.n ∧ jv = .int .i64 (j : Nat) ∧ Hid (GX w wj nb ob rb ab [.int .i64 x.wy, .int .i64 x.k, .int .i64 x.b, .slice x.a x.n x.c, .slice x.d x.m x.e] L' B) ∧ Hid (Xs B wj b8 off8 n8 c8 l8)) (fun jv _ => y.n - (intOf jv).toNat)
              case atStart => exact ⟨0, Nat.zero_le _, rfl, HA, HXs⟩
              case round =>
                obtain ⟨j, hj, rfl, HAj, HXj⟩ := hrel
                obtain ⟨hc, hb⟩ := HY.out _ HXj.out
                have HHb := hide hb
                clear hb
                by_cases hjn : j < y.n
                · obtain ⟨g, ea, hg, hgb, hyc, hym, hcell⟩ := HHb.out.resolve_left (by omega)
                  obtain ⟨⟨v, hv, hcv⟩, hfz⟩ := hcell j hjn
                  rw [ea] at hc
                  have HG := hide hg
                  have HGB := hide hgb
                  clear hcell HHb ea hg hym hgb
                  go_upto_region 51 with fail
                  first | go_big_region | (trace "big fell"; go_region)
                  obtain ⟨z, hz, hz2⟩ := xor255 v hv
                  have HPX := hide (show Xs B (wr.setCell ⟨g, j, none⟩ (.int .u8 (z : Int))).drew b8 off8 n8 c8 l8 from HXj.out.put HGB.out z hz (by rw [hcv]; rfl))
                  have HPG := hide (HAj.out.below (below_put (w := wr) (j := j) (.int .u8 (z : Int)) HG.out).drew)
                  go_wp2
                  go_roundw
                  case rel => exact ⟨j + 1, by omega, by go_num, HPG, HPX⟩
                  case measure => simp [intOf]; omega
                · go_wp2
                  go_roundw
                  case rel => exact ⟨k + 1, by omega, by go_num, HAj, hide (.inr ⟨b8, off8, rfl, HB8.out, HXj.out⟩)⟩
                  case measure => simp [intOf]; omega
            · go_wp2
              go_roundw
              case rel => exact ⟨i + 1, by omega, by go_num, hide ⟨L', HOK7.out, HA.out.g.nn⟩⟩
              case measure => simp [intOf]; omega
      case first =>
        have HGd := hide (HG6.out.below ((Below.refl _ _).drew))
        by_cases e0 : x.wy = 0
        · as_aux_lemma =>
          have HGX0 := hide (gx_of HG6.out (Below.refl _ _))
          generalize hB : w6.heap.size = B at HGX0
          clear hB
          have HRN := hide (rowF_nil B w6)
          have hxn : x.n ≤ 20 := HQ.out.1
          have HLEN := hide HX.out.1.1
          clear HGd
          go_wp2_with fail
          clear e0
          go_loopw [11, 12] (fun ov kv wi => ∃ (k : Nat) (av : Option Addr) (cv : Nat) (lk : List Pm), k ≤ x.n ∧ ov = .slice av k cv ∧ kv = .int .i64 (k : Nat) ∧ Hid (GX w wi nb ob rb ab [.int .i64 x.wy, .int .i64 x.k, .int .i64 x.b, .slice x.a x.n x.c, .slice x.d x.m x.e] L B) ∧ Hid (RowF B wi av k cv lk) ∧ Hid (lk.map Pm.p = (x.l.map Pm.p).take k)) (fun _ kv _ => x.n - (intOf kv).toNat)
          case atStart => exact ⟨0, none, 0, [], Nat.zero_le _, rfl, rfl, HGX0, HRN, hide rfl⟩
          case round =>
            obtain ⟨k, av, cv, lk, hk, rfl, rfl, HGXk, HRk, HLk⟩ := hrel
            clear q0 q1 q2 q3 q4
            obtain ⟨q0, q1, q2, q3, q4⟩ := HGXk.out.g.cells
            have HLW := hide HGXk.out.lows
            have hbw := HGXk.out.g.bel
            by_cases hkn : k < x.n
            · have hrow := HX.out.1.keep (w' := wr) (fun i h1 _ => hbw.block i h1)
              have hkl : k < x.l.length := by have := HLEN.out; omega
              obtain ⟨b8, off8, har, y0, y1, y2⟩ := hrow.at hkl
              have hmem : x.l[k] ∈ x.l := List.getElem_mem _
              have HTS := hide (take_map_snoc hkl)
              obtain ⟨y, hy⟩ : ∃ y, y = x.l[k] := ⟨_, rfl⟩
              rw [← hy] at y0 y1 y2 hmem HTS
              have hyo := hrow.2.2.2.2.2 y hmem
              have HYL := hide hyo.1
              have HYB := hide hyo.2.1
              have HYN := hide hyo.2.2.2.1
              have HYR := hide hyo.2.2.2.2.1
              have hyn : y.n ≤ 200 := HQ.out.2.2 y hmem
              have HB8 := hide (show b8 < B from by
                have h1 : b8 < w.heap.size := HX.out.1.2.2.2.2.1 _ har (by omega)
                have := HLW.out.2.1
                omega)
              rw [har] at q3
              have hkc : (k : Int) < (x.n : Int) := by omega
              have hoc : x.n ≤ x.c ∧ x.c ≤ maxLen := HX.out.1.2.1
              obtain ⟨hoc1, hoc2⟩ := hoc
              clear hrow hkl hmem hy hyo har
              go_upto_region 21 with fail
              refine wp_region_noPanic ?_
              have hN : Below wr.heap.size wr wr.drew := (Below.refl _ _).drew
              refine wp_region_held_drew (S := fun W => W.cell? ⟨ab, 3, none⟩ = some (.slice (some ⟨b8, off8, none⟩) x.n x.c) ∧ W.cell? ⟨b8, off8 + k * 3, none⟩ = some (.int .i64 y.p.1) ∧ W.cell? ⟨b8, off8 + k * 3 + 1, none⟩ = some (.int .i64 y.p.2.1) ∧ W.cell? ⟨b8, off8 + k * 3 + 2, none⟩ = some (.slice y.a y.n y.c)) (by kernel_rfl) (⟨keep_cell q3 hN, keep_cell y0 hN, keep_cell y1 hN, keep_cell y2 hN⟩) (fun hHeld => ?_)
              refine takeD (i := 0) (d := some 72) (v := ?_) rfl rfl (by kernel_rfl) (by kernel_rfl) (by kernel_rfl) (fun _ _ _ h => h) (Or.inl ⟨by rfl, ?_⟩) (by assumption) ?_
              rotate_left
              · intro w hSw
                go_simp
                try (with_reducible rfl)
              try simp only [Act.put, List.setIfInBounds_toArray, List.set_cons_zero, List.set_cons_succ]
              refine takeD (i := 1) (d := some 73) (v := ?_) rfl rfl (by kernel_rfl) (by kernel_rfl) (by kernel_rfl) (fun _ _ _ h => h) (Or.inl ⟨by rfl, ?_⟩) (by assumption) ?_
              rotate_left
              · intro w hSw
                go_simp
                try (with_reducible rfl)
              try simp only [Act.put, List.setIfInBounds_toArray, List.set_cons_zero, List.set_cons_succ]
              refine takeD (i := 2) (d := some 74) (v := ?_) rfl rfl (by kernel_rfl) (by kernel_rfl) (by kernel_rfl) (fun _ _ _ h => h) (Or.inl ⟨by rfl, ?_⟩) (by assumption) ?_
              rotate_left
              · intro w hSw
                go_simp
                try (with_reducible rfl)
              try simp only [Act.put, List.setIfInBounds_toArray, List.set_cons_zero, List.set_cons_succ]
              refine takeD (i := 3) (d := some 75) (v := ?_) rfl rfl (by kernel_rfl) (by kernel_rfl) (by kernel_rfl) (fun _ _ _ h => h) (Or.inl ⟨by rfl, ?_⟩) (by assumption) ?_
              rotate_left
              · intro w hSw
                go_simp
                try (with_reducible rfl)
              try simp only [Act.put, List.setIfInBounds_toArray, List.set_cons_zero, List.set_cons_succ]
              refine takeD (i := 4) (d := some 76) (v := ?_) rfl rfl (by kernel_rfl) (by kernel_rfl) (by kernel_rfl) (fun _ _ _ h => h) (Or.inl ⟨by rfl, ?_⟩) (by assumption) ?_
              rotate_left
              · intro w hSw
                go_simp
                try (with_reducible rfl)
              try simp only [Act.put, List.setIfInBounds_toArray, List.set_cons_zero, List.set_cons_succ]
              refine takeD (i := 5) (d := some 77) (v := ?_) rfl rfl (by kernel_rfl) (by kernel_rfl) (by kernel_rfl) (fun _ _ _ h => h) (Or.inl ⟨by rfl, ?_⟩) (by assumption) ?_
              rotate_left
              · intro w hSw
                go_simp
                try (with_reducible rfl)
              try simp only [Act.put, List.setIfInBounds_toArray, List.set_cons_zero, List.set_cons_succ]
              refine takeD (i := 6) (d := some 78) (v := ?_) rfl rfl (by kernel_rfl) (by kernel_rfl) (by kernel_rfl) (fun _ _ _ h => h) (Or.inl ⟨by rfl, ?_⟩) (by assumption) ?_
              rotate_left
              · intro w hSw
                go_simp
                try (with_reducible rfl)
              try simp only [Act.put, List.setIfInBounds_toArray, List.set_cons_zero, List.set_cons_succ]
              refine takeD (i := 7) (d := some 79) (v := ?_) rfl rfl (by kernel_rfl) (by kernel_rfl) (by kernel_rfl) (fun _ _ _ h => h) (Or.inl ⟨by rfl, ?_⟩) (by assumption) ?_
              rotate_left
              · intro w hSw
                go_simp
                try (with_reducible rfl)
              try simp only [Act.put, List.setIfInBounds_toArray, List.set_cons_zero, List.set_cons_succ]
              refine takeD (i := 8) (d := some 80) (v := ?_) rfl rfl (by kernel_rfl) (by kernel_rfl) (by kernel_rfl) (fun _ _ _ h => h) (Or.inl ⟨by rfl, ?_⟩) (by assumption) ?_
              rotate_left
              · intro w hSw
                go_simp
                try (with_reducible rfl)
              try simp only [Act.put, List.setIfInBounds_toArray, List.set_cons_zero, List.set_cons_succ]
              refine takeD (i := 9) (d := some 81) (v := ?_) rfl rfl (by kernel_rfl) (by kernel_rfl) (by kernel_rfl) (fun _ _ _ h => h) (Or.inl ⟨by rfl, ?_⟩) (by assumption) ?_
              rotate_left
              · intro w hSw
                go_simp
                try (with_reducible rfl)
              try simp only [Act.put, List.setIfInBounds_toArray, List.set_cons_zero, List.set_cons_succ]
              refine takeD (i := 10) (d := some 82) (v := ?_) rfl rfl (by kernel_rfl) (by kernel_rfl) (by kernel_rfl) (fun _ _ _ h => h) (Or.inl ⟨by rfl, ?_⟩) (by assumption) ?_
              rotate_left
              · intro w hSw
                go_simp
                try (with_reducible rfl)
              try simp only [Act.put, List.setIfInBounds_toArray, List.set_cons_zero, List.set_cons_succ]
              refine takeD (i := 11) (d := some 83) (v := ?_) rfl rfl (by kernel_rfl) (by kernel_rfl) (by kernel_rfl) (fun _ _ _ h => h) (Or.inl ⟨by rfl, ?_⟩) (by assumption) ?_
              rotate_left
              · intro w hSw
                go_simp
                try (with_reducible rfl)
              try simp only [Act.put, List.setIfInBounds_toArray, List.set_cons_zero, List.set_cons_succ]
              refine takeD (i := 12) (d := some 84) (v := ?_) rfl rfl (by kernel_rfl) (by kernel_rfl) (by kernel_rfl) (fun _ _ _ h => h) (Or.inl ⟨by rfl, ?_⟩) (by assumption) ?_
              rotate_left
              · intro w hSw
                go_simp
                try (with_reducible rfl)
              try simp only [Act.put, List.setIfInBounds_toArray, List.set_cons_zero, List.set_cons_succ]
              refine takeD (i := 13) (d := some 85) (v := ?_) rfl rfl (by kernel_rfl) (by kernel_rfl) (by kernel_rfl) (fun _ _ _ h => h) (Or.inl ⟨by rfl, ?_⟩) (by assumption) ?_
              rotate_left
              · intro w hSw
                go_simp
                try (with_reducible rfl)
              try simp only [Act.put, List.setIfInBounds_toArray, List.set_cons_zero, List.set_cons_succ]
              refine takeD (i := 14) (d := some 86) (v := ?_) rfl rfl (by kernel_rfl) (by kernel_rfl) (by kernel_rfl) (fun _ _ _ h => h) (Or.inl ⟨by rfl, ?_⟩) (by assumption) ?_
              rotate_left
              · intro w hSw
                go_simp
                try (with_reducible rfl)
              try simp only [Act.put, List.setIfInBounds_toArray, List.set_cons_zero, List.set_cons_succ]
              refine takeD (i := 15) (d := some 87) (v := ?_) rfl rfl (by kernel_rfl) (by kernel_rfl) (by kernel_rfl) (fun _ _ _ h => h) (Or.inl ⟨by rfl, ?_⟩) (by assumption) ?_
              rotate_left
              · intro w hSw
                go_simp
                try (with_reducible rfl)
              try simp only [Act.put, List.setIfInBounds_toArray, List.set_cons_zero, List.set_cons_succ]
              refine takeD (i := 16) (d := some 88) (v := ?_) rfl rfl (by kernel_rfl) (by kernel_rfl) (by kernel_rfl) (fun _ _ _ h => h) (Or.inl ⟨by rfl, ?_⟩) (by assumption) ?_
              rotate_left
              · intro w hSw
                go_simp
                try (with_reducible rfl)
              try simp only [Act.put, List.setIfInBounds_toArray, List.set_cons_zero, List.set_cons_succ]
              refine takeD (i := 17) (d := some 89) (v := ?_) rfl rfl (by kernel_rfl) (by kernel_rfl) (by kernel_rfl) (fun _ _ _ h => h) (Or.inl ⟨by rfl, ?_⟩) (by assumption) ?_
              rotate_left
              · intro w hSw
                go_simp
                try (with_reducible rfl)
              try simp only [Act.put, List.setIfInBounds_toArray, List.set_cons_zero, List.set_cons_succ]
              refine takeD (i := 18) (d := some 90) (v := ?_) rfl rfl (by kernel_rfl) (by kernel_rfl) (by kernel_rfl) (fun _ _ _ h => h) (Or.inl ⟨by rfl, ?_⟩) (by assumption) ?_
              rotate_left
              · intro w hSw
                go_simp
                try (with_reducible rfl)
              try simp only [Act.put, List.setIfInBounds_toArray, List.set_cons_zero, List.set_cons_succ]
              refine wpAnyH_ready (rs := [19]) (by kernel_rfl) (by simp) ?_
              refine AllReadyH.cons rfl (fun K hK => ?_) AllReadyH.nil
              refine wp_append_bytes (.const (.slice none 0 0)) (.tmp 90) rfl wr.heap.size (.slice none 0 0) 0 [] rfl (World.ownsRow_nil _ _ _ _) y.a y.n y.c y.p.2.2 rfl HYN.out HYL.out HYR.out.drew (by omega) (Nat.le_refl _) ?_
              intro v1 w1 hv1 hg1 _
              have hb1 : Below wr.heap.size wr w1 := below_undrew (below_of hg1)
              rw [Nat.zero_add, List.nil_append] at hv1
              obtain ⟨a1, c1, rfl, -⟩ := own_slice hv1
              have hN : Below wr.heap.size wr w1 := hb1
              obtain ⟨g9, off9, c9, w9, hrun9, hR9, hB9⟩ := own_more HRk.out HLW.out.2.2 y.p (a1 := a1) (n1 := y.n) (c1 := c1) (by rw [HYL.out]; exact hv1) HYB.out hb1 (by omega) 28
              have HR9 := hide hR9
              have HB9 := hide hB9
              clear hR9 hB9 hg1
              clear hHeld
              refine hK.out _ _ (⟨keep_cell q3 hN, keep_cell y0 hN, keep_cell y1 hN, keep_cell y2 hN⟩) (fun hHeld => ?_)
              clear hK K
              try simp only [Act.put, List.setIfInBounds_toArray, List.set_cons_zero, List.set_cons_succ]
              refine takeD (i := 20) (d := some 92) (v := ?_) rfl rfl (by kernel_rfl) (by kernel_rfl) (by kernel_rfl) (fun _ _ _ h => h) (Or.inl ⟨by rfl, ?_⟩) (by assumption) ?_
              rotate_left
              · intro w hSw
                go_simp
                try (with_reducible rfl)
              try simp only [Act.put, List.setIfInBounds_toArray, List.set_cons_zero, List.set_cons_succ]
              refine wpAnyH_ready (rs := [21]) (by kernel_rfl) (by simp) ?_
              refine AllReadyH.cons rfl (fun K hK => ?_) AllReadyH.nil
              go_simp
              go_wp2_with fail
              have hN := hN.trans ((below_new w1 (.cells #[.int .i64 y.p.1, .int .i64 y.p.2.1, .slice a1 y.n c1] 37)).mono hN.size)
              clear hHeld
              refine hK.out _ _ (⟨keep_cell q3 hN, keep_cell y0 hN, keep_cell y1 hN, keep_cell y2 hN⟩) (fun hHeld => ?_)
              clear hK K
              try simp only [Act.put, List.setIfInBounds_toArray, List.set_cons_zero, List.set_cons_succ]
              refine wpAnyH_ready (rs := [22]) (by kernel_rfl) (by simp) ?_
              refine AllReadyH.cons rfl (fun K hK => ?_) AllReadyH.nil
              refine wp_append_run (.tmp 72) (.tmp 93) rfl rfl rfl hrun9 ?_
              have kq : ∀ {bb oo : Nat} {u : Value}, bb < B → wr.cell? ⟨bb, oo, none⟩ = some u → w9.cell? ⟨bb, oo, none⟩ = some u := fun {bb oo u} h1 h2 => (by rw [HB9.out.cell (p := ⟨bb, oo, none⟩) h1]; exact h2)
              clear hHeld
              refine hK.out _ _ (⟨kq HLW.out.1 q3, kq HB8.out y0, kq HB8.out y1, kq HB8.out y2⟩) (fun hHeld => ?_)
              clear hK K
              try simp only [Act.put, List.setIfInBounds_toArray, List.set_cons_zero, List.set_cons_succ]
              refine takeD (i := 23) (d := some 11) (v := ?_) rfl rfl (by kernel_rfl) (by kernel_rfl) (by kernel_rfl) (fun _ _ _ h => h) (Or.inl ⟨by rfl, ?_⟩) (by assumption) ?_
              rotate_left
              · intro w hSw
                go_simp
                try (with_reducible rfl)
              try simp only [Act.put, List.setIfInBounds_toArray, List.set_cons_zero, List.set_cons_succ]
              refine wpAnyH_done (by kernel_rfl) ?_ _
              refine NoPanic.normal ?_
              have HL9 := hide (show (lk ++ [(⟨y.p, a1, y.n, c1⟩ : Pm)]).map Pm.p = (x.l.map Pm.p).take (k + 1) by
                rw [List.map_append, HLk.out, HTS.out]; rfl)
              have HGX9 := hide (HGXk.out.below HB9.out)
              clear q0 q1 q2 q3 q4 y0 y1 y2 hrun9 hN kq hHeld hv1
              go_wp2
              go_roundw
              case rel => exact ⟨k + 1, some ⟨g9, off9, none⟩, c9, _, by omega, rfl, by go_num, HGX9, HR9, HL9⟩
              case measure => simp [intOf]; omega
            · obtain rfl : k = x.n := by omega
              have hbd : Below wr.heap.size wr wr.drew := (Below.refl _ _).drew
              have HML := hide (show lk.map Pm.p = x.l.map Pm.p by rw [HLk.out, List.take_of_length_le (by rw [List.length_map, HLEN.out]; exact Nat.le_refl _)])
              obtain ⟨L', v, hok', hA, hC⟩ := step_send2 (HGXk.out.below (hbd.mono HLW.out.2.2)) HOK.out x.a x.n x.c x.l HX.out.1 HQ.out.1 HQ.out.2.2 HXW.out.2.2.2.1 av x.n cv lk (HRk.out.below hbd) HML.out
              have CA := hide hA
              have CB := hide hC
              have HOK' := hide hok'
              have HLN := hide HRk.out.1.1.1
              have HYN := hide (show ∀ y ∈ lk, y.n ≤ 1000000 from fun y hy => by
                have h1 : y.p ∈ x.l.map Pm.p := by rw [← HML.out]; exact List.mem_map_of_mem hy
                obtain ⟨u, hu, e⟩ := List.mem_map.1 h1
                have h2 := (HX.out.1.2.2.2.2.2 u hu).1
                have h3 := HQ.out.2.2 u hu
                have h4 := (HRk.out.1.1.2.2.2.2.2 y hy).1
                rw [← e] at h4
                omega)
              have HBle := hide (show ∀ b off, av = some ⟨b, off, none⟩ → B ≤ b from fun b off e => (HRk.out.1.1.2.2.2.2.1 _ e).1)
              clear hA hC hok' hbw
              generalize hB1 : wr.drew.heap.size = B1 at CA CB
              clear hB1
              go_upto_region 22 with fail
              have hS : wr.drew.cell? ⟨ab, 3, none⟩ = some (.slice x.a x.n x.c) := q3
              go_region_held3 (fun W => W.cell? ⟨ab, 3, none⟩ = some (.slice x.a x.n x.c)) (exact hS) (first | (go_at_call 10; (with_reducible refine CA.out.mono ?_); rintro e w7 ⟨rfl, hA7, hG7⟩; have CB7 := hide (CB.out _ hA7 hG7); have hS := hA7.g.cells.2.2.2.1; clear hA7 hG7) | (go_at_call 11; (with_reducible refine CB7.out.mono ?_); rintro e w8 ⟨rfl, hA8, hG8⟩; have HA8 := hide hA8; have HG8 := hide hG8; have hS := hA8.g.cells.2.2.2.1; clear hA8 hG8))
              have HXQ := hide (xq_of (HG8.out.f HA8.out.le))
              have HBL := hide HG8.out.blocks
              clear q0 q1 q2 q3 q4 HGXk HRk HG8
              go_wp2_with fail
              go_loopw [13] (fun kv wi => ∃ k : Nat, k ≤ x.n ∧ kv = .int .i64 (k : Nat) ∧ Hid (SA w wi nb ob rb ab [.int .i64 x.wy, .int .i64 x.k, .int .i64 x.b, .slice x.a x.n x.c, .slice x.d x.m x.e] L' L' B B1) ∧ Hid (XQ B wi av x.n cv lk)) (fun kv _ => x.n - (intOf kv).toNat)
              case atStart => exact ⟨0, Nat.zero_le _, rfl, HA8, HXQ⟩
              case round =>
                obtain ⟨k, hk, rfl, HA, HXa⟩ := hrel
                clear HXQ
                by_cases hkn : k < x.n
                · obtain ⟨b8, off8, har, hB8, hXs⟩ := HXa.out.resolve_left (by omega)
                  subst har
                  have hkl : k < lk.length := by have := HLN.out; omega
                  obtain ⟨y, hy⟩ : ∃ y, y = lk[k] := ⟨_, rfl⟩
                  have HY := hide (show ∀ W, Xs B W b8 off8 x.n cv lk → W.cell? ⟨b8, off8 + k * 3 + 2, none⟩ = some (.slice y.a y.n y.c) ∧ Xb B b8 W y from fun W h => h.at hkl y hy)
                  have hyn : y.n ≤ 1000000 := HYN.out y (by rw [hy]; exact List.getElem_mem _)
                  have HYA := hide (HBL.out y (by rw [hy]; exact List.getElem_mem _))
                  have HXs := hide hXs
                  clear hXs HXa hy hkl hB8
                  go_wp2_with fail
                  go_loopw [14] (fun jv wj => ∃ j : Nat, j ≤ y.n ∧ jv = .int .i64 (j : Nat) ∧ Hid (SA w wj nb ob rb ab [.int .i64 x.wy, .int .i64 x.k, .int .i64 x.b, .slice x.a x.n x.c, .slice x.d x.m x.e] L' L' B B1) ∧ Hid (Xs B wj b8 off8 x.n cv lk)) (fun jv _ => y.n - (intOf jv).toNat)
                  case atStart => exact ⟨0, Nat.zero_le _, rfl, HA, HXs⟩
                  case round =>
                    obtain ⟨j, hj, rfl, HAj, HXj⟩ := hrel
                    obtain ⟨hc, hb⟩ := HY.out _ HXj.out
                    have HHb := hide hb
                    clear hb
                    by_cases hjn : j < y.n
                    · obtain ⟨g, ea, hg, hgb, hyc, hym, hcell⟩ := HHb.out.resolve_left (by omega)
                      obtain ⟨⟨v, hv, hcv⟩, hfz⟩ := hcell j hjn
                      have HGA := hide (HYA.out _ ea)
                      rw [ea] at hc
                      have HGB := hide hgb
                      clear hcell HHb ea hg hym hgb
                      go_upto_region 29 with fail
                      go_big_region
                      obtain ⟨z, hz, hz2⟩ := xor255 v hv
                      have HPX := hide (show Xs B (wr.setCell ⟨g, j, none⟩ (.int .u8 (z : Int))).drew b8 off8 x.n cv lk from HXj.out.put HGB.out z hz (by rw [hcv]; rfl))
                      have HPG := hide (HAj.out.put HGA.out j (.int .u8 (z : Int)))
                      go_wp2
                      go_roundw
                      case rel => exact ⟨j + 1, by omega, by go_num, HPG, HPX⟩
                      case measure => simp [intOf]; omega
                    · go_wp2
                      go_roundw
                      case rel => exact ⟨k + 1, by omega, by go_num, HAj, hide (.inr ⟨b8, off8, rfl, HBle.out b8 off8 rfl, HXj.out⟩)⟩
                      case measure => simp [intOf]; omega
                · go_wp2_with fail
                  go_meet
                  case rel => exact ⟨rfl, L', HOK', hide HA.out.g⟩
        by_cases e1 : x.wy = 1
        · as_aux_lemma =>
          obtain ⟨L', v, P, hok', hA, hB⟩ := step_deliver2 HG6.out HOK.out x.k
          have CA := hide hA
          have CB := hide hB
          have HOK' := hide hok'
          clear hA hB hok' HGd
          cases v
          all_goals
            go_upto_region 32 with (go_at_call 12; go_must ((with_reducible refine CA.out.mono ?_); rintro e w7 ⟨y1, rfl, hP1, hM⟩; have HM := hide hM; have HP1 := hide hP1; clear hM hP1))
            have HMB := hide (HM.out.box [.int .i64 y1.p.1, .int .i64 y1.p.2.1, .slice y1.a y1.n y1.c] 37)
            have CB7 := hide (CB.out y1 _ _ _ HMB.out)
            obtain ⟨-, r1, -⟩ := HMB.out.g.cells
            have HW7 := hide (show w7.alloc (.cells #[.int .i64 y1.p.1, .int .i64 y1.p.2.1, .slice y1.a y1.n y1.c] 37) = w7.alloc (.cells [.int .i64 y1.p.1, .int .i64 y1.p.2.1, .slice y1.a y1.n y1.c].toArray 37) from rfl)
            generalize hV7 : w7.alloc (.cells #[.int .i64 y1.p.1, .int .i64 y1.p.2.1, .slice y1.a y1.n y1.c] 37) = V7 at HMB CB7 r1 HW7 ⊢
            generalize hqb : w7.heap.size = qb at HMB CB7 ⊢
            have HV7 := hide hV7
            have HQB := hide hqb
            clear hV7 hqb q0 q1 q2 q3 q4 HW7
            go_upto_region 33 with (go_at_call 13; go_must ((with_reducible refine CB7.out.mono ?_); rintro e w8 ⟨y2, rfl, hP2, hG8, ho1, ho2, hbx⟩; have HG8 := hide hG8; have HO1 := hide ho1; have HO2 := hide ho2; have HBX := hide hbx; have HP2 := hide hP2; clear hG8 ho1 ho2 hbx hP2))
            have hb8 := below_new w8 (.cells #[.int .i64 y2.p.1, .int .i64 y2.p.2.1, .slice y2.a y2.n y2.c] 37)
            have HBN := hide (BoxL.new w8 [.int .i64 y2.p.1, .int .i64 y2.p.2.1, .slice y2.a y2.n y2.c] 37)
            have HG9 := hide (HG8.out.below hb8)
            have HX9 := hide (HBX.out.below hb8)
            have CS := hide (same_two (okT_below HO1.out hb8) (okT_below HO2.out hb8) (HP1.out.trans HP2.out.symm))
            clear hb8
            generalize hV8 : w8.alloc (.cells #[.int .i64 y2.p.1, .int .i64 y2.p.2.1, .slice y2.a y2.n y2.c] 37) = V8 at HBN HG9 HX9 CS ⊢
            generalize hpb : w8.heap.size = pb at HBN ⊢
            have HV8 := hide hV8
            have HPB := hide hpb
            clear hV8 hpb
            obtain ⟨z0, z1, z2⟩ := HX9.out.c3
            obtain ⟨u0, u1, u2⟩ := HBN.out.c3
            have hl1 := HX9.out.1
            have hl2 := HBN.out.1
            have k0 := keep_cell z0 (below_new V8 (.cells #[.int .i64 y1.p.1, .int .i64 y1.p.2.1, .slice y1.a y1.n y1.c] 37))
            have n0 := keep_cell u0 (below_new V8 (.cells #[.int .i64 y1.p.1, .int .i64 y1.p.2.1, .slice y1.a y1.n y1.c] 37))
            have n1 := keep_cell u1 (below_new V8 (.cells #[.int .i64 y1.p.1, .int .i64 y1.p.2.1, .slice y1.a y1.n y1.c] 37))
            have n2 := keep_cell u2 (below_new V8 (.cells #[.int .i64 y1.p.1, .int .i64 y1.p.2.1, .slice y1.a y1.n y1.c] 37))
            clear k0
            go_wp2_with (go_at_call 14; go_must ((with_reducible refine CS.out.mono ?_); rintro e w9 ⟨rfl, hb9⟩; have HGA := hide (HG9.out.below hb9); clear hb9))
            go_meet
            case rel => exact ⟨rfl, L', HOK', HGA⟩
        by_cases e2 : x.wy = 2
        · as_aux_lemma =>
          obtain ⟨L', v, hok', hA, hB⟩ := step_drop HG6.out HOK.out x.k
          have CA := hide hA
          have CB := hide hB
          have HOK' := hide hok'
          clear hA hB hok' HGd
          cases v
          all_goals
            go_upto_region 37 with (first
              | (go_at_call 15; go_must ((with_reducible refine CA.out.mono ?_); rintro e w7 ⟨rfl, hG7⟩; have HG7 := hide hG7; have CB7 := hide (CB.out _ hG7); obtain ⟨-, q1, -⟩ := hG7.cells; clear hG7))
              | (go_at_call 13; go_must ((with_reducible refine CB7.out.mono ?_); rintro e w8 ⟨i8, j8, a8, n8, c8, rfl, hG8⟩; have HG8 := hide hG8; clear hG8)))
            have HG9 := hide (HG8.out.below (below_new w8 (.cells #[.int .i64 i8, .int .i64 j8, .slice a8 n8 c8] 37)))
            go_wp2_with fail
            go_meet
            case rel => exact ⟨rfl, L', HOK', HG9⟩
        by_cases e3 : x.wy = 3
        · as_aux_lemma =>
          obtain ⟨L', v, hok', hA, hB⟩ := step_dup HGd.out HOK.out x.k
          have CA := hide hA
          have CB := hide hB
          have HOK' := hide hok'
          clear hA hB hok'
          cases v
          all_goals
            go_upto_region 39 with fail
            have hS : w6.drew.cell? ⟨ab, 1, none⟩ = some (.int .i64 x.k) := q1
            go_region_held3 (fun W => W.cell? ⟨ab, 1, none⟩ = some (.int .i64 x.k)) (exact hS) (first | (go_at_call 16; (with_reducible refine CA.out.mono ?_); rintro e w7 ⟨rfl, hG7⟩; have CB7 := hide (CB.out _ hG7); have hS := hG7.cells.2.1; clear hG7) | (go_at_call 17; (with_reducible refine CB7.out.mono ?_); rintro e w8 ⟨rfl, hG8⟩; have HG8 := hide hG8; have hS := hG8.cells.2.1; clear hG8))
            go_wp2_with fail
            go_meet
            case rel => exact ⟨rfl, L', HOK', HG8⟩
        by_cases e4 : x.wy = 4
        · as_aux_lemma =>
          obtain ⟨L', v, hok', hA, hB⟩ := step_flip HGd.out HOK.out x.k x.b (by have h := bounds_i64 HXW.out.2.2.1; have h2 := h.2; omega)
          have CA := hide hA
          have CB := hide hB
          have HOK' := hide hok'
          clear hA hB hok'
          cases v
          all_goals
            go_upto_region 41 with fail
            have hS : w6.drew.cell? ⟨ab, 1, none⟩ = some (.int .i64 x.k) ∧ w6.drew.cell? ⟨ab, 2, none⟩ = some (.int .i64 x.b) := ⟨q1, q2⟩
            go_region_held3 (fun W => W.cell? ⟨ab, 1, none⟩ = some (.int .i64 x.k) ∧ W.cell? ⟨ab, 2, none⟩ = some (.int .i64 x.b)) (exact hS) (first | (go_at_call 18; (with_reducible refine CA.out.mono ?_); rintro e w7 ⟨rfl, hG7⟩; have CB7 := hide (CB.out _ hG7); have hS := And.intro hG7.cells.2.1 hG7.cells.2.2.1; clear hG7) | (go_at_call 19; (with_reducible refine CB7.out.mono ?_); rintro e w8 ⟨rfl, hG8⟩; have HG8 := hide hG8; have hS := And.intro hG8.cells.2.1 hG8.cells.2.2.1; clear hG8))
            go_wp2_with fail
            go_meet
            case rel => exact ⟨rfl, L', HOK', HG8⟩
        as_aux_lemma =>
          obtain ⟨L', v, hok', hA, hB⟩ := step_gone HGd.out HOK.out x.d x.m x.e x.ns HX.out.2.1 (by have := HQ.out.2.1; omega) HX.out.2.2.2.1 (in64_wf HXW.out.2.2.2.2)
          have CA := hide hA
          have CB := hide hB
          have HOK' := hide hok'
          clear hA hB hok'
          go_upto_region 15 with fail
          have hS : w6.drew.cell? ⟨ab, 4, none⟩ = some (.slice x.d x.m x.e) := q4
          go_region_held3 (fun W => W.cell? ⟨ab, 4, none⟩ = some (.slice x.d x.m x.e)) (exact hS) (first | (go_at_call 20; (with_reducible refine CA.out.mono ?_); rintro e w7 ⟨rfl, hG7⟩; have CB7 := hide (CB.out _ hG7); have hS := hG7.cells.2.2.2.2; clear hG7) | (go_at_call 21; (with_reducible refine CB7.out.mono ?_); rintro e w8 ⟨rfl, hG8⟩; have HG8 := hide hG8; have hS := hG8.cells.2.2.2.2; clear hG8))
          go_wp2_with fail
          go_meet
          case rel => exact ⟨rfl, L', HOK', HG8⟩
    · as_aux_lemma =>
        obtain ⟨a2, n2, c2, hr2, hC⟩ := n_end hN.drew hok
        have CW := hide hC
        have hS : wr.drew.cell? ⟨rb, 0, none⟩ = some (.slice a2 n2 c2) := hr2
        clear hC hr2 HS0 HS hBel hN hok
        go_upto_region 52 with fail
        go_region_held3 (fun W => W.cell? ⟨rb, 0, none⟩ = some (.slice a2 n2 c2)) (exact hS) (first | (go_at_call 22; (with_reducible refine CW.out.mono ?_); rintro e w7 ⟨a7, n7, c7, rfl, hS, hC7⟩; have CS := hide hC7; clear hC7) | (go_at_call 14; (with_reducible refine CS.out.mono ?_); rintro e w8 ⟨rfl, hS, hb8⟩; have HB8 := hide hb8; clear hb8))
        go_wp2
        go_ret
        exact ⟨rfl, HB8.out⟩
end netPlays
end Go.Proofs.Ytmjglgdihlomlaa
