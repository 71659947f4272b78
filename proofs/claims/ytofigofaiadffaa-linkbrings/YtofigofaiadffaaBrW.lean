/- LinkBrings answers true. -/
import Derived.Test.YtofigofaiadffaaBrV
namespace Go.Proofs.Ytofigofaiadffaa
namespace linkBrings
open Go.RowKit Go.ChangeShapes Go.WideShapes Go.ChangeAt Go.Deep

set_option linter.unusedSimpArgs false in
set_option maxRecDepth 100000 in
set_option maxHeartbeats 16000000 in
theorem walk_main (a : Option Addr) (m c : Nat) (ls : List Tu) (w : World) (hm : m ≤ 300) (hl : ls.length = m) (hr : RowTu w a ls) :
    Calls Try.prog 4 #[.slice a m c] w fun e w' => e = .returned (.bool true) ∧ Below w.heap.size w w' := by
  have C11 := hide (fun W => new_any 0 1 1 1 100000 W)
  have C11b := hide (fun W => new_any 1 0 1 1 100000 W)
  have HR := hide hr
  have HL := hide hl
  have hmi : ¬ (300 : Int) < (m : Int) := by omega
  clear hr hl
  go_enter Try.func4, Try.ntmps4
  go_upto_region 5 with (first
    | (go_at_call 9; go_must ((with_reducible refine (alive_any w).mono ?_); rintro e w1 ⟨rfl, hb1⟩; have HB1 := hide hb1; clear hb1))
    | (go_at_call 11; (with_reducible refine (C11.out w1).mono ?_); rintro e w2 ⟨ga, rfl, hN2, hg2, hb2⟩; have HB2 := hide (HB1.out.trans (hb2.mono HB1.out.size)); have HN2 := hide hN2; have HG2 := hide (Nat.le_trans HB1.out.size hg2); clear hN2 hg2 hb2)
    | (go_at_call 11; go_must ((with_reducible refine (C11b.out w2).mono ?_); rintro e w3 ⟨gb, rfl, hN3, hg3, hb3⟩; have HP0 := hide (pair0 HN2.out hN3 HB2.out hb3 HG2.out hg3); clear hN3 hg3 hb3)))
  have HS0 := hide (show S1 w (w3.alloc (.cells #[.pointer (some ⟨ga, 0, none⟩), .pointer (some ⟨gb, 0, none⟩), .slice none 0 0, .int .i64 0, .slice none 0 0, .slice none 0 0, .slice none 0 0, .slice none 0 0] 66)) w3.heap.size ga gb 0 0 from ⟨pr0, inv0, ⟨Nat.le_refl _, Nat.le_refl _, Nat.le_refl _, Nat.zero_le _⟩, rfl, HP0.out⟩)
  generalize w3.heap.size = pb at HS0 ⊢
  generalize w3.alloc (.cells #[.pointer (some ⟨ga, 0, none⟩), .pointer (some ⟨gb, 0, none⟩), .slice none 0 0, .int .i64 0, .slice none 0 0, .slice none 0 0, .slice none 0 0, .slice none 0 0] 66) = w4 at HS0 ⊢
  go_wp2_with fail
  go_loopw [5] (fun iv wr => ∃ i nw : Nat, i ≤ m ∧ iv = .int .i64 (i : Nat) ∧ Hid (S1 w wr pb ga gb i nw)) (fun iv _ => m - (intOf iv).toNat)
  case atStart => exact ⟨0, 0, Nat.zero_le _, rfl, HS0⟩
  case round =>
    obtain ⟨i, nw, hi, rfl, HS⟩ := hrel
    obtain ⟨p, hinv, hsz, hnw, hPM⟩ := HS.out
    have hBel := hPM.bel
    by_cases hlt : i < m
    · have hil : i < ls.length := by have := HL.out; omega
      obtain ⟨b, off, har, y0, y1, y2⟩ := HR.out.1 i hil
      subst har
      have hy := HR.out.2 ls[i] (List.getElem_mem _)
      obtain ⟨x, hx⟩ : ∃ x, x = ls[i] := ⟨_, rfl⟩
      rw [← hx] at y0 y1 y2 hy
      have z0 := keep_cell y0 (hBel.mono (Nat.le_refl _))
      have z1 := keep_cell y1 hBel
      have z2 := keep_cell y2 hBel
      obtain ⟨aw, cw, d2⟩ := hPM.way
      rw [hnw] at d2
      have HBL := hide hBel
      clear y0 y1 y2 hx hil hBel
      by_cases hbig : 200 < x.t.len
      · have hbi : (200 : Int) < (x.t.len : Int) := by omega
        clear hPM hinv hsz hnw hy
        go_wp2
        go_ret
        exact ⟨rfl, HBL.out⟩
      · have hbi : ¬ (200 : Int) < (x.t.len : Int) := by omega
        by_cases hway : 2000 < nw
        · have hwi : (2000 : Int) < (nw : Int) := by omega
          clear hPM hinv hsz hnw hy
          go_wp2
          go_ret
          exact ⟨rfl, HBL.out⟩
        · have hwi : ¬ (2000 : Int) < (nw : Int) := by omega
          have hxl : x.t.bs.length ≤ 200 := by have := hy.1.1.1; omega
          obtain ⟨p2, hp2⟩ : ∃ p2, p2 = turnP p x.wy x.K x.t.bs := ⟨_, rfl⟩
          have C24 := hide (turn_any w wr pb ga gb p x.wy x.K x.t.a x.t.len x.t.cap x.t.bs hPM (bd_of hinv hsz (by omega) (by omega)) (hy.1.keep fun k hk => HBL.out.block k hk) hy.2 hinv p2 hp2)
          have HI2 := hide (show Inv p2 from by rw [hp2]; exact hinv.turn x.wy x.K hxl)
          have HZ2 := hide (show Sz (i + 1) (2009 + (i + 1) * 9) p2 from by rw [hp2]; have := hsz.turn hinv x.wy x.K x.t.bs; rw [show 2009 + (i + 1) * 9 = 2009 + i * 9 + 9 by omega]; exact this)
          generalize x.wy = xw at z0 C24
          generalize x.K = xk at z1 C24
          clear hPM hinv hsz hnw hy hxl hp2
          go_upto_region 11 with (go_at_call 24; go_must ((with_reducible refine C24.out.mono ?_); rintro e w5 ⟨rfl, hP5⟩; have HP5 := hide hP5; clear hP5))
          obtain ⟨t0, t1, u0, u1, k4, k5, k6, k7, hC0, hC1⟩ := four_begins HP5.out HI2.out ⟨by have := HZ2.out.s0; omega, by have := HZ2.out.s1; omega⟩
          have C25a := hide hC0
          have C25b := hide hC1
          clear hC0 hC1 d2 z0 z1 z2
          have hN : Below w5.heap.size w5 w5.drew := (Below.refl _ _).drew
          go_region_held3 (fun W => W.cell? ⟨pb, 4, none⟩ = some (.slice t0.a t0.n t0.c) ∧ W.cell? ⟨pb, 5, none⟩ = some (.slice t1.a t1.n t1.c) ∧ W.cell? ⟨pb, 6, none⟩ = some (.slice u0.a u0.n u0.c) ∧ W.cell? ⟨pb, 7, none⟩ = some (.slice u1.a u1.n u1.c)) (exact ⟨keep_cell k4 hN, keep_cell k5 hN, keep_cell k6 hN, keep_cell k7 hN⟩) (first | (go_at_call 25; (with_reducible refine (C25a.out _ hN).mono ?_); rintro e w6 ⟨rfl, hb6⟩; have hN := hN.trans (hb6.mono hN.size); clear hb6) | (go_at_call 25; (with_reducible refine (C25b.out _ hN).mono ?_); rintro e w7 ⟨rfl, hb7⟩; have hN := hN.trans (hb7.mono hN.size); clear hb7))
          clear C25a C25b k4 k5 k6 k7
          have HNN := hide (HP5.out.below hN)
          clear hN
          go_wp2
          go_roundw
          case rel => exact ⟨i + 1, p2.way.length, by omega, by go_num, hide ⟨p2, HI2.out, HZ2.out, rfl, HNN.out⟩⟩
          case measure => simp [intOf]; omega
    · obtain rfl : i = m := by omega
      obtain ⟨n0, hS2⟩ := s2_zero hm HS.out
      have HS2 := hide hS2
      have hNl : ¬ (i : Int) < (i : Int) := by omega
      clear hS2 HS HR HL C11 C11b HB1 HB2 HN2 HG2 HP0 HS0 hinv hsz hnw hPM hBel
      go_wp2_with fail
      go_loopw [7] (fun rv wq => ∃ r : Nat, r ≤ 400 ∧ rv = .int .i64 (r : Nat) ∧ Hid (S2 w wq pb ga gb n0 r)) (fun rv _ => 400 - (intOf rv).toNat)
      case atStart => exact ⟨0, Nat.zero_le _, rfl, HS2⟩
      case round =>
        obtain ⟨r, hr, rfl, HQ⟩ := hrel
        by_cases hrl : r < 400
        · obtain ⟨p2, hA, hB⟩ := s2_two hrl HQ.out
          have CA := hide hA
          have CB := hide hB
          have hri : (r : Int) < 400 := by omega
          clear hA hB HS2 HQ
          go_wp2_with (first
            | (go_at_call 24; (with_reducible refine CA.out.mono ?_); rintro e w5 ⟨rfl, hP5⟩; have HP5 := hide hP5; clear hP5)
            | (go_at_call 24; go_must ((with_reducible refine (CB.out _ HP5.out).mono ?_); rintro e w6 ⟨rfl, nw0, hP6⟩; have HP6 := hide hP6; clear hP6)))
          clear CA CB HP5
          go_loopw [] (fun wi => ∃ nw : Nat, Hid (S3 w wi pb ga gb n0 r nw)) (fun wi => slN (wi.cell? ⟨pb, 2, none⟩))
          case atStart => exact ⟨nw0, HP6⟩
          case round =>
            obtain ⟨nw, H3⟩ := hrel
            obtain ⟨aw, cw, d2⟩ := H3.out.way
            clear HP6
            by_cases hn0 : 0 < nw
            · obtain ⟨nn, rfl⟩ : ∃ nn, nw = nn + 1 := ⟨nw - 1, by omega⟩
              have CI := hide (s3_in hrl H3.out)
              have hni : (0 : Int) < ((nn + 1 : Nat) : Int) := by omega
              have HD2 := hide d2
              generalize hnq : nn + 1 = nq at d2 hni
              have HNQ := hide hnq
              clear H3 hnq hn0
              go_wp2_with (go_at_call 24; go_must ((with_reducible refine CI.out.mono ?_); rintro e w7 ⟨rfl, hP7⟩; have HP7 := hide hP7; clear hP7))
              go_roundw
              case rel => exact ⟨nn, HP7⟩
              case measure =>
                obtain ⟨aw', cw', d3⟩ := HP7.out.way
                rw [d3, HD2.out]
                simp only [slN]
                omega
            · obtain rfl : nw = 0 := by omega
              have HF := hide H3.out.fin
              clear H3 hn0
              go_wp2
              go_roundw
              case rel => exact ⟨r + 1, by omega, by go_num, HF⟩
              case measure => simp [intOf]; omega
        · have hri : ¬ (r : Int) < 400 := by omega
          obtain ⟨t0, t1, u0, u1, k4, k5, k6, k7, k0, k1, hb, g1, g2, c1, c2, c3, c4⟩ := s2_end (by omega) (by omega) HQ.out
          have CA := hide c1
          have CB := hide c2
          have CC := hide c3
          have CD := hide c4
          have HBB := hide hb
          clear c1 c2 c3 c4 HS2 HQ hb
          go_upto_region 22 with fail
          have hN : Below wr.heap.size wr wr.drew := (Below.refl _ _).drew
          go_region_held3 (fun W => W.cell? ⟨pb, 4, none⟩ = some (.slice t0.a t0.n t0.c) ∧ W.cell? ⟨pb, 5, none⟩ = some (.slice t1.a t1.n t1.c) ∧ W.cell? ⟨pb, 6, none⟩ = some (.slice u0.a u0.n u0.c) ∧ W.cell? ⟨pb, 7, none⟩ = some (.slice u1.a u1.n u1.c) ∧ W.cell? ⟨pb, 0, none⟩ = some (.pointer (some ⟨ga, 0, none⟩)) ∧ W.cell? ⟨pb, 1, none⟩ = some (.pointer (some ⟨gb, 0, none⟩))) (exact ⟨keep_cell k4 hN, keep_cell k5 hN, keep_cell k6 hN, keep_cell k7 hN, keep_cell k0 hN, keep_cell k1 hN⟩) (first | (go_at_call 20; (with_reducible refine (CA.out _ hN).mono ?_); rintro e w6 ⟨rfl, hb6⟩; have hN := hN.trans (hb6.mono hN.size); clear hb6) | (go_at_call 20; (with_reducible refine (CB.out _ hN).mono ?_); rintro e w7 ⟨rfl, hb7⟩; have hN := hN.trans (hb7.mono hN.size); clear hb7) | (go_at_call 21; (with_reducible refine (CC.out _ hN).mono ?_); rintro e w8 ⟨rfl, hb8⟩; have hN := hN.trans (hb8.mono hN.size); clear hb8) | (go_at_call 21; (with_reducible refine (CD.out _ hN).mono ?_); rintro e w9 ⟨rfl, hb9⟩; have hN := hN.trans (hb9.mono hN.size); clear hb9))
          have HE := hide (HBB.out.trans (hN.mono HBB.out.size))
          clear hN CA CB CC CD k0 k1 k4 k5 k6 k7
          go_wp2
          go_ret
          exact ⟨rfl, HE.out⟩
set_option linter.unusedSimpArgs false in
set_option maxRecDepth 100000 in
set_option maxHeartbeats 4000000 in
theorem walk_skip (a : Option Addr) (m c : Nat) (w : World) (hm : 300 < m) :
    Calls Try.prog 4 #[.slice a m c] w fun e w' => e = .returned (.bool true) ∧ Below w.heap.size w w' := by
  have hmi : (300 : Int) < (m : Int) := by omega
  go_enter Try.func4, Try.ntmps4
  go_wp2_with (go_at_call 9; go_must ((with_reducible refine (alive_any w).mono ?_); rintro e w1 ⟨rfl, hb1⟩; have HB1 := hide hb1; clear hb1))
  go_ret
  exact ⟨rfl, HB1.out⟩
theorem walk (a : Option Addr) (m c : Nat) (ls : List Tu) (w : World) (hl : ls.length = m) (hr : RowTu w a ls) :
    Calls Try.prog 4 #[.slice a m c] w fun e w' => e = .returned (.bool true) ∧ Below w.heap.size w w' := by
  by_cases hm : m ≤ 300
  · exact walk_main a m c ls w hm hl hr
  · exact walk_skip a m c w (by omega)
end linkBrings
end Go.Proofs.Ytofigofaiadffaa
