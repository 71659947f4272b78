/- LinkNumbers answers true: the walk. -/
import Derived.Test.YtofigofaiadffaaNuW
namespace Go.Proofs.Ytofigofaiadffaa
namespace linkNumbers
open Go.RowKit Go.ChangeShapes Go.WideShapes Go.ChangeAt Go.Deep

theorem RowF_at {B : Nat} {w : World} {a : Option Addr} {n c : Nat} {l : List Fm} (h : RowF B w a n c l) (h0 : 0 < n) : ∃ b, a = some ⟨b, 0, none⟩ := by
  obtain ⟨b, e, _⟩ := h.isAt h0
  exact ⟨b, e⟩
theorem NB.at {w wr : World} {ga gb : Nat} {last : Int} {sent B c k : Nat} {a : Option Addr} (h : NB w wr ga gb last sent B a c k) : ∃ b, a = some ⟨b, 0, none⟩ := by
  obtain ⟨A, ops, sb, l, h1, h2, h3, h4, h5, _⟩ := h
  exact RowF_at h5 (by omega)
theorem NA.at {w wr : World} {ga gb : Nat} {last : Int} {sent B c k : Nat} {a : Option Addr} (h : NA w wr ga gb last sent B a c k) : ∃ b, a = some ⟨b, 0, none⟩ := by
  obtain ⟨sb, l, h1, h2, h3, _⟩ := h
  exact RowF_at h3 (by omega)
set_option linter.unusedSimpArgs false in
set_option maxRecDepth 100000 in
set_option maxHeartbeats 8000000 in
theorem walk_main (lt n : Nat) (w : World) (hl : lt ≤ 50) (hn : n ≤ 100) :
    Calls Try.prog 5 #[.int .i64 (lt : Int), .int .i64 (n : Int)] w fun e w' => e = .returned (.bool true) ∧ Below w.heap.size w w' := by
  have C11 := hide (fun W => new_any 0 1 1 1 (lt : Int) W)
  have C11b := hide (fun W => new_any 1 0 1 1 10 W)
  go_enter Try.func5, Try.ntmps5
  go_wp2_with (first
    | (go_at_call 9; go_must ((with_reducible refine (alive_any w).mono ?_); rintro e w1 ⟨rfl, hb1⟩; have HB1 := hide hb1; clear hb1))
    | (go_at_call 11; (with_reducible refine (C11.out w1).mono ?_); rintro e w2 ⟨ga, rfl, hN2, hg2, hb2⟩; have HB2 := hide (HB1.out.trans (hb2.mono HB1.out.size)); have HN2 := hide hN2; have HG2 := hide hg2; clear hN2 hg2 hb2)
    | (go_at_call 11; go_must ((with_reducible refine (C11b.out w2).mono ?_); rintro e w3 ⟨gb, rfl, hN3, hg3, hb3⟩; have HS3 := hide (show NS w w3 ga gb (lt : Int) 0 0 from ⟨0, [], newL 1 0 1 1 10, rfl, rfl, fun o ho => (by cases ho), ⟨fun _ => none, rfl, fun _ _ => rfl⟩, ⟨fun k => k = ga, fun k => k = gb, HN2.out.below hb3, hN3, fun k e1 e2 => by have := HN2.out.lt ga rfl; omega, fun k e1 => by have := HB1.out.size; have := HG2.out; omega, fun k e1 => by have := HB2.out.size; omega⟩, HB2.out.trans (hb3.mono HB2.out.size)⟩); clear hN3 hg3 hb3)))
  go_loopw [8, 9] (fun sv iv wr => ∃ (i sent q : Nat), i ≤ n ∧ sent ≤ lt ∧ q < 8 ∧ sv = .int .i64 (sent : Nat) ∧ iv = .int .i64 (i : Nat) ∧ Hid (NS w wr ga gb (lt : Int) sent q)) (fun _ iv _ => n - (intOf iv).toNat)
  case atStart => exact ⟨0, 0, 0, Nat.zero_le _, Nat.zero_le _, by omega, rfl, rfl, HS3⟩
  case round =>
    obtain ⟨i, sent, q, hi, hsl, hq, rfl, rfl, HS⟩ := hrel
    by_cases hlt : i < n
    · have kw : IntKind.u8.wrap (i : Int) = (i : Int) := by
        unfold IntKind.wrap
        simp [IntKind.signed, IntKind.bits]
        omega
      have C12 := hide (HS.out.send (i := i) (by omega) hq (by omega))
      have hI : I64 (1000 * (i : Int)) := by unfold I64; omega
      have HII := hide hI
      clear hI
      by_cases hdone : (lt : Int) ≤ (sent : Int)
      · simp only [if_pos hdone] at C12
        have hq8 : ((q : Int) == 8) = false := by simp; omega
        go_wp2_with (first
          | (go_at_call 12; go_must ((with_reducible refine C12.out.mono ?_); rintro e w4 ⟨rfl, hN4⟩; have HN4 := hide hN4; have C21 := hide (hN4.open (by omega)); clear hN4))
          | (go_at_call 13; (with_reducible refine (num_any 32 w4).mono ?_); rintro e w5 ⟨rfl, hw⟩; have hw' : w4 = w5 := hw.symm; subst hw')
          | (go_at_call 21; go_must ((with_reducible refine C21.out.mono ?_); rintro e w5 ⟨rfl, hb5⟩; have HN5 := hide (HN4.out.below hb5); clear hb5)))
        go_roundw
        case rel => exact ⟨i + 1, sent, q, by omega, hsl, hq, rfl, by go_num, HN5⟩
        case measure => simp [intOf]; omega
      · simp only [if_neg hdone] at C12
        by_cases hq7 : q + 1 < 8
        · have hqa : ¬ (8 : Int) ≤ ((q + 1 : Nat) : Int) := by omega
          have hq8 : (((q + 1 : Nat) : Int) == 8) = false := by simp; omega
          obtain ⟨q1, hq1⟩ : ∃ q1, q1 = q + 1 := ⟨_, rfl⟩
          rw [← hq1] at C12 hqa hq8
          have HQ1 := hide hq1
          clear hq1
          go_wp2_with (first
            | (go_at_call 12; go_must ((with_reducible refine C12.out.mono ?_); rintro e w4 ⟨rfl, hN4⟩; have HN4 := hide hN4; have C21 := hide (hN4.open (by omega)); clear hN4))
            | (go_at_call 21; (with_reducible refine C21.out.mono ?_); rintro e w5 ⟨rfl, hb5⟩; have HN5 := hide (HN4.out.below hb5); have C21b := hide (HN5.out.open (by omega)); clear hb5)
            | (go_at_call 13; (with_reducible refine (num_any 0 w5).mono ?_); rintro e w6 ⟨rfl, hw⟩; have hw' : w5 = w6 := hw.symm; subst hw')
            | (go_at_call 21; go_must ((with_reducible refine C21b.out.mono ?_); rintro e w6 ⟨rfl, hb6⟩; have HN6 := hide (HN5.out.below hb6); clear hb6)))
          go_roundw
          case rel => exact ⟨i + 1, sent + 1, q1, by omega, by omega, by have := HQ1.out; omega, by go_num, by go_num, HN6⟩
          case measure => simp [intOf]; omega
        · obtain rfl : q = 7 := by omega
          simp only [Nat.reduceAdd] at C12
          go_upto_region 22 with (first
            | (go_at_call 12; go_must ((with_reducible refine C12.out.mono ?_); rintro e w4 ⟨rfl, hN4⟩; have HN4 := hide hN4; have C21 := hide (hN4.open (by omega)); clear hN4))
            | (go_at_call 21; (with_reducible refine C21.out.mono ?_); rintro e w5 ⟨rfl, hb5⟩; have HN5 := hide (HN4.out.below hb5); have C21b := hide (HN5.out.open (by omega)); clear hb5)
            | (go_at_call 13; (with_reducible refine (num_any 0 w5).mono ?_); rintro e w6 ⟨rfl, hw⟩; have hw' : w5 = w6 := hw.symm; subst hw')
            | (go_at_call 21; (with_reducible refine C21b.out.mono ?_); rintro e w6 ⟨rfl, hb6⟩; have HN6 := hide (HN5.out.below hb6); have C15 := hide (HN6.out.out (by omega) HII.out); clear hb6)
            | (go_at_call 15; go_must ((with_reducible refine C15.out.mono ?_); rintro e w7 ⟨a7, c7, rfl, hN7⟩; have HN7 := hide hN7; clear hN7)))
          go_wp2_with fail
          go_loopw [13] (fun kv wk => ∃ k : Nat, k ≤ 8 ∧ kv = .int .i64 (k : Nat) ∧ Hid (NB w wk ga gb (lt : Int) (sent + 1) w6.heap.size a7 c7 k)) (fun kv _ => 8 - (intOf kv).toNat)
          case atStart => exact ⟨0, Nat.zero_le _, by go_num, HN7⟩
          case round =>
            obtain ⟨k, hk, rfl, HB⟩ := hrel
            by_cases hk8 : k < 8
            · obtain ⟨b, hab⟩ := HB.out.at
              subst hab
              obtain ⟨x0, x1, x2, x3, x4, x5, y0, y1, y2, y3, y4, y5, hC⟩ := HB.out.next (by omega) hk8
              have C18 := hide hC
              clear hC
              have hki : (k : Int) < 8 := by omega
              go_wp2_with (go_at_call 18; go_must ((with_reducible refine C18.out.mono ?_); rintro e w8 ⟨b8, m8, d8, r8, rfl, hN8⟩; have HN8 := hide hN8; clear hN8))
              go_roundw
              case rel => exact ⟨k + 1, by omega, by go_num, HN8⟩
              case measure => simp [intOf]; omega
            · obtain rfl : k = 8 := by omega
              have C15b := hide (HB.out.out (by omega) HII.out)
              go_upto_region 27 with (go_at_call 15; go_must ((with_reducible refine C15b.out.mono ?_); rintro e w9 ⟨a9, c9, rfl, hN9⟩; have HN9 := hide hN9; clear hN9))
              go_wp2_with fail
              go_loopw [15] (fun kv wk => ∃ k : Nat, k ≤ 1 ∧ kv = .int .i64 (k : Nat) ∧ Hid (NA w wk ga gb (lt : Int) (sent + 1) wr.heap.size a9 c9 k)) (fun kv _ => 1 - (intOf kv).toNat)
              case atStart => exact ⟨0, Nat.zero_le _, by go_num, HN9⟩
              case round =>
                obtain ⟨k, hk, rfl, HA⟩ := hrel
                by_cases hk1 : k < 1
                · obtain rfl : k = 0 := by omega
                  obtain ⟨b, hab⟩ := HA.out.at
                  subst hab
                  obtain ⟨x0, x1, x2, x3, x4, x5, y0, y1, y2, y3, y4, y5, hC⟩ := HA.out.next (by omega)
                  have C18 := hide hC
                  clear hC
                  go_wp2_with (go_at_call 18; go_must ((with_reducible refine C18.out.mono ?_); rintro e w8 ⟨b8, m8, d8, r8, rfl, hN8⟩; have HN8 := hide hN8; clear hN8))
                  go_roundw
                  case rel => exact ⟨1, by omega, by go_num, HN8⟩
                  case measure => simp [intOf]
                · obtain rfl : k = 1 := by omega
                  have HE := hide HA.out.end
                  have C21c := hide (HE.out.open (by omega))
                  go_wp2_with (go_at_call 21; go_must ((with_reducible refine C21c.out.mono ?_); rintro e w8 ⟨rfl, hb8⟩; have HN8 := hide (HE.out.below hb8); clear hb8))
                  go_roundw
                  case rel => exact ⟨i + 1, sent + 1, 0, by omega, by omega, by omega, by go_num, by go_num, HN8⟩
                  case measure => simp [intOf]; omega
    · obtain rfl : i = n := by omega
      have C23 := hide HS.out.seq
      have HB := hide (show Below w.heap.size w wr from by obtain ⟨_, _, _, _, _, _, _, h⟩ := HS.out; exact h.2)
      go_wp2_with (go_at_call 23; go_must ((with_reducible refine C23.out.mono ?_); rintro e w5 ⟨rfl, hw⟩; have hw' : wr = w5 := hw.symm; subst hw'))
      go_ret
      exact ⟨rfl, HB.out⟩
set_option maxRecDepth 100000 in
set_option maxHeartbeats 1000000 in
theorem walk_skip (lt n : Int) (w : World) (h : lt < 0 ∨ 50 < lt ∨ n < 0 ∨ 100 < n) : Calls Try.prog 5 #[.int .i64 lt, .int .i64 n] w fun e w' => e = .returned (.bool true) ∧ Below w.heap.size w w' := by
  by_cases h1 : lt < 0
  · clear h
    go_enter Try.func5, Try.ntmps5
    go_wp2_with (go_at_call 9; go_must ((with_reducible refine (alive_any w).mono ?_); rintro e w1 ⟨rfl, hb1⟩))
    go_ret
    exact ⟨rfl, hb1⟩
  · by_cases h2 : 50 < lt
    · clear h
      go_enter Try.func5, Try.ntmps5
      go_wp2_with (go_at_call 9; go_must ((with_reducible refine (alive_any w).mono ?_); rintro e w1 ⟨rfl, hb1⟩))
      go_ret
      exact ⟨rfl, hb1⟩
    · by_cases h3 : n < 0
      · clear h
        go_enter Try.func5, Try.ntmps5
        go_wp2_with (go_at_call 9; go_must ((with_reducible refine (alive_any w).mono ?_); rintro e w1 ⟨rfl, hb1⟩))
        go_ret
        exact ⟨rfl, hb1⟩
      · have h4 : 100 < n := by omega
        clear h
        go_enter Try.func5, Try.ntmps5
        go_wp2_with (go_at_call 9; go_must ((with_reducible refine (alive_any w).mono ?_); rintro e w1 ⟨rfl, hb1⟩))
        go_ret
        exact ⟨rfl, hb1⟩
/-- LinkNumbers answers true for every input. -/
theorem walk (x0 x1 : Int) (W : World) (_h0 : -9223372036854775808 ≤ x0 ∧ x0 ≤ 9223372036854775807) (_h1 : -9223372036854775808 ≤ x1 ∧ x1 ≤ 9223372036854775807) : Calls Try.prog 5 #[.int .i64 x0, .int .i64 x1] W fun e w' => e = .returned (.bool true) ∧ Below W.heap.size W w' := by
  by_cases h : x0 < 0 ∨ 50 < x0 ∨ x1 < 0 ∨ 100 < x1
  · exact walk_skip x0 x1 W h
  · obtain ⟨lt, rfl⟩ : ∃ n : Nat, x0 = (n : Int) := ⟨x0.toNat, by omega⟩
    obtain ⟨n, rfl⟩ : ∃ n : Nat, x1 = (n : Int) := ⟨x1.toNat, by omega⟩
    exact walk_main lt n W (by omega) (by omega)
end linkNumbers
end Go.Proofs.Ytofigofaiadffaa
