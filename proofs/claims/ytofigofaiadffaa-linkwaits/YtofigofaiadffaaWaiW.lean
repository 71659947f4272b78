/- LinkWaits answers true. -/
import Derived.Test.YtofigofaiadffaaAlv
namespace Go.Proofs.Ytofigofaiadffaa
namespace linkWaits
open Go.RowKit Go.ChangeShapes Go.WideShapes Go.ChangeAt Go.Deep

/-- The link with its one load. -/
def sW (tm wt : Int) : Lk := { newL 0 1 1 1 10 with op := [⟨[120], tm, wt⟩] }
theorem sW_out (tm wt t : Int) : (outF (sW tm wt) t).length = (if dueB ⟨[120], tm, wt⟩ t then 1 else 0) ∧ outL (sW tm wt) t = (if dueB ⟨[120], tm, wt⟩ t then sW t (min (max 4 (2 * wt)) 64) else sW tm wt) := by
  have h1 : (sW tm wt).op = [⟨[120], tm, wt⟩] := rfl
  have h2 : (sW tm wt).owed = false := rfl
  cases hd : dueB ⟨[120], tm, wt⟩ t <;> simp [outF, outP, outL, dueF, dueO, hd, goO, h1, h2] <;> simp [sW, newL]
/-- What the law's two numbers tell of the load. -/
def WS (_start t next wait : Int) (s : Lk) : Prop := ∃ tm wt, s = sW tm wt ∧ t ≤ next ∧ next ≤ t + 64 ∧ (wait = 4 ∨ wait = 8 ∨ wait = 16 ∨ wait = 32 ∨ wait = 64) ∧ wait = min (max 4 (2 * wt)) 64 ∧ 0 ≤ wt ∧ wt ≤ 64 ∧ ((wt = 0 ∧ next = t) ∨ (0 < wt ∧ next = tm + wt))
theorem WS.yes {start t wait : Int} {s : Lk} (h : WS start t t wait s) : (outF s t).length = 1 ∧ WS start (t + 1) (t + wait) (if wait < 64 then 2 * wait else wait) (outL s t) := by
  obtain ⟨tm, wt, rfl, h1, h2, h3, h4, h5, h6, h7⟩ := h
  obtain ⟨e1, e2⟩ := sW_out tm wt t
  have hd : dueB ⟨[120], tm, wt⟩ t = true := by unfold dueB; simp; omega
  rw [hd] at e1 e2
  refine ⟨e1, t, min (max 4 (2 * wt)) 64, e2, by omega, by omega, ?_, ?_, by omega, by omega, .inr ⟨by omega, by omega⟩⟩
  · split <;> omega
  · split <;> omega
theorem WS.no {start t next wait : Int} {s : Lk} (h : WS start t next wait s) (hn : t ≠ next) : (outF s t).length = 0 ∧ WS start (t + 1) next wait (outL s t) := by
  obtain ⟨tm, wt, rfl, h1, h2, h3, h4, h5, h6, h7⟩ := h
  obtain ⟨e1, e2⟩ := sW_out tm wt t
  have hd : dueB ⟨[120], tm, wt⟩ t = false := by unfold dueB; simp; omega
  rw [hd] at e1 e2
  exact ⟨e1, tm, wt, e2, by omega, by omega, h3, h4, h5, h6, .inr ⟨by omega, by omega⟩⟩
theorem WS.used {start t next wait : Int} {s : Lk} (h : WS start t next wait s) : s.used ≤ 1000000 ∧ s.op.length = 1 := by
  obtain ⟨tm, wt, rfl, _⟩ := h
  exact ⟨by simp [sW, Lk.used, newL], rfl⟩

set_option linter.unusedSimpArgs false in
set_option maxRecDepth 100000 in
set_option maxHeartbeats 4000000 in
theorem walk_main (start ticks : Int) (w : World) (h1 : 0 ≤ start) (h2 : start ≤ 1099511627776) (h3 : 0 ≤ ticks) (h4 : ticks ≤ 400) :
    Calls Try.prog 7 #[.int .i64 start, .int .i64 ticks] w fun e w' => e = .returned (.bool true) ∧ Below w.heap.size w w' := by
  obtain ⟨s0, hs0⟩ : ∃ s, s = newL 0 1 1 1 10 := ⟨_, rfl⟩
  have HE := hide (show sendE s0 [120] = 0 from by rw [hs0]; rfl)
  have HS := hide (show WS start start start 4 (sendL s0 [120]) from ⟨0, 0, by rw [hs0]; rfl, by omega, by omega, by omega, by omega, by omega, by omega, .inl ⟨rfl, rfl⟩⟩)
  have U0 := hide (show s0.used ≤ 1000000 from by rw [hs0]; decide)
  have C11 := hide (fun W hb => newB w W hb 0 1 1 1 10)
  rw [← hs0] at C11
  clear hs0
  have kc := kconst
  go_enter Try.func7, Try.ntmps7
  go_wp2_with (first
    | (go_at_call 9; go_must ((with_reducible refine (alive_any w).mono ?_); rintro e w0 ⟨rfl, hb0⟩; have C11' := hide (C11.out w0 hb0); clear hb0))
    | (go_at_call 11; go_must ((with_reducible refine C11'.out.mono ?_); rintro e w1 ⟨g, rfl, hL1, hg⟩; have C12 := hide (show Calls Try.prog 12 #[.pointer (some ⟨g, 0, none⟩), .slice (some ⟨w1.heap.size, 0, none⟩) 1 1] (w1.alloc (.cells #[.int .u8 120] 5 (1, 2))) _ from sendB w _ g s0 (some ⟨w1.heap.size, 0, none⟩) 1 1 [120] (hL1.below (below_new _ _)) U0.out rfl (by intro x hx; simp at hx; omega) (one_byte w1 120) (fun e => by cases e) (fun ad e _ => by cases e; obtain ⟨⟨D, h1, _⟩, _⟩ := hL1; have := h1.lt g h1.dg; show w1.heap.size ≠ g; omega)); rw [HE.out] at C12; clear hL1))
    | (go_at_call 12; go_must ((with_reducible refine C12.out.mono ?_); rintro e w2 ⟨rfl, hL2⟩; have HL2 := hide hL2; clear hL2)))
  go_loopw [7, 8, 9] (fun nx wa tv wr => ∃ (t next wait : Int), start ≤ t ∧ t ≤ start + ticks ∧ t ≤ next ∧ next ≤ t + 64 ∧ 4 ≤ wait ∧ wait ≤ 64 ∧ nx = .int .i64 next ∧ wa = .int .i64 wait ∧ tv = .int .i64 t ∧ Hid (∃ s, WS start t next wait s ∧ LB w wr g s)) (fun _ _ tv _ => (start + ticks - intOf tv).toNat)
  case atStart => exact ⟨start, start, 4, by omega, by omega, by omega, by omega, by omega, by omega, rfl, rfl, rfl, hide ⟨_, HS.out, HL2.out⟩⟩
  case round =>
    obtain ⟨t, next, wait, ht1, ht2, hn1, hn2, hw1, hw2, rfl, rfl, rfl, HR⟩ := hrel
    obtain ⟨s, hWS, hLB⟩ := HR.out
    by_cases hlt : t < start + ticks
    · have C15 := hide (outB w wr g s t hLB hWS.used.1 (by unfold I64; omega))
      by_cases he : t = next
      · subst he
        have HY := hide hWS.yes
        rw [HY.out.1] at C15
        clear hWS hLB
        by_cases h64 : wait < 64
        · have hd : decide (wait < 64) = true := by simpa using h64
          have HY2 := hide HY.out.2
          rw [if_pos h64] at HY2
          go_wp2_with (go_at_call 15; go_must ((with_reducible refine C15.out.mono ?_); rintro e w3 ⟨a3, c3, rfl, -, hL3, -⟩; have HL3 := hide hL3; clear hL3))
          go_roundw
          case rel => exact ⟨t + 1, t + wait, 2 * wait, by omega, by omega, by omega, by omega, by omega, by have := HY2.out; unfold WS at this; omega, rfl, rfl, by go_num, hide ⟨_, HY2.out, HL3.out⟩⟩
          case measure => simp [intOf]; omega
        · have HY2 := hide HY.out.2
          rw [if_neg h64] at HY2
          go_wp2_with (go_at_call 15; go_must ((with_reducible refine C15.out.mono ?_); rintro e w3 ⟨a3, c3, rfl, -, hL3, -⟩; have HL3 := hide hL3; clear hL3))
          go_roundw
          case rel => exact ⟨t + 1, t + wait, wait, by omega, by omega, by omega, by omega, by omega, by omega, rfl, rfl, by go_num, hide ⟨_, HY2.out, HL3.out⟩⟩
          case measure => simp [intOf]; omega
      · have HY := hide (hWS.no he)
        rw [HY.out.1] at C15
        have q0 : (t == next) = false := by simpa using he
        clear hWS hLB
        go_wp2_with (go_at_call 15; go_must ((with_reducible refine C15.out.mono ?_); rintro e w3 ⟨a3, c3, rfl, -, hL3, -⟩; have HL3 := hide hL3; clear hL3))
        go_roundw
        case rel => exact ⟨t + 1, next, wait, by omega, by omega, by omega, by omega, by omega, by omega, rfl, rfl, by go_num, hide ⟨_, HY.out.2, HL3.out⟩⟩
        case measure => simp [intOf]; omega
    · have C21 := hide (openB w wr g s hLB hWS.used.1)
      rw [hWS.used.2] at C21
      have HB := hide hLB.2
      clear hWS hLB
      go_wp2_with (go_at_call 21; go_must ((with_reducible refine C21.out.mono ?_); rintro e w3 ⟨rfl, hb3⟩; have HB3 := hide (HB.out.trans (hb3.mono HB.out.size)); clear hb3))
      go_ret
      exact ⟨rfl, HB3.out⟩
set_option maxRecDepth 100000 in
set_option maxHeartbeats 1000000 in
theorem walk_skip (start ticks : Int) (w : World) (h : start < 0 ∨ 1099511627776 < start ∨ ticks < 0 ∨ 400 < ticks) : Calls Try.prog 7 #[.int .i64 start, .int .i64 ticks] w fun e w' => e = .returned (.bool true) ∧ Below w.heap.size w w' := by
  by_cases h1 : start < 0
  · clear h
    go_enter Try.func7, Try.ntmps7
    go_wp2_with (go_at_call 9; go_must ((with_reducible refine (alive_any w).mono ?_); rintro e w1 ⟨rfl, hb1⟩))
    go_ret
    exact ⟨rfl, hb1⟩
  · by_cases h2 : 1099511627776 < start
    · clear h
      go_enter Try.func7, Try.ntmps7
      go_wp2_with (go_at_call 9; go_must ((with_reducible refine (alive_any w).mono ?_); rintro e w1 ⟨rfl, hb1⟩))
      go_ret
      exact ⟨rfl, hb1⟩
    · by_cases h3 : ticks < 0
      · clear h
        go_enter Try.func7, Try.ntmps7
        go_wp2_with (go_at_call 9; go_must ((with_reducible refine (alive_any w).mono ?_); rintro e w1 ⟨rfl, hb1⟩))
        go_ret
        exact ⟨rfl, hb1⟩
      · have h4 : 400 < ticks := by omega
        clear h
        go_enter Try.func7, Try.ntmps7
        go_wp2_with (go_at_call 9; go_must ((with_reducible refine (alive_any w).mono ?_); rintro e w1 ⟨rfl, hb1⟩))
        go_ret
        exact ⟨rfl, hb1⟩
/-- LinkWaits answers true for every input. -/
theorem walk (x0 x1 : Int) (W : World) (_h0 : -9223372036854775808 ≤ x0 ∧ x0 ≤ 9223372036854775807) (_h1 : -9223372036854775808 ≤ x1 ∧ x1 ≤ 9223372036854775807) : Calls Try.prog 7 #[.int .i64 x0, .int .i64 x1] W fun e w' => e = .returned (.bool true) ∧ Below W.heap.size W w' := by
  by_cases h : x0 < 0 ∨ 1099511627776 < x0 ∨ x1 < 0 ∨ 400 < x1
  · exact walk_skip x0 x1 W h
  · exact walk_main x0 x1 W (by omega) (by omega) (by omega) (by omega)
end linkWaits
end Go.Proofs.Ytofigofaiadffaa
