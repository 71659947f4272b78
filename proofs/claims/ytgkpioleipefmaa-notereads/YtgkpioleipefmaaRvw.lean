/- gleanerref10.view. -/
import Derived.Test.YtgkpioleipefmaaVieW
namespace Go.Proofs.Ytgkpioleipefmaa
open Go.RowKit Go.ChangeShapes Go.WideShapes Go.ChangeAt Go.Deep
open noteViews

theorem vOk_next (ep : Int) (mem : List (Int × Int)) (k j : Nat) (hj : k = j + 1) (hkp : j < mem.length) (hka : k < mem.length) : vOk ep mem (k + 1) = (vOk ep mem k && (okN 15 mem[k].1 && okNum mem[k].2 && decide (mem[j].1 < mem[k].1))) := by
  subst hj
  rw [vOk_step ep mem (j + 1) hka, last_some mem j hkp]
set_option maxRecDepth 100000 in
set_option maxHeartbeats 16000000 in
theorem rview_any (ep : Int) (mem : List (Int × Int)) (a : Option Addr) (l c : Nat) (w : World) (hl : mem.length = l) (hr : Reads w a (mV mem)) :
    Calls Try.prog 46 #[.agg #[.int .i64 ep, .slice a l c]] w fun e w' => e = .returned (.bool (okView ep mem)) ∧ Below w.heap.size w w' := by
  obtain ⟨R, hR⟩ : ∃ R, R = okView ep mem := ⟨_, rfl⟩
  rw [← hR]
  have HR := hide hR
  clear hR
  have HX0 := hide (BoxL.new w [.int .i64 ep, .slice a l c] 29)
  have HB0 := hide (below_new w (.cells #[.int .i64 ep, .slice a l c] 29))
  obtain ⟨V, hV⟩ : ∃ V, V = w.alloc (.cells #[.int .i64 ep, .slice a l c] 29) := ⟨_, rfl⟩
  have HX := hide (show BoxL V w.heap.size [.int .i64 ep, .slice a l c] by rw [hV]; exact HX0.out)
  have HB := hide (show Below w.heap.size w V by rw [hV]; exact HB0.out)
  have HV := hide hV
  clear hV HX0 HB0
  have C0 := hide (fun W => rnum_any ep W)
  cases hn : okN 2147483647 ep with
  | false =>
    have HF := hide (show R = false by rw [HR.out]; unfold okView okNum; rw [hn]; simp)
    rw [hn] at C0
    go_enter Try.func46, Try.ntmps46
    go_wp2_with (go_at_call 44; go_must ((with_reducible refine (C0.out _).mono ?_); rintro e w1 ⟨rfl, rfl⟩))
    go_ret
    exact ⟨by rw [HF.out]; rfl, by rw [← HV.out]; exact HB.out⟩
  | true =>
    rw [hn] at C0
    by_cases h16 : 16 < l
    · have HF := hide (show R = false by rw [HR.out]; unfold okView; rw [show decide (mem.length ≤ 16) = false by simp; omega]; simp)
      go_enter Try.func46, Try.ntmps46
      go_wp2_with (go_at_call 44; go_must ((with_reducible refine (C0.out _).mono ?_); rintro e w1 ⟨rfl, rfl⟩))
      go_ret
      exact ⟨by rw [HF.out]; rfl, by rw [← HV.out]; exact HB.out⟩
    · have HS0 := hide (show vOk ep mem 0 = true by rw [vOk_zero]; unfold okNum; rw [hn]; simp; omega)
      go_enter Try.func46, Try.ntmps46
      go_wp2_with (go_at_call 44; go_must ((with_reducible refine (C0.out _).mono ?_); rintro e w1 ⟨rfl, rfl⟩))
      rw [← HV.out]
      clear C0
      go_loopw [3] (fun i wr => Hid (Below V.heap.size V wr) ∧ ∃ (k : Nat), k ≤ l ∧ i = .int .i64 (k : Nat) ∧ Hid (vOk ep mem k = true)) (fun i _ => l - (intOf i).toNat)
      case atStart => exact ⟨hide (Below.refl _ _), 0, Nat.zero_le _, rfl, HS0⟩
      case round =>
        obtain ⟨hbw, k, hk, rfl, hb⟩ := hrel
        have HBW := hide (HB.out.trans (hbw.out.mono HB.out.size))
        obtain ⟨⟨c0, -⟩, ⟨c1, -⟩⟩ := (HX.out.below hbw.out).c2
        by_cases hlt : k < l
        · have hka : k < mem.length := by omega
          obtain ⟨cb, off, har, y0, y1⟩ := mem_at (hr.below HBW.out) hka
          have hlt' : (k : Int) < (l : Int) := by omega
          have HST := hide (vOk_step ep mem k hka)
          have hwl : w.heap.size < wr.heap.size := cell_some_lt c0
          have hyl' : cb < wr.heap.size := cell_some_lt y0
          by_cases hk0 : k = 0
          · subst hk0
            rw [last_zero] at HST
            generalize mem[0] = x at y0 y1 HST
            obtain ⟨x0, x1⟩ := x
            simp only [Nat.zero_mul, Nat.add_zero] at y0 y1 HST
            subst har
            have C43 := fun W => node_any x0 W
            have C44 := fun W => rnum_any x1 W
            cases a0 : okN 15 x0 with
            | false =>
              rw [a0] at C43
              have HF := hide (show R = false from by
                rw [HR.out]
                exact Bool.eq_false_iff.2 (fun h => by have h1 := vOk_true h (k := 0 + 1) (by omega); rw [HST.out] at h1; simp only [Bool.and_eq_true] at h1; rw [a0] at h1; simp at h1))
              clear HST
              go_wp2_with fail
              go_big_quiet (first | (go_at_call 43; with_reducible exact Calls.quiet_of_same (C43 _)) | (go_at_call 44; with_reducible exact Calls.quiet_of_same (C44 _)))
              go_wp2
              go_ret
              exact ⟨by rw [HF.out]; rfl, below_drewN (HBW.out.alloc HBW.out.size _) _⟩
            | true =>
              rw [a0] at C43
              cases a1 : okN 2147483647 x1 with
              | false =>
                rw [a1] at C44
                have HF := hide (show R = false from by
                  rw [HR.out]
                  exact Bool.eq_false_iff.2 (fun h => by have h1 := vOk_true h (k := 0 + 1) (by omega); rw [HST.out] at h1; simp only [Bool.and_eq_true] at h1; have a1' : okNum x1 = false := a1; rw [a1'] at h1; simp at h1))
                clear HST
                go_wp2_with fail
                go_big_quiet (first | (go_at_call 43; with_reducible exact Calls.quiet_of_same (C43 _)) | (go_at_call 44; with_reducible exact Calls.quiet_of_same (C44 _)))
                go_wp2
                go_ret
                exact ⟨by rw [HF.out]; rfl, below_drewN (HBW.out.alloc HBW.out.size _) _⟩
              | true =>
                rw [a1] at C44
                have a1' : okNum x1 = true := a1
                have HN := hide (show vOk ep mem (0 + 1) = true by rw [HST.out, hb.out]; simp [*])
                clear HST
                go_wp2_with fail
                go_big_quiet (first | (go_at_call 43; with_reducible exact Calls.quiet_of_same (C43 _)) | (go_at_call 44; with_reducible exact Calls.quiet_of_same (C44 _)))
                go_wp2_with fail
                go_roundw
                case rel => exact ⟨hide (below_drewN (hbw.out.alloc hbw.out.size _) _), 0 + 1, by omega, by go_num, HN⟩
                case measure => simp [intOf]; omega
          · obtain ⟨j, hj⟩ : ∃ j, k = j + 1 := ⟨k - 1, by omega⟩
            have hkp : j < mem.length := by omega
            obtain ⟨cb', off', har', p0, p1⟩ := mem_at (hr.below HBW.out) hkp
            have HST := hide (vOk_next ep mem k j hj hkp hka)
            generalize mem[k] = x at y0 y1 HST
            generalize mem[j] = y at p0 p1 HST
            obtain ⟨x0, x1⟩ := x
            obtain ⟨z0, z1⟩ := y
            simp only at y0 y1 p0 p1 HST
            subst har
            simp only [Option.some.injEq, Addr.mk.injEq, and_true] at har'
            obtain ⟨rfl, rfl⟩ := har'
            have hi1 : (k : Int) - 1 = (j : Int) := by omega
            have hkn : 0 < k := by omega
            have hkz : (0 : Int) < (k : Int) := by omega
            have hjl : (j : Int) < (l : Int) := by omega
            have HJ := hide hj
            clear hj
            have C43 := fun W => node_any x0 W
            have C44 := fun W => rnum_any x1 W
            cases a0 : okN 15 x0 with
            | false =>
              rw [a0] at C43
              have HF := hide (show R = false from by
                rw [HR.out]
                exact Bool.eq_false_iff.2 (fun h => by have h1 := vOk_true h (k := k + 1) (by omega); rw [HST.out] at h1; simp only [Bool.and_eq_true] at h1; rw [a0] at h1; simp at h1))
              clear HST
              go_wp2_with fail
              go_big_quiet (first | (go_at_call 43; with_reducible exact Calls.quiet_of_same (C43 _)) | (go_at_call 44; with_reducible exact Calls.quiet_of_same (C44 _)))
              go_wp2
              go_ret
              exact ⟨by rw [HF.out]; rfl, below_drewN (HBW.out.alloc HBW.out.size _) _⟩
            | true =>
              rw [a0] at C43
              cases a1 : okN 2147483647 x1 with
              | false =>
                rw [a1] at C44
                have HF := hide (show R = false from by
                  rw [HR.out]
                  exact Bool.eq_false_iff.2 (fun h => by have h1 := vOk_true h (k := k + 1) (by omega); rw [HST.out] at h1; simp only [Bool.and_eq_true] at h1; have a1' : okNum x1 = false := a1; rw [a1'] at h1; simp at h1))
                clear HST
                go_wp2_with fail
                go_big_quiet (first | (go_at_call 43; with_reducible exact Calls.quiet_of_same (C43 _)) | (go_at_call 44; with_reducible exact Calls.quiet_of_same (C44 _)))
                go_wp2
                go_ret
                exact ⟨by rw [HF.out]; rfl, below_drewN (HBW.out.alloc HBW.out.size _) _⟩
              | true =>
                rw [a1] at C44
                have a1' : okNum x1 = true := a1
                by_cases a2 : z0 < x0
                · have a2' : decide (x0 ≤ z0) = false := decide_eq_false (by omega)
                  have HN := hide (show vOk ep mem (k + 1) = true by rw [HST.out, hb.out]; simp [*])
                  clear HST
                  go_wp2_with fail
                  go_big_quiet (first | (go_at_call 43; with_reducible exact Calls.quiet_of_same (C43 _)) | (go_at_call 44; with_reducible exact Calls.quiet_of_same (C44 _)))
                  go_wp2_with fail
                  go_roundw
                  case rel => exact ⟨hide (below_drewN (hbw.out.alloc hbw.out.size _) _), k + 1, by omega, by go_num, HN⟩
                  case measure => simp [intOf]; omega
                · have a2' : x0 ≤ z0 := by omega
                  have HF := hide (show R = false from by
                    rw [HR.out]
                    exact Bool.eq_false_iff.2 (fun h => by have h1 := vOk_true h (k := k + 1) (by omega); rw [HST.out] at h1; simp only [Bool.and_eq_true] at h1; have h2 := h1.2.2; simp at h2; omega))
                  clear HST
                  go_wp2_with fail
                  go_big_quiet (first | (go_at_call 43; with_reducible exact Calls.quiet_of_same (C43 _)) | (go_at_call 44; with_reducible exact Calls.quiet_of_same (C44 _)))
                  go_wp2
                  go_ret
                  exact ⟨by rw [HF.out]; rfl, below_drewN (HBW.out.alloc HBW.out.size _) _⟩
        · have HF := hide (show R = true by rw [HR.out, ← vOk_all ep mem (k := k) (by omega)]; exact hb.out)
          have hlt' : ¬ (k : Int) < (l : Int) := by omega
          clear hb
          go_wp2
          go_ret
          exact ⟨by rw [HF.out]; rfl, HBW.out⟩

end Go.Proofs.Ytgkpioleipefmaa
