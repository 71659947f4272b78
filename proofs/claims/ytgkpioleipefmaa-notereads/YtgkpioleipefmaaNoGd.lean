/- gleanerref10.SameNote. -/
import Derived.Test.YtgkpioleipefmaaNoH
namespace Go.Proofs.Ytgkpioleipefmaa
open Go.RowKit Go.ChangeShapes Go.WideShapes Go.ChangeAt Go.Deep

set_option maxRecDepth 100000 in
set_option maxHeartbeats 16000000 in
theorem sameNote_fa (k1 nd1 lf1 ep1 fn1 er1 va1 ve1 : Int) (s1 : ByteArray) (aa1 ma1 aa2 ma2 : Option Addr) (al1 ac1 ml1 mc1 al2 ac2 mc2 : Nat) (w : World) (CS : Hid (∀ W, Below w.heap.size w W → Calls Try.prog 27 #[.slice aa1 al1 ac1, .slice aa2 al2 ac2] W fun e w' => e = .returned (.bool false) ∧ Below W.heap.size W w')) : Calls Try.prog 14 #[.agg #[.int .i64 k1, .int .i64 nd1, .int .i64 lf1, .int .i64 ep1, .string s1, .int .i64 fn1, .slice aa1 al1 ac1, .int .i64 er1, .int .i64 va1, .int .i64 ve1, .slice ma1 ml1 mc1], .agg #[.int .i64 k1, .int .i64 nd1, .int .i64 lf1, .int .i64 ep1, .string s1, .int .i64 fn1, .slice aa2 al2 ac2, .int .i64 er1, .int .i64 va1, .int .i64 ve1, .slice ma2 ml1 mc2]] w fun e w' => e = .returned (.bool false) ∧ Below w.heap.size w w' := by
  obtain ⟨hx1, hx2, hx3, hx4⟩ := box2 w [.int .i64 k1, .int .i64 nd1, .int .i64 lf1, .int .i64 ep1, .string s1, .int .i64 fn1, .slice aa1 al1 ac1, .int .i64 er1, .int .i64 va1, .int .i64 ve1, .slice ma1 ml1 mc1] [.int .i64 k1, .int .i64 nd1, .int .i64 lf1, .int .i64 ep1, .string s1, .int .i64 fn1, .slice aa2 al2 ac2, .int .i64 er1, .int .i64 va1, .int .i64 ve1, .slice ma2 ml1 mc2] 31 31
  obtain ⟨V, hV⟩ : ∃ V, V = (w.alloc (.cells #[.int .i64 k1, .int .i64 nd1, .int .i64 lf1, .int .i64 ep1, .string s1, .int .i64 fn1, .slice aa1 al1 ac1, .int .i64 er1, .int .i64 va1, .int .i64 ve1, .slice ma1 ml1 mc1] 31)).alloc (.cells #[.int .i64 k1, .int .i64 nd1, .int .i64 lf1, .int .i64 ep1, .string s1, .int .i64 fn1, .slice aa2 al2 ac2, .int .i64 er1, .int .i64 va1, .int .i64 ve1, .slice ma2 ml1 mc2] 31) := ⟨_, rfl⟩
  have HX := hide (show BoxL V w.heap.size [.int .i64 k1, .int .i64 nd1, .int .i64 lf1, .int .i64 ep1, .string s1, .int .i64 fn1, .slice aa1 al1 ac1, .int .i64 er1, .int .i64 va1, .int .i64 ve1, .slice ma1 ml1 mc1] by rw [hV]; exact hx1)
  have HY := hide (show BoxL V (w.heap.size + 1) [.int .i64 k1, .int .i64 nd1, .int .i64 lf1, .int .i64 ep1, .string s1, .int .i64 fn1, .slice aa2 al2 ac2, .int .i64 er1, .int .i64 va1, .int .i64 ve1, .slice ma2 ml1 mc2] by rw [hV]; exact hx2)
  have HB := hide (show Below w.heap.size w V by rw [hV]; exact hx3)
  have HV := hide hV
  clear hx1 hx2 hx3 hx4 hV
  clear HX HY
  go_enter Try.func14, Try.ntmps14
  go_wp2_with (go_at_call 27; go_must (rw [← HV.out]; (with_reducible refine (CS.out V HB.out).mono ?_); rintro e w1 ⟨rfl, hb1⟩))
  go_ret
  exact ⟨rfl, HB.out.trans (hb1.mono HB.out.size)⟩

set_option maxRecDepth 100000 in
set_option maxHeartbeats 16000000 in
theorem sameNote_lp (k1 nd1 lf1 ep1 fn1 er1 va1 ve1 : Int) (s1 : ByteArray) (aa1 ma1 aa2 ma2 : Option Addr) (al1 ac1 ml1 mc1 al2 ac2 mc2 : Nat) (mem1 mem2 : List (Int × Int)) (w : World) (hm1 : mem1.length = ml1) (hm2 : mem2.length = ml1) (hmm : ml1 ≤ 20000) (rm1 : Reads w ma1 (mV mem1)) (rm2 : Reads w ma2 (mV mem2)) (CS : Hid (∀ W, Below w.heap.size w W → Calls Try.prog 27 #[.slice aa1 al1 ac1, .slice aa2 al2 ac2] W fun e w' => e = .returned (.bool true) ∧ Below W.heap.size W w')) : Calls Try.prog 14 #[.agg #[.int .i64 k1, .int .i64 nd1, .int .i64 lf1, .int .i64 ep1, .string s1, .int .i64 fn1, .slice aa1 al1 ac1, .int .i64 er1, .int .i64 va1, .int .i64 ve1, .slice ma1 ml1 mc1], .agg #[.int .i64 k1, .int .i64 nd1, .int .i64 lf1, .int .i64 ep1, .string s1, .int .i64 fn1, .slice aa2 al2 ac2, .int .i64 er1, .int .i64 va1, .int .i64 ve1, .slice ma2 ml1 mc2]] w fun e w' => e = .returned (.bool (decide (mem1 = mem2))) ∧ Below w.heap.size w w' := by
  obtain ⟨hx1, hx2, hx3, hx4⟩ := box2 w [.int .i64 k1, .int .i64 nd1, .int .i64 lf1, .int .i64 ep1, .string s1, .int .i64 fn1, .slice aa1 al1 ac1, .int .i64 er1, .int .i64 va1, .int .i64 ve1, .slice ma1 ml1 mc1] [.int .i64 k1, .int .i64 nd1, .int .i64 lf1, .int .i64 ep1, .string s1, .int .i64 fn1, .slice aa2 al2 ac2, .int .i64 er1, .int .i64 va1, .int .i64 ve1, .slice ma2 ml1 mc2] 31 31
  obtain ⟨V, hV⟩ : ∃ V, V = (w.alloc (.cells #[.int .i64 k1, .int .i64 nd1, .int .i64 lf1, .int .i64 ep1, .string s1, .int .i64 fn1, .slice aa1 al1 ac1, .int .i64 er1, .int .i64 va1, .int .i64 ve1, .slice ma1 ml1 mc1] 31)).alloc (.cells #[.int .i64 k1, .int .i64 nd1, .int .i64 lf1, .int .i64 ep1, .string s1, .int .i64 fn1, .slice aa2 al2 ac2, .int .i64 er1, .int .i64 va1, .int .i64 ve1, .slice ma2 ml1 mc2] 31) := ⟨_, rfl⟩
  have HX := hide (show BoxL V w.heap.size [.int .i64 k1, .int .i64 nd1, .int .i64 lf1, .int .i64 ep1, .string s1, .int .i64 fn1, .slice aa1 al1 ac1, .int .i64 er1, .int .i64 va1, .int .i64 ve1, .slice ma1 ml1 mc1] by rw [hV]; exact hx1)
  have HY := hide (show BoxL V (w.heap.size + 1) [.int .i64 k1, .int .i64 nd1, .int .i64 lf1, .int .i64 ep1, .string s1, .int .i64 fn1, .slice aa2 al2 ac2, .int .i64 er1, .int .i64 va1, .int .i64 ve1, .slice ma2 ml1 mc2] by rw [hV]; exact hx2)
  have HB := hide (show Below w.heap.size w V by rw [hV]; exact hx3)
  have HV := hide hV
  clear hx1 hx2 hx3 hx4 hV
  obtain ⟨R, hR⟩ : ∃ R, R = decide (mem1 = mem2) := ⟨_, rfl⟩
  rw [← hR]
  have HD := hide hR
  have HL1 := hide hm1
  have HL2 := hide hm2
  clear hR hm1 hm2
  go_enter Try.func14, Try.ntmps14
  go_wp2_with (go_at_call 27; go_must (rw [← HV.out]; (with_reducible refine (CS.out V HB.out).mono ?_); rintro e w1 ⟨rfl, hb1⟩))
  go_loopw [5] (fun i wr => Hid (Below V.heap.size V wr) ∧ ∃ (k : Nat), k ≤ ml1 ∧ i = .int .i64 (k : Nat) ∧ Hid (mem1.take k = mem2.take k)) (fun i _ => ml1 - (intOf i).toNat)
  case atStart => exact ⟨hide hb1, 0, Nat.zero_le _, rfl, hide rfl⟩
  case round =>
    obtain ⟨hbw, k, hk, rfl, hT⟩ := hrel
    have HBW := hide (HB.out.trans (hbw.out.mono HB.out.size))
    obtain ⟨-, -, -, -, -, -, -, -, -, -, c10⟩ := (HX.out.below hbw.out).c11
    obtain ⟨-, -, -, -, -, -, -, -, -, -, d10⟩ := (HY.out.below hbw.out).c11
    by_cases hlt : k < ml1
    · have hka : k < mem1.length := by have := HL1.out; omega
      have hkb : k < mem2.length := by have := HL2.out; omega
      obtain ⟨cb, off, har, y0, y1⟩ := mem_at (rm1.below HBW.out) hka
      obtain ⟨eb, eff, hbr, z0, z1⟩ := mem_at (rm2.below HBW.out) hkb
      subst har
      subst hbr
      have hlt' : (k : Int) < (ml1 : Int) := by omega
      have HTE := hide (fun h => take_eq hka hkb hT.out h)
      have HNE := hide (fun h => ne_at hka hkb h)
      generalize mem1[k] = x at y0 y1 HTE HNE
      generalize mem2[k] = y at z0 z1 HTE HNE
      obtain ⟨x0, x1⟩ := x
      obtain ⟨z0', z1'⟩ := y
      simp only at y0 y1 z0 z1
      by_cases he : (x0, x1) = (z0', z1')
      · obtain ⟨rfl, rfl⟩ := Prod.mk.inj he
        have HN := hide (HTE.out rfl)
        clear HTE HNE hT he
        go_wp2_with fail
        go_big_quiet (fail)
        go_wp2_with fail
        go_roundw
        case rel => exact ⟨hide (below_drewN hbw.out _), k + 1, by omega, by go_num, HN⟩
        case measure => simp [intOf]; omega
      · have HF := hide (show R = false by rw [HD.out]; exact decide_eq_false (HNE.out he))
        have hxy : x0 ≠ z0' ∨ x1 ≠ z1' := by
          by_cases h0 : x0 = z0'
          · right; intro h1; exact he (by rw [h0, h1])
          · exact .inl h0
        clear HTE HNE hT he
        rcases hxy with h0 | h0
        · have g0 : (x0 == z0') = false := by rw [beq_eq_false_iff_ne]; exact h0
          go_wp2_with fail
          go_big_quiet (fail)
          go_wp2
          go_ret
          exact ⟨by rw [HF.out]; rfl, below_drewN HBW.out _⟩
        · have g0 : (x1 == z1') = false := by rw [beq_eq_false_iff_ne]; exact h0
          go_wp2_with fail
          go_big_quiet (fail)
          go_wp2
          go_ret
          exact ⟨by rw [HF.out]; rfl, below_drewN HBW.out _⟩
    · have HF := hide (show R = true by
        rw [HD.out]
        have e1 : mem1.take k = mem1 := List.take_of_length_le (by have := HL1.out; omega)
        have e2 : mem2.take k = mem2 := List.take_of_length_le (by have := HL2.out; omega)
        have := hT.out
        rw [e1, e2] at this
        exact decide_eq_true this)
      have hlt' : ¬ (k : Int) < (ml1 : Int) := by omega
      clear hT
      go_wp2
      go_ret
      exact ⟨by rw [HF.out]; rfl, HBW.out⟩

end Go.Proofs.Ytgkpioleipefmaa
