/- gleanerref10.MayNote. -/
import Derived.Test.YtgkpioleipefmaaRvw
import Derived.Test.YtgkpioleipefmaaNoDb
import Derived.Test.YtgkpioleipefmaaNoG
namespace Go.Proofs.Ytgkpioleipefmaa
open Go.RowKit Go.ChangeShapes Go.WideShapes Go.ChangeAt Go.Deep

theorem mayC_tests (n : No) (s : ByteArray) (hs : uN s.data.toList = n.id) (hk : isKind n.kind = (n.kind != 0)) : mayN n = ((n.kind != 0) && (okN 15 n.node && (okN 2147483647 n.life && (okN 2147483647 n.epoch && (validL s.data.toList && (decide (0 ≤ n.func) && (decide (n.func < 32) && (decide (n.args.length ≤ 8) && (okRes n.err n.val && okView n.vep n.mem))))))))) := by
  rw [mayN_tests, hk, ← hs, okId_valid]
  have e1 : okN 31 n.func = (decide (0 ≤ n.func) && decide (n.func < 32)) := by
    unfold okN
    rw [show decide (n.func ≤ 31) = decide (n.func < 32) by by_cases h : n.func ≤ 31 <;> simp [h] <;> omega]
  have e2 : okN 8 (n.args.length : Int) = decide (n.args.length ≤ 8) := by
    unfold okN
    by_cases h : n.args.length ≤ 8 <;> simp [h] <;> omega
  rw [e1, e2]
  simp only [Bool.and_assoc]
theorem clear_kinds (n : No) : isKind (clearN n).kind = ((clearN n).kind != 0) := by
  rw [clear_kind]
  split
  · rename_i h
    rw [h]
    have : n.kind ≠ 0 := by simp [isKind] at h; omega
    simp [bne, this]
  · rfl

set_option maxRecDepth 100000 in
set_option maxHeartbeats 16000000 in
theorem rmay_go (n o : No) (s : ByteArray) (aa ma : Option Addr) (al ac ml mc : Nat) (B : Nat) (w : World) (b1 b2 b3 b4 b5 b6 b7 b8 b9 b10 R : Bool)
    (CC : Hid (∀ W, Calls Try.prog 16 #[.agg #[.int .i64 n.kind, .int .i64 n.node, .int .i64 n.life, .int .i64 n.epoch, .string s, .int .i64 n.func, (.slice aa al ac), .int .i64 n.err, .int .i64 n.val, .int .i64 n.vep, (.slice ma ml mc)]] W fun e w' => ∃ s1 aa1 al1 ac1 ma1 ml1 mc1, e = .returned (Nv o s1 (.slice aa1 al1 ac1) (.slice ma1 ml1 mc1)) ∧ Hid (∀ B W, NM B W n s (.slice aa al ac) (.slice ma ml mc) → NM B W o s1 (.slice aa1 al1 ac1) (.slice ma1 ml1 mc1)) ∧ Below W.heap.size W w'))
    (HM : Hid (NM B w n s (.slice aa al ac) (.slice ma ml mc))) (E1 : Hid ((o.kind != 0) = b1)) (C2 : Hid (∀ W, Calls Try.prog 43 #[.int .i64 o.node] W fun e w' => e = .returned (.bool b2) ∧ w' = W)) (C3 : Hid (∀ W, Calls Try.prog 44 #[.int .i64 o.life] W fun e w' => e = .returned (.bool b3) ∧ w' = W)) (C4 : Hid (∀ W, Calls Try.prog 44 #[.int .i64 o.epoch] W fun e w' => e = .returned (.bool b4) ∧ w' = W))
    (HT5 : Hid (∀ s1 : ByteArray, uN s1.data.toList = o.id → validL s1.data.toList = b5)) (E6 : Hid (decide (0 ≤ o.func) = b6)) (E7 : Hid (decide (o.func < 32) = b7)) (HT8 : Hid (∀ l : Nat, o.args.length = l → Hid (decide ((l : Int) ≤ 8) = b8)))
    (C9 : Hid (∀ W, Calls Try.prog 45 #[.agg #[.int .i64 o.err, .int .i64 o.val]] W fun e w' => e = .returned (.bool b9) ∧ Below W.heap.size W w')) (C10 : Hid (∀ (W : World) (a : Option Addr) (l c : Nat), o.mem.length = l → Reads W a (mV o.mem) → Calls Try.prog 46 #[.agg #[.int .i64 o.vep, .slice a l c]] W fun e w' => e = .returned (.bool b10) ∧ Below W.heap.size W w'))
    (HMN : Hid (R = (b1 && (b2 && (b3 && (b4 && (b5 && (b6 && (b7 && (b8 && (b9 && b10))))))))))) :
    Calls Try.prog 24 #[.agg #[.int .i64 n.kind, .int .i64 n.node, .int .i64 n.life, .int .i64 n.epoch, .string s, .int .i64 n.func, (.slice aa al ac), .int .i64 n.err, .int .i64 n.val, .int .i64 n.vep, (.slice ma ml mc)]] w fun e w' => e = .returned (.bool R) ∧ Below w.heap.size w w' := by
  have HX0 := hide (BoxL.new w [.int .i64 n.kind, .int .i64 n.node, .int .i64 n.life, .int .i64 n.epoch, .string s, .int .i64 n.func, (.slice aa al ac), .int .i64 n.err, .int .i64 n.val, .int .i64 n.vep, (.slice ma ml mc)] 31)
  have HB0 := hide (below_new w (.cells #[.int .i64 n.kind, .int .i64 n.node, .int .i64 n.life, .int .i64 n.epoch, .string s, .int .i64 n.func, (.slice aa al ac), .int .i64 n.err, .int .i64 n.val, .int .i64 n.vep, (.slice ma ml mc)] 31))
  obtain ⟨V, hV⟩ : ∃ V, V = w.alloc (.cells #[.int .i64 n.kind, .int .i64 n.node, .int .i64 n.life, .int .i64 n.epoch, .string s, .int .i64 n.func, (.slice aa al ac), .int .i64 n.err, .int .i64 n.val, .int .i64 n.vep, (.slice ma ml mc)] 31) := ⟨_, rfl⟩
  have HX := hide (show BoxL V w.heap.size [.int .i64 n.kind, .int .i64 n.node, .int .i64 n.life, .int .i64 n.epoch, .string s, .int .i64 n.func, (.slice aa al ac), .int .i64 n.err, .int .i64 n.val, .int .i64 n.vep, (.slice ma ml mc)] by rw [hV]; exact HX0.out)
  have HB := hide (show Below w.heap.size w V by rw [hV]; exact HB0.out)
  have HV := hide hV
  clear hV HX0 HB0
  cases b1 with
  | false =>
    have t1 : (o.kind == 0) = true := by have h := E1.out; simpa [bne] using h
    have t1' : (o.kind != 0) = false := E1.out
    go_enter Try.func24, Try.ntmps24
    go_wp2_with (first
      | (go_at_call 16; go_must (rw [← HV.out]; (with_reducible refine (CC.out V).mono ?_); rintro e w1 ⟨s1, aa1, al1, ac1, ma1, ml1, mc1, rfl, hM1, hb1⟩; simp only [Nv]; have HX1 := hide (HX.out.below hb1); have HB1 := hide (HB.out.trans (hb1.mono HB.out.size)); obtain ⟨e0, e1, e2, e3, e4, e5, e6, e7, e8, e9, e10⟩ := HX1.out.c11; obtain ⟨u0, u1, u2, u3, u4, u5, u6, u7, u8, u9, u10⟩ := HX1.out.f11; have HX2 := hide (put11_box HX1.out (.int .i64 o.kind) (.int .i64 o.node) (.int .i64 o.life) (.int .i64 o.epoch) (.string s1) (.int .i64 o.func) (.slice aa1 al1 ac1) (.int .i64 o.err) (.int .i64 o.val) (.int .i64 o.vep) (.slice ma1 ml1 mc1)); have HB2 := hide (put11_below (g := w.heap.size) HB1.out (Nat.le_refl _) (.int .i64 o.kind) (.int .i64 o.node) (.int .i64 o.life) (.int .i64 o.epoch) (.string s1) (.int .i64 o.func) (.slice aa1 al1 ac1) (.int .i64 o.err) (.int .i64 o.val) (.int .i64 o.vep) (.slice ma1 ml1 mc1)); obtain ⟨X, hX⟩ : ∃ X, X = put11 w1 w.heap.size (.int .i64 o.kind) (.int .i64 o.node) (.int .i64 o.life) (.int .i64 o.epoch) (.string s1) (.int .i64 o.func) (.slice aa1 al1 ac1) (.int .i64 o.err) (.int .i64 o.val) (.int .i64 o.vep) (.slice ma1 ml1 mc1) := ⟨_, rfl⟩; rw [← hX] at HX2 HB2; unfold put11 at hX; have HE := hide hX; clear hX; obtain ⟨m1, m2, m3, m4, ⟨aa1', al1', ac1', eqa, hal, -⟩, ⟨ma1', ml1', mc1', eqm, hml, -, -, hmr, -⟩⟩ := hM1.out B X (HM.out.below HB2.out); simp only [Value.slice.injEq] at eqa eqm; obtain ⟨rfl, rfl, rfl⟩ := eqa; obtain ⟨rfl, rfl, rfl⟩ := eqm; have HAL := hide hal.out; have HML := hide hml.out; have HMR := hide hmr; have HID := hide m1; have hsz1 : s1.size ≤ 20000 := m2; have HA8 := hide (HT8.out al1 hal.out); clear m1 m2 m3 m4 hal hml hmr hM1; skip; skip))
      | (go_at_call 42; go_must (rw [← HE.out]; (with_reducible refine (refValid_any s1 (by unfold maxLen; omega) X).mono ?_); rintro e w2 ⟨rfl, rfl⟩; skip; obtain ⟨k0, k1, k2, k3, k4, k5, k6, k7, k8, k9, k10⟩ := HX2.out.c11)))
    go_ret
    exact ⟨by rw [HMN.out]; rfl, HB2.out⟩
  | true =>
    have t1 : (o.kind == 0) = false := by have h := E1.out; simpa [bne] using h
    have t1' : (o.kind != 0) = true := E1.out
    cases b2 with
    | false =>
      go_enter Try.func24, Try.ntmps24
      go_wp2_with (first
        | (go_at_call 16; go_must (rw [← HV.out]; (with_reducible refine (CC.out V).mono ?_); rintro e w1 ⟨s1, aa1, al1, ac1, ma1, ml1, mc1, rfl, hM1, hb1⟩; simp only [Nv]; have HX1 := hide (HX.out.below hb1); have HB1 := hide (HB.out.trans (hb1.mono HB.out.size)); obtain ⟨e0, e1, e2, e3, e4, e5, e6, e7, e8, e9, e10⟩ := HX1.out.c11; obtain ⟨u0, u1, u2, u3, u4, u5, u6, u7, u8, u9, u10⟩ := HX1.out.f11; have HX2 := hide (put11_box HX1.out (.int .i64 o.kind) (.int .i64 o.node) (.int .i64 o.life) (.int .i64 o.epoch) (.string s1) (.int .i64 o.func) (.slice aa1 al1 ac1) (.int .i64 o.err) (.int .i64 o.val) (.int .i64 o.vep) (.slice ma1 ml1 mc1)); have HB2 := hide (put11_below (g := w.heap.size) HB1.out (Nat.le_refl _) (.int .i64 o.kind) (.int .i64 o.node) (.int .i64 o.life) (.int .i64 o.epoch) (.string s1) (.int .i64 o.func) (.slice aa1 al1 ac1) (.int .i64 o.err) (.int .i64 o.val) (.int .i64 o.vep) (.slice ma1 ml1 mc1)); obtain ⟨X, hX⟩ : ∃ X, X = put11 w1 w.heap.size (.int .i64 o.kind) (.int .i64 o.node) (.int .i64 o.life) (.int .i64 o.epoch) (.string s1) (.int .i64 o.func) (.slice aa1 al1 ac1) (.int .i64 o.err) (.int .i64 o.val) (.int .i64 o.vep) (.slice ma1 ml1 mc1) := ⟨_, rfl⟩; rw [← hX] at HX2 HB2; unfold put11 at hX; have HE := hide hX; clear hX; obtain ⟨m1, m2, m3, m4, ⟨aa1', al1', ac1', eqa, hal, -⟩, ⟨ma1', ml1', mc1', eqm, hml, -, -, hmr, -⟩⟩ := hM1.out B X (HM.out.below HB2.out); simp only [Value.slice.injEq] at eqa eqm; obtain ⟨rfl, rfl, rfl⟩ := eqa; obtain ⟨rfl, rfl, rfl⟩ := eqm; have HAL := hide hal.out; have HML := hide hml.out; have HMR := hide hmr; have HID := hide m1; have hsz1 : s1.size ≤ 20000 := m2; have HA8 := hide (HT8.out al1 hal.out); clear m1 m2 m3 m4 hal hml hmr hM1; skip; skip))
        | (go_at_call 42; go_must (rw [← HE.out]; (with_reducible refine (refValid_any s1 (by unfold maxLen; omega) X).mono ?_); rintro e w2 ⟨rfl, rfl⟩; skip; obtain ⟨k0, k1, k2, k3, k4, k5, k6, k7, k8, k9, k10⟩ := HX2.out.c11))
        | (go_at_call 43; go_must ((with_reducible refine (C2.out _).mono ?_); rintro e w3 ⟨rfl, rfl⟩)))
      go_ret
      exact ⟨by rw [HMN.out]; rfl, HB2.out⟩
    | true =>
      cases b3 with
      | false =>
        go_enter Try.func24, Try.ntmps24
        go_wp2_with (first
          | (go_at_call 16; go_must (rw [← HV.out]; (with_reducible refine (CC.out V).mono ?_); rintro e w1 ⟨s1, aa1, al1, ac1, ma1, ml1, mc1, rfl, hM1, hb1⟩; simp only [Nv]; have HX1 := hide (HX.out.below hb1); have HB1 := hide (HB.out.trans (hb1.mono HB.out.size)); obtain ⟨e0, e1, e2, e3, e4, e5, e6, e7, e8, e9, e10⟩ := HX1.out.c11; obtain ⟨u0, u1, u2, u3, u4, u5, u6, u7, u8, u9, u10⟩ := HX1.out.f11; have HX2 := hide (put11_box HX1.out (.int .i64 o.kind) (.int .i64 o.node) (.int .i64 o.life) (.int .i64 o.epoch) (.string s1) (.int .i64 o.func) (.slice aa1 al1 ac1) (.int .i64 o.err) (.int .i64 o.val) (.int .i64 o.vep) (.slice ma1 ml1 mc1)); have HB2 := hide (put11_below (g := w.heap.size) HB1.out (Nat.le_refl _) (.int .i64 o.kind) (.int .i64 o.node) (.int .i64 o.life) (.int .i64 o.epoch) (.string s1) (.int .i64 o.func) (.slice aa1 al1 ac1) (.int .i64 o.err) (.int .i64 o.val) (.int .i64 o.vep) (.slice ma1 ml1 mc1)); obtain ⟨X, hX⟩ : ∃ X, X = put11 w1 w.heap.size (.int .i64 o.kind) (.int .i64 o.node) (.int .i64 o.life) (.int .i64 o.epoch) (.string s1) (.int .i64 o.func) (.slice aa1 al1 ac1) (.int .i64 o.err) (.int .i64 o.val) (.int .i64 o.vep) (.slice ma1 ml1 mc1) := ⟨_, rfl⟩; rw [← hX] at HX2 HB2; unfold put11 at hX; have HE := hide hX; clear hX; obtain ⟨m1, m2, m3, m4, ⟨aa1', al1', ac1', eqa, hal, -⟩, ⟨ma1', ml1', mc1', eqm, hml, -, -, hmr, -⟩⟩ := hM1.out B X (HM.out.below HB2.out); simp only [Value.slice.injEq] at eqa eqm; obtain ⟨rfl, rfl, rfl⟩ := eqa; obtain ⟨rfl, rfl, rfl⟩ := eqm; have HAL := hide hal.out; have HML := hide hml.out; have HMR := hide hmr; have HID := hide m1; have hsz1 : s1.size ≤ 20000 := m2; have HA8 := hide (HT8.out al1 hal.out); clear m1 m2 m3 m4 hal hml hmr hM1; skip; skip))
          | (go_at_call 42; go_must (rw [← HE.out]; (with_reducible refine (refValid_any s1 (by unfold maxLen; omega) X).mono ?_); rintro e w2 ⟨rfl, rfl⟩; skip; obtain ⟨k0, k1, k2, k3, k4, k5, k6, k7, k8, k9, k10⟩ := HX2.out.c11))
          | (go_at_call 43; go_must ((with_reducible refine (C2.out _).mono ?_); rintro e w3 ⟨rfl, rfl⟩))
          | (go_at_call 44; first | ((with_reducible refine (C3.out _).mono ?_); rintro e w4 ⟨rfl, rfl⟩)))
        go_ret
        exact ⟨by rw [HMN.out]; rfl, HB2.out⟩
      | true =>
        cases b4 with
        | false =>
          go_enter Try.func24, Try.ntmps24
          go_wp2_with (first
            | (go_at_call 16; go_must (rw [← HV.out]; (with_reducible refine (CC.out V).mono ?_); rintro e w1 ⟨s1, aa1, al1, ac1, ma1, ml1, mc1, rfl, hM1, hb1⟩; simp only [Nv]; have HX1 := hide (HX.out.below hb1); have HB1 := hide (HB.out.trans (hb1.mono HB.out.size)); obtain ⟨e0, e1, e2, e3, e4, e5, e6, e7, e8, e9, e10⟩ := HX1.out.c11; obtain ⟨u0, u1, u2, u3, u4, u5, u6, u7, u8, u9, u10⟩ := HX1.out.f11; have HX2 := hide (put11_box HX1.out (.int .i64 o.kind) (.int .i64 o.node) (.int .i64 o.life) (.int .i64 o.epoch) (.string s1) (.int .i64 o.func) (.slice aa1 al1 ac1) (.int .i64 o.err) (.int .i64 o.val) (.int .i64 o.vep) (.slice ma1 ml1 mc1)); have HB2 := hide (put11_below (g := w.heap.size) HB1.out (Nat.le_refl _) (.int .i64 o.kind) (.int .i64 o.node) (.int .i64 o.life) (.int .i64 o.epoch) (.string s1) (.int .i64 o.func) (.slice aa1 al1 ac1) (.int .i64 o.err) (.int .i64 o.val) (.int .i64 o.vep) (.slice ma1 ml1 mc1)); obtain ⟨X, hX⟩ : ∃ X, X = put11 w1 w.heap.size (.int .i64 o.kind) (.int .i64 o.node) (.int .i64 o.life) (.int .i64 o.epoch) (.string s1) (.int .i64 o.func) (.slice aa1 al1 ac1) (.int .i64 o.err) (.int .i64 o.val) (.int .i64 o.vep) (.slice ma1 ml1 mc1) := ⟨_, rfl⟩; rw [← hX] at HX2 HB2; unfold put11 at hX; have HE := hide hX; clear hX; obtain ⟨m1, m2, m3, m4, ⟨aa1', al1', ac1', eqa, hal, -⟩, ⟨ma1', ml1', mc1', eqm, hml, -, -, hmr, -⟩⟩ := hM1.out B X (HM.out.below HB2.out); simp only [Value.slice.injEq] at eqa eqm; obtain ⟨rfl, rfl, rfl⟩ := eqa; obtain ⟨rfl, rfl, rfl⟩ := eqm; have HAL := hide hal.out; have HML := hide hml.out; have HMR := hide hmr; have HID := hide m1; have hsz1 : s1.size ≤ 20000 := m2; have HA8 := hide (HT8.out al1 hal.out); clear m1 m2 m3 m4 hal hml hmr hM1; skip; skip))
            | (go_at_call 42; go_must (rw [← HE.out]; (with_reducible refine (refValid_any s1 (by unfold maxLen; omega) X).mono ?_); rintro e w2 ⟨rfl, rfl⟩; skip; obtain ⟨k0, k1, k2, k3, k4, k5, k6, k7, k8, k9, k10⟩ := HX2.out.c11))
            | (go_at_call 43; go_must ((with_reducible refine (C2.out _).mono ?_); rintro e w3 ⟨rfl, rfl⟩))
            | (go_at_call 44; first | ((with_reducible refine (C3.out _).mono ?_); rintro e w4 ⟨rfl, rfl⟩) | ((with_reducible refine (C4.out _).mono ?_); rintro e w5 ⟨rfl, rfl⟩)))
          go_ret
          exact ⟨by rw [HMN.out]; rfl, HB2.out⟩
        | true =>
          cases b5 with
          | false =>
            go_enter Try.func24, Try.ntmps24
            go_wp2_with (first
              | (go_at_call 16; go_must (rw [← HV.out]; (with_reducible refine (CC.out V).mono ?_); rintro e w1 ⟨s1, aa1, al1, ac1, ma1, ml1, mc1, rfl, hM1, hb1⟩; simp only [Nv]; have HX1 := hide (HX.out.below hb1); have HB1 := hide (HB.out.trans (hb1.mono HB.out.size)); obtain ⟨e0, e1, e2, e3, e4, e5, e6, e7, e8, e9, e10⟩ := HX1.out.c11; obtain ⟨u0, u1, u2, u3, u4, u5, u6, u7, u8, u9, u10⟩ := HX1.out.f11; have HX2 := hide (put11_box HX1.out (.int .i64 o.kind) (.int .i64 o.node) (.int .i64 o.life) (.int .i64 o.epoch) (.string s1) (.int .i64 o.func) (.slice aa1 al1 ac1) (.int .i64 o.err) (.int .i64 o.val) (.int .i64 o.vep) (.slice ma1 ml1 mc1)); have HB2 := hide (put11_below (g := w.heap.size) HB1.out (Nat.le_refl _) (.int .i64 o.kind) (.int .i64 o.node) (.int .i64 o.life) (.int .i64 o.epoch) (.string s1) (.int .i64 o.func) (.slice aa1 al1 ac1) (.int .i64 o.err) (.int .i64 o.val) (.int .i64 o.vep) (.slice ma1 ml1 mc1)); obtain ⟨X, hX⟩ : ∃ X, X = put11 w1 w.heap.size (.int .i64 o.kind) (.int .i64 o.node) (.int .i64 o.life) (.int .i64 o.epoch) (.string s1) (.int .i64 o.func) (.slice aa1 al1 ac1) (.int .i64 o.err) (.int .i64 o.val) (.int .i64 o.vep) (.slice ma1 ml1 mc1) := ⟨_, rfl⟩; rw [← hX] at HX2 HB2; unfold put11 at hX; have HE := hide hX; clear hX; obtain ⟨m1, m2, m3, m4, ⟨aa1', al1', ac1', eqa, hal, -⟩, ⟨ma1', ml1', mc1', eqm, hml, -, -, hmr, -⟩⟩ := hM1.out B X (HM.out.below HB2.out); simp only [Value.slice.injEq] at eqa eqm; obtain ⟨rfl, rfl, rfl⟩ := eqa; obtain ⟨rfl, rfl, rfl⟩ := eqm; have HAL := hide hal.out; have HML := hide hml.out; have HMR := hide hmr; have HID := hide m1; have hsz1 : s1.size ≤ 20000 := m2; have HA8 := hide (HT8.out al1 hal.out); clear m1 m2 m3 m4 hal hml hmr hM1; have hvv := HT5.out s1 HID.out; skip))
              | (go_at_call 42; go_must (rw [← HE.out]; (with_reducible refine (refValid_any s1 (by unfold maxLen; omega) X).mono ?_); rintro e w2 ⟨rfl, rfl⟩; rw [hvv]; obtain ⟨k0, k1, k2, k3, k4, k5, k6, k7, k8, k9, k10⟩ := HX2.out.c11))
              | (go_at_call 43; go_must ((with_reducible refine (C2.out _).mono ?_); rintro e w3 ⟨rfl, rfl⟩))
              | (go_at_call 44; first | ((with_reducible refine (C3.out _).mono ?_); rintro e w4 ⟨rfl, rfl⟩) | ((with_reducible refine (C4.out _).mono ?_); rintro e w5 ⟨rfl, rfl⟩)))
            go_ret
            exact ⟨by rw [HMN.out]; rfl, HB2.out⟩
          | true =>
            cases b6 with
            | false =>
              have t6 : ¬ 0 ≤ o.func := of_decide_eq_false E6.out
              go_enter Try.func24, Try.ntmps24
              go_wp2_with (first
                | (go_at_call 16; go_must (rw [← HV.out]; (with_reducible refine (CC.out V).mono ?_); rintro e w1 ⟨s1, aa1, al1, ac1, ma1, ml1, mc1, rfl, hM1, hb1⟩; simp only [Nv]; have HX1 := hide (HX.out.below hb1); have HB1 := hide (HB.out.trans (hb1.mono HB.out.size)); obtain ⟨e0, e1, e2, e3, e4, e5, e6, e7, e8, e9, e10⟩ := HX1.out.c11; obtain ⟨u0, u1, u2, u3, u4, u5, u6, u7, u8, u9, u10⟩ := HX1.out.f11; have HX2 := hide (put11_box HX1.out (.int .i64 o.kind) (.int .i64 o.node) (.int .i64 o.life) (.int .i64 o.epoch) (.string s1) (.int .i64 o.func) (.slice aa1 al1 ac1) (.int .i64 o.err) (.int .i64 o.val) (.int .i64 o.vep) (.slice ma1 ml1 mc1)); have HB2 := hide (put11_below (g := w.heap.size) HB1.out (Nat.le_refl _) (.int .i64 o.kind) (.int .i64 o.node) (.int .i64 o.life) (.int .i64 o.epoch) (.string s1) (.int .i64 o.func) (.slice aa1 al1 ac1) (.int .i64 o.err) (.int .i64 o.val) (.int .i64 o.vep) (.slice ma1 ml1 mc1)); obtain ⟨X, hX⟩ : ∃ X, X = put11 w1 w.heap.size (.int .i64 o.kind) (.int .i64 o.node) (.int .i64 o.life) (.int .i64 o.epoch) (.string s1) (.int .i64 o.func) (.slice aa1 al1 ac1) (.int .i64 o.err) (.int .i64 o.val) (.int .i64 o.vep) (.slice ma1 ml1 mc1) := ⟨_, rfl⟩; rw [← hX] at HX2 HB2; unfold put11 at hX; have HE := hide hX; clear hX; obtain ⟨m1, m2, m3, m4, ⟨aa1', al1', ac1', eqa, hal, -⟩, ⟨ma1', ml1', mc1', eqm, hml, -, -, hmr, -⟩⟩ := hM1.out B X (HM.out.below HB2.out); simp only [Value.slice.injEq] at eqa eqm; obtain ⟨rfl, rfl, rfl⟩ := eqa; obtain ⟨rfl, rfl, rfl⟩ := eqm; have HAL := hide hal.out; have HML := hide hml.out; have HMR := hide hmr; have HID := hide m1; have hsz1 : s1.size ≤ 20000 := m2; have HA8 := hide (HT8.out al1 hal.out); clear m1 m2 m3 m4 hal hml hmr hM1; have hvv := HT5.out s1 HID.out; skip))
                | (go_at_call 42; go_must (rw [← HE.out]; (with_reducible refine (refValid_any s1 (by unfold maxLen; omega) X).mono ?_); rintro e w2 ⟨rfl, rfl⟩; rw [hvv]; obtain ⟨k0, k1, k2, k3, k4, k5, k6, k7, k8, k9, k10⟩ := HX2.out.c11))
                | (go_at_call 43; go_must ((with_reducible refine (C2.out _).mono ?_); rintro e w3 ⟨rfl, rfl⟩))
                | (go_at_call 44; first | ((with_reducible refine (C3.out _).mono ?_); rintro e w4 ⟨rfl, rfl⟩) | ((with_reducible refine (C4.out _).mono ?_); rintro e w5 ⟨rfl, rfl⟩)))
              go_ret
              exact ⟨by rw [HMN.out]; rfl, HB2.out⟩
            | true =>
              have t6 : 0 ≤ o.func := of_decide_eq_true E6.out
              cases b7 with
              | false =>
                have t7 : ¬ o.func < 32 := of_decide_eq_false E7.out
                go_enter Try.func24, Try.ntmps24
                go_wp2_with (first
                  | (go_at_call 16; go_must (rw [← HV.out]; (with_reducible refine (CC.out V).mono ?_); rintro e w1 ⟨s1, aa1, al1, ac1, ma1, ml1, mc1, rfl, hM1, hb1⟩; simp only [Nv]; have HX1 := hide (HX.out.below hb1); have HB1 := hide (HB.out.trans (hb1.mono HB.out.size)); obtain ⟨e0, e1, e2, e3, e4, e5, e6, e7, e8, e9, e10⟩ := HX1.out.c11; obtain ⟨u0, u1, u2, u3, u4, u5, u6, u7, u8, u9, u10⟩ := HX1.out.f11; have HX2 := hide (put11_box HX1.out (.int .i64 o.kind) (.int .i64 o.node) (.int .i64 o.life) (.int .i64 o.epoch) (.string s1) (.int .i64 o.func) (.slice aa1 al1 ac1) (.int .i64 o.err) (.int .i64 o.val) (.int .i64 o.vep) (.slice ma1 ml1 mc1)); have HB2 := hide (put11_below (g := w.heap.size) HB1.out (Nat.le_refl _) (.int .i64 o.kind) (.int .i64 o.node) (.int .i64 o.life) (.int .i64 o.epoch) (.string s1) (.int .i64 o.func) (.slice aa1 al1 ac1) (.int .i64 o.err) (.int .i64 o.val) (.int .i64 o.vep) (.slice ma1 ml1 mc1)); obtain ⟨X, hX⟩ : ∃ X, X = put11 w1 w.heap.size (.int .i64 o.kind) (.int .i64 o.node) (.int .i64 o.life) (.int .i64 o.epoch) (.string s1) (.int .i64 o.func) (.slice aa1 al1 ac1) (.int .i64 o.err) (.int .i64 o.val) (.int .i64 o.vep) (.slice ma1 ml1 mc1) := ⟨_, rfl⟩; rw [← hX] at HX2 HB2; unfold put11 at hX; have HE := hide hX; clear hX; obtain ⟨m1, m2, m3, m4, ⟨aa1', al1', ac1', eqa, hal, -⟩, ⟨ma1', ml1', mc1', eqm, hml, -, -, hmr, -⟩⟩ := hM1.out B X (HM.out.below HB2.out); simp only [Value.slice.injEq] at eqa eqm; obtain ⟨rfl, rfl, rfl⟩ := eqa; obtain ⟨rfl, rfl, rfl⟩ := eqm; have HAL := hide hal.out; have HML := hide hml.out; have HMR := hide hmr; have HID := hide m1; have hsz1 : s1.size ≤ 20000 := m2; have HA8 := hide (HT8.out al1 hal.out); clear m1 m2 m3 m4 hal hml hmr hM1; have hvv := HT5.out s1 HID.out; skip))
                  | (go_at_call 42; go_must (rw [← HE.out]; (with_reducible refine (refValid_any s1 (by unfold maxLen; omega) X).mono ?_); rintro e w2 ⟨rfl, rfl⟩; rw [hvv]; obtain ⟨k0, k1, k2, k3, k4, k5, k6, k7, k8, k9, k10⟩ := HX2.out.c11))
                  | (go_at_call 43; go_must ((with_reducible refine (C2.out _).mono ?_); rintro e w3 ⟨rfl, rfl⟩))
                  | (go_at_call 44; first | ((with_reducible refine (C3.out _).mono ?_); rintro e w4 ⟨rfl, rfl⟩) | ((with_reducible refine (C4.out _).mono ?_); rintro e w5 ⟨rfl, rfl⟩)))
                go_ret
                exact ⟨by rw [HMN.out]; rfl, HB2.out⟩
              | true =>
                have t7 : o.func < 32 := of_decide_eq_true E7.out
                cases b8 with
                | false =>
                  go_enter Try.func24, Try.ntmps24
                  go_wp2_with (first
                    | (go_at_call 16; go_must (rw [← HV.out]; (with_reducible refine (CC.out V).mono ?_); rintro e w1 ⟨s1, aa1, al1, ac1, ma1, ml1, mc1, rfl, hM1, hb1⟩; simp only [Nv]; have HX1 := hide (HX.out.below hb1); have HB1 := hide (HB.out.trans (hb1.mono HB.out.size)); obtain ⟨e0, e1, e2, e3, e4, e5, e6, e7, e8, e9, e10⟩ := HX1.out.c11; obtain ⟨u0, u1, u2, u3, u4, u5, u6, u7, u8, u9, u10⟩ := HX1.out.f11; have HX2 := hide (put11_box HX1.out (.int .i64 o.kind) (.int .i64 o.node) (.int .i64 o.life) (.int .i64 o.epoch) (.string s1) (.int .i64 o.func) (.slice aa1 al1 ac1) (.int .i64 o.err) (.int .i64 o.val) (.int .i64 o.vep) (.slice ma1 ml1 mc1)); have HB2 := hide (put11_below (g := w.heap.size) HB1.out (Nat.le_refl _) (.int .i64 o.kind) (.int .i64 o.node) (.int .i64 o.life) (.int .i64 o.epoch) (.string s1) (.int .i64 o.func) (.slice aa1 al1 ac1) (.int .i64 o.err) (.int .i64 o.val) (.int .i64 o.vep) (.slice ma1 ml1 mc1)); obtain ⟨X, hX⟩ : ∃ X, X = put11 w1 w.heap.size (.int .i64 o.kind) (.int .i64 o.node) (.int .i64 o.life) (.int .i64 o.epoch) (.string s1) (.int .i64 o.func) (.slice aa1 al1 ac1) (.int .i64 o.err) (.int .i64 o.val) (.int .i64 o.vep) (.slice ma1 ml1 mc1) := ⟨_, rfl⟩; rw [← hX] at HX2 HB2; unfold put11 at hX; have HE := hide hX; clear hX; obtain ⟨m1, m2, m3, m4, ⟨aa1', al1', ac1', eqa, hal, -⟩, ⟨ma1', ml1', mc1', eqm, hml, -, -, hmr, -⟩⟩ := hM1.out B X (HM.out.below HB2.out); simp only [Value.slice.injEq] at eqa eqm; obtain ⟨rfl, rfl, rfl⟩ := eqa; obtain ⟨rfl, rfl, rfl⟩ := eqm; have HAL := hide hal.out; have HML := hide hml.out; have HMR := hide hmr; have HID := hide m1; have hsz1 : s1.size ≤ 20000 := m2; have HA8 := hide (HT8.out al1 hal.out); clear m1 m2 m3 m4 hal hml hmr hM1; have hvv := HT5.out s1 HID.out; have h8 := of_decide_eq_false HA8.out.out; have h8d := HA8.out.out))
                    | (go_at_call 42; go_must (rw [← HE.out]; (with_reducible refine (refValid_any s1 (by unfold maxLen; omega) X).mono ?_); rintro e w2 ⟨rfl, rfl⟩; rw [hvv]; obtain ⟨k0, k1, k2, k3, k4, k5, k6, k7, k8, k9, k10⟩ := HX2.out.c11))
                    | (go_at_call 43; go_must ((with_reducible refine (C2.out _).mono ?_); rintro e w3 ⟨rfl, rfl⟩))
                    | (go_at_call 44; first | ((with_reducible refine (C3.out _).mono ?_); rintro e w4 ⟨rfl, rfl⟩) | ((with_reducible refine (C4.out _).mono ?_); rintro e w5 ⟨rfl, rfl⟩)))
                  go_ret
                  exact ⟨by rw [HMN.out]; rfl, HB2.out⟩
                | true =>
                  cases b9 with
                  | false =>
                    go_enter Try.func24, Try.ntmps24
                    go_wp2_with (first
                      | (go_at_call 16; go_must (rw [← HV.out]; (with_reducible refine (CC.out V).mono ?_); rintro e w1 ⟨s1, aa1, al1, ac1, ma1, ml1, mc1, rfl, hM1, hb1⟩; simp only [Nv]; have HX1 := hide (HX.out.below hb1); have HB1 := hide (HB.out.trans (hb1.mono HB.out.size)); obtain ⟨e0, e1, e2, e3, e4, e5, e6, e7, e8, e9, e10⟩ := HX1.out.c11; obtain ⟨u0, u1, u2, u3, u4, u5, u6, u7, u8, u9, u10⟩ := HX1.out.f11; have HX2 := hide (put11_box HX1.out (.int .i64 o.kind) (.int .i64 o.node) (.int .i64 o.life) (.int .i64 o.epoch) (.string s1) (.int .i64 o.func) (.slice aa1 al1 ac1) (.int .i64 o.err) (.int .i64 o.val) (.int .i64 o.vep) (.slice ma1 ml1 mc1)); have HB2 := hide (put11_below (g := w.heap.size) HB1.out (Nat.le_refl _) (.int .i64 o.kind) (.int .i64 o.node) (.int .i64 o.life) (.int .i64 o.epoch) (.string s1) (.int .i64 o.func) (.slice aa1 al1 ac1) (.int .i64 o.err) (.int .i64 o.val) (.int .i64 o.vep) (.slice ma1 ml1 mc1)); obtain ⟨X, hX⟩ : ∃ X, X = put11 w1 w.heap.size (.int .i64 o.kind) (.int .i64 o.node) (.int .i64 o.life) (.int .i64 o.epoch) (.string s1) (.int .i64 o.func) (.slice aa1 al1 ac1) (.int .i64 o.err) (.int .i64 o.val) (.int .i64 o.vep) (.slice ma1 ml1 mc1) := ⟨_, rfl⟩; rw [← hX] at HX2 HB2; unfold put11 at hX; have HE := hide hX; clear hX; obtain ⟨m1, m2, m3, m4, ⟨aa1', al1', ac1', eqa, hal, -⟩, ⟨ma1', ml1', mc1', eqm, hml, -, -, hmr, -⟩⟩ := hM1.out B X (HM.out.below HB2.out); simp only [Value.slice.injEq] at eqa eqm; obtain ⟨rfl, rfl, rfl⟩ := eqa; obtain ⟨rfl, rfl, rfl⟩ := eqm; have HAL := hide hal.out; have HML := hide hml.out; have HMR := hide hmr; have HID := hide m1; have hsz1 : s1.size ≤ 20000 := m2; have HA8 := hide (HT8.out al1 hal.out); clear m1 m2 m3 m4 hal hml hmr hM1; have hvv := HT5.out s1 HID.out; have h8 := of_decide_eq_true HA8.out.out; have h8d := HA8.out.out))
                      | (go_at_call 42; go_must (rw [← HE.out]; (with_reducible refine (refValid_any s1 (by unfold maxLen; omega) X).mono ?_); rintro e w2 ⟨rfl, rfl⟩; rw [hvv]; obtain ⟨k0, k1, k2, k3, k4, k5, k6, k7, k8, k9, k10⟩ := HX2.out.c11))
                      | (go_at_call 43; go_must ((with_reducible refine (C2.out _).mono ?_); rintro e w3 ⟨rfl, rfl⟩))
                      | (go_at_call 44; first | ((with_reducible refine (C3.out _).mono ?_); rintro e w4 ⟨rfl, rfl⟩) | ((with_reducible refine (C4.out _).mono ?_); rintro e w5 ⟨rfl, rfl⟩))
                      | (go_at_call 45; go_must ((with_reducible refine (C9.out _).mono ?_); rintro e w6 ⟨rfl, hb6⟩; have HB6 := hide (HB2.out.trans (hb6.mono HB2.out.size)); obtain ⟨-, -, -, -, -, -, -, -, -, o9, o10⟩ := (HX2.out.below hb6).c11)))
                    go_ret
                    exact ⟨by rw [HMN.out]; rfl, HB6.out⟩
                  | true =>
                    cases b10 with
                    | false =>
                      go_enter Try.func24, Try.ntmps24
                      go_wp2_with (first
                        | (go_at_call 16; go_must (rw [← HV.out]; (with_reducible refine (CC.out V).mono ?_); rintro e w1 ⟨s1, aa1, al1, ac1, ma1, ml1, mc1, rfl, hM1, hb1⟩; simp only [Nv]; have HX1 := hide (HX.out.below hb1); have HB1 := hide (HB.out.trans (hb1.mono HB.out.size)); obtain ⟨e0, e1, e2, e3, e4, e5, e6, e7, e8, e9, e10⟩ := HX1.out.c11; obtain ⟨u0, u1, u2, u3, u4, u5, u6, u7, u8, u9, u10⟩ := HX1.out.f11; have HX2 := hide (put11_box HX1.out (.int .i64 o.kind) (.int .i64 o.node) (.int .i64 o.life) (.int .i64 o.epoch) (.string s1) (.int .i64 o.func) (.slice aa1 al1 ac1) (.int .i64 o.err) (.int .i64 o.val) (.int .i64 o.vep) (.slice ma1 ml1 mc1)); have HB2 := hide (put11_below (g := w.heap.size) HB1.out (Nat.le_refl _) (.int .i64 o.kind) (.int .i64 o.node) (.int .i64 o.life) (.int .i64 o.epoch) (.string s1) (.int .i64 o.func) (.slice aa1 al1 ac1) (.int .i64 o.err) (.int .i64 o.val) (.int .i64 o.vep) (.slice ma1 ml1 mc1)); obtain ⟨X, hX⟩ : ∃ X, X = put11 w1 w.heap.size (.int .i64 o.kind) (.int .i64 o.node) (.int .i64 o.life) (.int .i64 o.epoch) (.string s1) (.int .i64 o.func) (.slice aa1 al1 ac1) (.int .i64 o.err) (.int .i64 o.val) (.int .i64 o.vep) (.slice ma1 ml1 mc1) := ⟨_, rfl⟩; rw [← hX] at HX2 HB2; unfold put11 at hX; have HE := hide hX; clear hX; obtain ⟨m1, m2, m3, m4, ⟨aa1', al1', ac1', eqa, hal, -⟩, ⟨ma1', ml1', mc1', eqm, hml, -, -, hmr, -⟩⟩ := hM1.out B X (HM.out.below HB2.out); simp only [Value.slice.injEq] at eqa eqm; obtain ⟨rfl, rfl, rfl⟩ := eqa; obtain ⟨rfl, rfl, rfl⟩ := eqm; have HAL := hide hal.out; have HML := hide hml.out; have HMR := hide hmr; have HID := hide m1; have hsz1 : s1.size ≤ 20000 := m2; have HA8 := hide (HT8.out al1 hal.out); clear m1 m2 m3 m4 hal hml hmr hM1; have hvv := HT5.out s1 HID.out; have h8 := of_decide_eq_true HA8.out.out; have h8d := HA8.out.out))
                        | (go_at_call 42; go_must (rw [← HE.out]; (with_reducible refine (refValid_any s1 (by unfold maxLen; omega) X).mono ?_); rintro e w2 ⟨rfl, rfl⟩; rw [hvv]; obtain ⟨k0, k1, k2, k3, k4, k5, k6, k7, k8, k9, k10⟩ := HX2.out.c11))
                        | (go_at_call 43; go_must ((with_reducible refine (C2.out _).mono ?_); rintro e w3 ⟨rfl, rfl⟩))
                        | (go_at_call 44; first | ((with_reducible refine (C3.out _).mono ?_); rintro e w4 ⟨rfl, rfl⟩) | ((with_reducible refine (C4.out _).mono ?_); rintro e w5 ⟨rfl, rfl⟩))
                        | (go_at_call 45; go_must ((with_reducible refine (C9.out _).mono ?_); rintro e w6 ⟨rfl, hb6⟩; have HB6 := hide (HB2.out.trans (hb6.mono HB2.out.size)); obtain ⟨-, -, -, -, -, -, -, -, -, o9, o10⟩ := (HX2.out.below hb6).c11))
                        | (go_at_call 46; go_must ((with_reducible refine (C10.out _ _ _ _ HML.out (HMR.out.below hb6)).mono ?_); rintro e w7 ⟨rfl, hb7⟩; have HB7 := hide (HB6.out.trans (hb7.mono HB6.out.size)))))
                      go_ret
                      exact ⟨by rw [HMN.out]; rfl, HB7.out⟩
                    | true =>
                      go_enter Try.func24, Try.ntmps24
                      go_wp2_with (first
                        | (go_at_call 16; go_must (rw [← HV.out]; (with_reducible refine (CC.out V).mono ?_); rintro e w1 ⟨s1, aa1, al1, ac1, ma1, ml1, mc1, rfl, hM1, hb1⟩; simp only [Nv]; have HX1 := hide (HX.out.below hb1); have HB1 := hide (HB.out.trans (hb1.mono HB.out.size)); obtain ⟨e0, e1, e2, e3, e4, e5, e6, e7, e8, e9, e10⟩ := HX1.out.c11; obtain ⟨u0, u1, u2, u3, u4, u5, u6, u7, u8, u9, u10⟩ := HX1.out.f11; have HX2 := hide (put11_box HX1.out (.int .i64 o.kind) (.int .i64 o.node) (.int .i64 o.life) (.int .i64 o.epoch) (.string s1) (.int .i64 o.func) (.slice aa1 al1 ac1) (.int .i64 o.err) (.int .i64 o.val) (.int .i64 o.vep) (.slice ma1 ml1 mc1)); have HB2 := hide (put11_below (g := w.heap.size) HB1.out (Nat.le_refl _) (.int .i64 o.kind) (.int .i64 o.node) (.int .i64 o.life) (.int .i64 o.epoch) (.string s1) (.int .i64 o.func) (.slice aa1 al1 ac1) (.int .i64 o.err) (.int .i64 o.val) (.int .i64 o.vep) (.slice ma1 ml1 mc1)); obtain ⟨X, hX⟩ : ∃ X, X = put11 w1 w.heap.size (.int .i64 o.kind) (.int .i64 o.node) (.int .i64 o.life) (.int .i64 o.epoch) (.string s1) (.int .i64 o.func) (.slice aa1 al1 ac1) (.int .i64 o.err) (.int .i64 o.val) (.int .i64 o.vep) (.slice ma1 ml1 mc1) := ⟨_, rfl⟩; rw [← hX] at HX2 HB2; unfold put11 at hX; have HE := hide hX; clear hX; obtain ⟨m1, m2, m3, m4, ⟨aa1', al1', ac1', eqa, hal, -⟩, ⟨ma1', ml1', mc1', eqm, hml, -, -, hmr, -⟩⟩ := hM1.out B X (HM.out.below HB2.out); simp only [Value.slice.injEq] at eqa eqm; obtain ⟨rfl, rfl, rfl⟩ := eqa; obtain ⟨rfl, rfl, rfl⟩ := eqm; have HAL := hide hal.out; have HML := hide hml.out; have HMR := hide hmr; have HID := hide m1; have hsz1 : s1.size ≤ 20000 := m2; have HA8 := hide (HT8.out al1 hal.out); clear m1 m2 m3 m4 hal hml hmr hM1; have hvv := HT5.out s1 HID.out; have h8 := of_decide_eq_true HA8.out.out; have h8d := HA8.out.out))
                        | (go_at_call 42; go_must (rw [← HE.out]; (with_reducible refine (refValid_any s1 (by unfold maxLen; omega) X).mono ?_); rintro e w2 ⟨rfl, rfl⟩; rw [hvv]; obtain ⟨k0, k1, k2, k3, k4, k5, k6, k7, k8, k9, k10⟩ := HX2.out.c11))
                        | (go_at_call 43; go_must ((with_reducible refine (C2.out _).mono ?_); rintro e w3 ⟨rfl, rfl⟩))
                        | (go_at_call 44; first | ((with_reducible refine (C3.out _).mono ?_); rintro e w4 ⟨rfl, rfl⟩) | ((with_reducible refine (C4.out _).mono ?_); rintro e w5 ⟨rfl, rfl⟩))
                        | (go_at_call 45; go_must ((with_reducible refine (C9.out _).mono ?_); rintro e w6 ⟨rfl, hb6⟩; have HB6 := hide (HB2.out.trans (hb6.mono HB2.out.size)); obtain ⟨-, -, -, -, -, -, -, -, -, o9, o10⟩ := (HX2.out.below hb6).c11))
                        | (go_at_call 46; go_must ((with_reducible refine (C10.out _ _ _ _ HML.out (HMR.out.below hb6)).mono ?_); rintro e w7 ⟨rfl, hb7⟩; have HB7 := hide (HB6.out.trans (hb7.mono HB6.out.size)))))
                      go_ret
                      exact ⟨by rw [HMN.out]; rfl, HB7.out⟩

/-- gleanerref10.MayNote. -/
theorem rmay_any (n : No) (s : ByteArray) (aa ma : Option Addr) (al ac ml mc : Nat) (B : Nat) (w : World) (hM : NM B w n s (.slice aa al ac) (.slice ma ml mc)) : Calls Try.prog 24 #[Nv n s (.slice aa al ac) (.slice ma ml mc)] w fun e w' => e = .returned (.bool (mayN (clearN n))) ∧ Below w.heap.size w w' := by
  obtain ⟨t, ht⟩ : ∃ t : ByteArray, uN t.data.toList = (clearN n).id := by
    by_cases h : isKind n.kind = true ∧ hasId n.kind = true
    · refine ⟨s, ?_⟩
      rw [hM.1]; unfold clearN; rw [if_pos h.1]; simp [h.2]
    · refine ⟨⟨#[]⟩, ?_⟩
      unfold clearN
      split
      · rename_i hk
        have : hasId n.kind = false := by
          cases hq : hasId n.kind with
          | false => rfl
          | true => exact absurd ⟨hk, hq⟩ h
        simp [this, uN]
      · rfl
  refine rmay_go n (clearN n) s aa ma al ac ml mc B w _ _ _ _ _ _ _ _ _ _ (mayN (clearN n)) (hide fun W => rcl_any n s aa ma al ac ml mc W) hM (hide rfl) (hide fun W => node_any _ W) (hide fun W => rnum_any _ W) (hide fun W => rnum_any _ W) (hide fun s1 h => (show validL s1.data.toList = validL t.data.toList by rw [uN_inj (h.trans ht.symm)])) (hide rfl) (hide rfl) (hide fun l hl => hide (show decide ((l : Int) ≤ 8) = decide ((clearN n).args.length ≤ 8) by rw [hl]; by_cases h : l ≤ 8 <;> simp [h] <;> omega)) (hide fun W => rres_any _ _ W) (hide fun W a l c hl hr => rview_any _ _ a l c W hl hr) ?_
  exact hide (mayC_tests (clearN n) t ht (clear_kinds n))

end Go.Proofs.Ytgkpioleipefmaa
