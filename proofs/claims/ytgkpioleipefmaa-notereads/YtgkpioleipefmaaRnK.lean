/- The document's reader, kind by kind. -/
import Derived.Test.YtgkpioleipefmaaRdn
namespace Go.Proofs.Ytgkpioleipefmaa
open Go.RowKit Go.ChangeShapes Go.WideShapes Go.ChangeAt Go.Deep
set_option linter.unusedSimpArgs false

theorem own_m {w : World} {B n : Nat} {v : Value} {xs : List Value} (h : w.ownsRow B 50 2 v n xs) : ∃ a c, v = .slice a n c := by
  rcases h.2 with ⟨rfl, rfl⟩ | ⟨g, cap, cur, rfl, _⟩
  · exact ⟨none, 0, rfl⟩
  · exact ⟨_, cap, rfl⟩
theorem mem_step {K k : Nat} {q0 q1 q2 : List Nat} {d1 d2 : Bool} {y1 y2 : Int} {lm : List (Int × Int)} {Z : List (Int × Int) × List Nat × Bool} (h : Z = (lm ++ (rdMem (K - k) (q0, false)).1, (rdMem (K - k) (q0, false)).2)) (hk : k < K) (e3 : rdInt q0 false = (y1, q1, d1)) (e4 : rdInt q1 d1 = (y2, q2, d2)) : Z = ((lm ++ [(y1, y2)]) ++ (rdMem (K - (k + 1)) (q2, d2)).1, (rdMem (K - (k + 1)) (q2, d2)).2) := by
  rw [h, show K - k = (K - (k + 1)) + 1 by omega, rdMem_one, e3]
  simp only
  rw [e4]
  simp

set_option maxRecDepth 100000 in
set_option maxHeartbeats 16000000 in
theorem rn_2 (a : Option Addr) (l c : Nat) (bs : List Nat) (w : World) (hs : SrcA w a l c bs) (r0 : List Nat) (b0 : Bool) (e0 : rdInt bs false = (2, r0, b0)) : Calls Try.prog 18 #[.slice a l c] w (RNPost bs w) := by
  obtain ⟨⟨x1, r1, b1⟩, e1⟩ : ∃ z, rdInt r0 b0 = z := ⟨_, rfl⟩
  obtain ⟨⟨m, r2, b2⟩, e2⟩ : ∃ z, rdInt r1 b1 = z := ⟨_, rfl⟩
  have HRD := hide (show rdNote 20 bs = (⟨2, 0, 0, 0, [], 0, [], 0, 0, x1, (rdMem (min m.toNat 20) (r2, b2)).1⟩, (rdMem (min m.toNat 20) (r2, b2)).2) by
    simp [rdNote, hasView, hasEpoch, hasLife, hasNode, hasId, hasRes, hasFunc, rdI, rdB, rdMany, e0, e1, e2])
  have K0 := hide (fun W (h : RS w W a l c bs bs false no0 ⟨#[]⟩ (.slice none 0 0) (.slice none 0 0)) => h.int hs)
  simp only [e0] at K0
  have K1 := hide (fun W n s av mv (h : RS w W a l c bs r0 b0 n s av mv) => h.int hs)
  simp only [e1] at K1
  have K2 := hide (fun W n s av mv (h : RS w W a l c bs r1 b1 n s av mv) => h.int hs)
  simp only [e2] at K2
  have H0 := hide (rs_start (w := w) (a := a) (l := l) (c := c) (bs := bs))
  obtain ⟨V, hV⟩ : ∃ V, V = ((w.alloc (.cells #[.int .i64 0, .int .i64 0, .int .i64 0, .int .i64 0, .string ⟨#[]⟩, .int .i64 0, .slice none 0 0, .int .i64 0, .int .i64 0, .int .i64 0, .slice none 0 0] 31)).alloc (.cells #[.slice a l c, .int .i64 0, .bool false] 73)).alloc (.cells #[.int .i64 0, .int .i64 0, .int .i64 0, .int .i64 0, .string ⟨#[]⟩, .int .i64 0, .slice none 0 0, .int .i64 0, .int .i64 0, .int .i64 0, .slice none 0 0] 31) := ⟨_, rfl⟩
  rw [← hV] at H0
  have HV := hide hV
  have HSA := hide hs
  clear hV e0 e1 e2 hs
  go_enter Try.func18, Try.ntmps18
  go_wp2_with (first
    | (go_at_call 32; ((rw [← HV.out]; (with_reducible refine (K0.out V H0.out).mono ?_)); rintro e w0 ⟨rfl, h0⟩; have kc0 := (h0.box.2 0 (by simp [Nc])).1; have kf0 := (h0.box.2 0 (by simp [Nc])).2; have HS0 := hide (h0.put0 2); clear h0))
    | (go_at_call 32; ((with_reducible refine (K1.out _ _ _ _ _ HS0.out).mono ?_); rintro e w1 ⟨rfl, h1⟩; have kc1 := (h1.box.2 9 (by simp [Nc])).1; have kf1 := (h1.box.2 9 (by simp [Nc])).2; have HS1 := hide (h1.put9 x1); clear h1))
    | (go_at_call 32; ((with_reducible refine (K2.out _ _ _ _ _ HS1.out).mono ?_); rintro e w2 ⟨rfl, h2⟩; have HS2 := hide h2; clear h2)))
  clear kc0 kf0 kc1 kf1
  go_loopw [8, 9] (fun i _ wr => ∃ (k : Nat) (lm : List (Int × Int)) (q0 : List Nat) (d0 : Bool) (mv : Value), k ≤ 20 ∧ i = .int .i64 (k : Nat) ∧ Hid (lm.length = k) ∧ Hid (RS w wr a l c bs q0 d0 ⟨2, 0, 0, 0, [], 0, [], 0, 0, x1, lm⟩ ⟨#[]⟩ (.slice none 0 0) mv) ∧ Hid (rdMem (min m.toNat 20) (r2, b2) = (lm ++ (rdMem (min m.toNat 20 - k) (q0, d0)).1, (rdMem (min m.toNat 20 - k) (q0, d0)).2))) (fun i _ _ => 20 - (intOf i).toNat)
  case atStart => exact ⟨0, [], r2, b2, _, Nat.zero_le _, rfl, hide rfl, HS2, hide (by simp)⟩
  case round =>
    obtain ⟨k, lm, q0, d0, mv, hk, rfl, HLM, HS, HRM⟩ := hrel
    clear HS2 HS1 HS0 H0
    have kb := HS.out.cur.bad
    by_cases hgo : (k : Int) < m ∧ k < 20 ∧ d0 = false
    · obtain ⟨hg1, hg2, rfl⟩ := hgo
      have hki : (k : Int) < 20 := by omega
      obtain ⟨⟨y1, q1, d1⟩, e3⟩ : ∃ z, rdInt q0 false = z := ⟨_, rfl⟩
      obtain ⟨⟨y2, q2, d2⟩, e4⟩ : ∃ z, rdInt q1 d1 = z := ⟨_, rfl⟩
      have HRM2 := hide (mem_step HRM.out (by omega) e3 e4)
      have K3 := hide (fun W n s av mv (h : RS w W a l c bs q0 false n s av mv) => h.intG HSA.out)
      simp only [e3] at K3
      have K4 := hide (fun W n s av mv (h : RS w W a l c bs q1 d1 n s av mv) => h.intG HSA.out)
      simp only [e4] at K4
      obtain ⟨am, cm, em⟩ := own_m HS.out.mem.2
      have HLM' := HLM.out
      simp only [HLM'] at em
      subst em
      have hx0 := below_new wr (.cells #[.int .i64 0, .int .i64 0] 50)
      have HBX := hide (BoxL.new wr [.int .i64 0, .int .i64 0] 50)
      have HSX := hide (HS.out.below hx0)
      have HGX := hide (show wr.grownBy (wr.alloc (.cells #[.int .i64 0, .int .i64 0] 50)) (some (w.heap.size + 1)) from ⟨hx0.os, hx0.tape, hx0.output, hx0.size, fun k hk _ => hx0.block k hk⟩)
      obtain ⟨X1, hX1⟩ : ∃ X1, X1 = wr.alloc (.cells #[.int .i64 0, .int .i64 0] 50) := ⟨_, rfl⟩
      rw [← hX1] at HBX HSX HGX
      have HX1 := hide hX1
      have hbig := HS.out.big
      clear hX1 hx0 HLM' e3 e4
      go_wp2_with (first
        | (go_at_call 32; (rw [← HX1.out]; (with_reducible refine (K3.out X1 _ _ _ _ HSX.out).mono ?_); rintro e w3 ⟨rfl, h3, hg3⟩; have HG3 := hide (grown_put (g := wr.heap.size) (o := 0) (v := .int .i64 y1) (grown_by HGX.out hg3) (Nat.le_refl _)); have HB3 := hide (HBX.out.grown hg3 (by omega)); have hc3 := (HB3.out.2 0 (by simp)).1; have hf3 := (HB3.out.2 0 (by simp)).2; have HB3' := hide (HB3.out.put 0 (.int .i64 y1)); have HS3 := hide (HS.out.move HG3.out (h3.cur.keepb (Below.heap_setCell _ _ _ _ (by show w.heap.size + 1 ≠ wr.heap.size; omega))) h3.zero); clear h3 hg3))
        | (go_at_call 32; ((with_reducible refine (K4.out _ _ _ _ _ HS3.out).mono ?_); rintro e w4 ⟨rfl, h4, hg4⟩; have HG4 := hide (grown_put (g := wr.heap.size) (o := 1) (v := .int .i64 y2) (grown_by HG3.out hg4) (Nat.le_refl _)); have HB4 := hide (HB3'.out.grown hg4 (by omega)); have hc4 := (HB4.out.2 1 (by simp)).1; have hf4 := (HB4.out.2 1 (by simp)).2; have HB4' := hide (HB4.out.put 1 (.int .i64 y2)); have HS4 := hide (HS.out.move HG4.out (h4.cur.keepb (Below.heap_setCell _ _ _ _ (by show w.heap.size + 1 ≠ wr.heap.size; omega))) h4.zero); have hm0 := (HB4'.out.2 0 (by simp)).1; have hm1 := (HB4'.out.2 1 (by simp)).1; have hm10 := (show (w4.setCell ⟨wr.heap.size, 1, none⟩ (.int .i64 y2)).cell? ⟨w.heap.size + 2, 10, none⟩ = some (.slice am k cm) from (HS4.out.box.2 10 (by simp [Nc])).1); clear h4 hg4 hc3 hf3))
        | (at_builtin; go_must (refine append_m rfl (.tmp 55) (.tmp 57) rfl (w.heap.size + 3) (.slice am k cm) k lm rfl (by have h := (HS4.out.below (below_new _ (.cells #[.int .i64 y1, .int .i64 y2] 50))).mem.2; simp only [HLM.out] at h; exact h) (some ⟨w4.heap.size, 0, none⟩) 1 1 [(y1, y2)] rfl (fun e => by cases e) rfl (by have h := reads_new (w4.setCell ⟨wr.heap.size, 1, none⟩ (.int .i64 y2)) (mV [(y1, y2)]) 50; simp only [World.setCell, Array.size_modify] at h; exact h) (by omega) (by have h := (HS4.out.below (below_new _ (.cells #[.int .i64 y1, .int .i64 y2] 50))).big; exact h) ?_; intro v5 w5 ho5 hg5; have HS5 := hide ((HS4.out.below (below_new _ (.cells #[.int .i64 y1, .int .i64 y2] 50))).pushm (x := (y1, y2)) rfl (by simp only [HLM.out]; exact hg2) (by simp only [HLM.out]; exact ho5) hg5); obtain ⟨a5, c5, e5⟩ := own_m ho5; subst e5; have hb5 := RS.boxx (HS4.out.below (below_new _ (.cells #[.int .i64 y1, .int .i64 y2] 50))) hg5; have hc5 := hb5.1; have hf5 := hb5.2; clear ho5 hg5 hb5)))
      go_roundw
      case rel => exact ⟨k + 1, lm ++ [(y1, y2)], q2, d2, _, by omega, by go_num, hide (by simp [HLM.out]), HS5, HRM2⟩
      case measure => simp [intOf]; omega
    · have HRN := hide (show rdNote 20 bs = (⟨2, 0, 0, 0, [], 0, [], 0, 0, x1, lm⟩, q0, d0) by
        have e : rdMem (min m.toNat 20 - k) (q0, d0) = ([], q0, d0) := by
          by_cases h1 : (k : Int) < m ∧ k < 20
          · have h2 : d0 = true := by
              cases d0 with
              | true => rfl
              | false => exact absurd ⟨h1.1, h1.2, rfl⟩ hgo
            rw [h2]; exact rdMem_end _ _
          · have h2 : min m.toNat 20 - k = 0 := by omega
            rw [h2]; rfl
        rw [HRD.out, HRM.out, e]
        simp)
      by_cases h1 : (k : Int) < m
      · by_cases h2 : k < 20
        · have hd : d0 = true := by
            cases d0 with
            | true => rfl
            | false => exact absurd ⟨h1, h2, rfl⟩ hgo
          have hki : (k : Int) < 20 := by omega
          rw [hd] at kb
          clear hgo hd
          go_upto_region 36 with fail
          clear kb
          obtain ⟨av9, mv9, HT⟩ : ∃ av9 mv9, Hid (RS w (wr) a l c bs q0 d0 ⟨2, 0, 0, 0, [], 0, [], 0, 0, x1, lm⟩ ⟨#[]⟩ av9 mv9) := ⟨(.slice none 0 0), mv, HS⟩
          generalize wr = X at HT ⊢
          obtain ⟨n, hnn⟩ : ∃ n : No, n = ⟨2, 0, 0, 0, [], 0, [], 0, 0, x1, lm⟩ := ⟨_, rfl⟩
          rw [← hnn] at HT HRN
          clear hnn
          obtain ⟨s9, hs9⟩ : ∃ s9 : ByteArray, s9 = ⟨#[]⟩ := ⟨_, rfl⟩
          rw [← hs9] at HT
          clear hs9
          have HIN := hide (rdNote_in bs)
          rw [HRN.out] at HIN
          have hNM9 := HT.out.nm
          obtain ⟨-, -, -, -, ⟨aa, al, ac, rfl, -⟩, ⟨ma, ml, mc, rfl, -⟩⟩ := hNM9
          have HNM := hide HT.out.nm
          have HNM3 := hide (HT.out.nm3)
          obtain ⟨k0, k1, k2, k3, k4, k5, k6, k7, k8, k9, k10⟩ := (show BoxL X (w.heap.size + 2) [.int .i64 n.kind, .int .i64 n.node, .int .i64 n.life, .int .i64 n.epoch, .string s9, .int .i64 n.func, .slice aa al ac, .int .i64 n.err, .int .i64 n.val, .int .i64 n.vep, .slice ma ml mc] from HT.out.box).c11
          by_cases hm : mayN (clearN n) = true
          · have C12 := hide (rpackQ n s9 _ _ _ X HNM.out HIN.out hm)
            simp only [Nv] at C12
            unfold RP at C12
            have hBy := nm_byt HNM.out HIN.out
            have HE1 := hide (bstr_eq hBy HSA.out.byt)
            cases hbb : d0 with
            | true =>
              have HNO := hide (okR_no HRN.out (.inl hbb))
              go_upto_region 37 with (go_at_call 12; go_must ((with_reducible refine C12.out.mono ?_); rintro e w5 ⟨a5, m5, c5, rfl, hm5, -, -, hr5, hb5⟩))
              have HR5 := hide (HT.out.res.below hb5)
              have HN5 := hide ((show BoxL X (w.heap.size + 2) [.int .i64 n.kind, .int .i64 n.node, .int .i64 n.life, .int .i64 n.epoch, .string s9, .int .i64 n.func, .slice aa al ac, .int .i64 n.err, .int .i64 n.val, .int .i64 n.vep, .slice ma ml mc] from HT.out.box).below hb5)
              have HL5 := hide (HT.out.low.trans (hb5.mono HT.out.low.size))
              have HM5 := hide (HNM3.out.below hb5)
              have kb := keep_cell HT.out.cur.bad hb5
              clear k0 k1 k2 k3 k4 k5 k6 k7 k8 k9 k10
              rw [hbb] at kb
              clear hbb
              obtain ⟨q0, q1, q2, q3, q4, q5, q6, q7, q8, q9, q10⟩ := HR5.out.c11
              obtain ⟨v0, v1, v2, v3, v4, v5, v6, v7, v8, v9, v10⟩ := HR5.out.f11
              go_wp2
              have HX7 := hide (put11_box HR5.out (.int .i64 0) (.int .i64 0) (.int .i64 0) (.int .i64 0) (.string ⟨#[]⟩) (.int .i64 0) (.slice none 0 0) (.int .i64 0) (.int .i64 0) (.int .i64 0) (.slice none 0 0))
              have HB7 := hide (put11_below (g := w.heap.size) HL5.out (Nat.le_refl _) (.int .i64 0) (.int .i64 0) (.int .i64 0) (.int .i64 0) (.string ⟨#[]⟩) (.int .i64 0) (.slice none 0 0) (.int .i64 0) (.int .i64 0) (.int .i64 0) (.slice none 0 0))
              obtain ⟨Y, hY⟩ : ∃ Y, Y = put11 w5 w.heap.size (.int .i64 0) (.int .i64 0) (.int .i64 0) (.int .i64 0) (.string ⟨#[]⟩) (.int .i64 0) (.slice none 0 0) (.int .i64 0) (.int .i64 0) (.int .i64 0) (.slice none 0 0) := ⟨_, rfl⟩
              rw [← hY] at HX7 HB7
              unfold put11 at hY
              rw [← hY]
              clear hY
              obtain ⟨x0, x1, x2, x3, x4, x5, x6, x7, x8, x9, x10⟩ := HX7.out.c11
              refine bodyPost_ret (v := .tuple #[.agg #[.int .i64 0, .int .i64 0, .int .i64 0, .int .i64 0, .string ⟨#[]⟩, .int .i64 0, .slice none 0 0, .int .i64 0, .int .i64 0, .int .i64 0, .slice none 0 0], .int .i64 4]) (by simp [results, Try.results18, go_sem, x0, x1, x2, x3, x4, x5, x6, x7, x8, x9, x10]) rfl ?_
              unfold RNPost
              rw [HNO.out]
              exact ⟨rfl, HB7.out⟩
            | false =>
              by_cases he : encN (clearN n) = bs
              · have HYES := hide (okR_yes (by rw [HRN.out, hbb]) hm he)
                rw [decide_eq_true he] at HE1
                go_upto_region 37 with (go_at_call 12; go_must ((with_reducible refine C12.out.mono ?_); rintro e w5 ⟨a5, m5, c5, rfl, hm5, -, -, hr5, hb5⟩))
                have HR5 := hide (HT.out.res.below hb5)
                have HN5 := hide ((show BoxL X (w.heap.size + 2) [.int .i64 n.kind, .int .i64 n.node, .int .i64 n.life, .int .i64 n.epoch, .string s9, .int .i64 n.func, .slice aa al ac, .int .i64 n.err, .int .i64 n.val, .int .i64 n.vep, .slice ma ml mc] from HT.out.box).below hb5)
                have HL5 := hide (HT.out.low.trans (hb5.mono HT.out.low.size))
                have HM5 := hide (HNM3.out.below hb5)
                have kb := keep_cell HT.out.cur.bad hb5
                clear k0 k1 k2 k3 k4 k5 k6 k7 k8 k9 k10
                rw [hbb] at kb
                clear hbb
                have kcw := run_str (S := bstr (encN (clearN n))) rfl hm5.out hr5.out c5
                have kcb := run_str (S := bstr bs) rfl HSA.out.len (HSA.out.reads.below HL5.out) c
                generalize bstr (encN (clearN n)) = S1 at kcw HE1
                generalize bstr bs = S2 at kcb HE1
                have hE1 := HE1.out
                obtain ⟨q0, q1, q2, q3, q4, q5, q6, q7, q8, q9, q10⟩ := HR5.out.c11
                obtain ⟨v0, v1, v2, v3, v4, v5, v6, v7, v8, v9, v10⟩ := HR5.out.f11
                obtain ⟨g0, g1, g2, g3, g4, g5, g6, g7, g8, g9, g10⟩ := HN5.out.c11
                go_wp2
                have HX7 := hide (put11_box HR5.out (.int .i64 n.kind) (.int .i64 n.node) (.int .i64 n.life) (.int .i64 n.epoch) (.string s9) (.int .i64 n.func) (.slice aa al ac) (.int .i64 n.err) (.int .i64 n.val) (.int .i64 n.vep) (.slice ma ml mc))
                have HB7 := hide (put11_below (g := w.heap.size) HL5.out (Nat.le_refl _) (.int .i64 n.kind) (.int .i64 n.node) (.int .i64 n.life) (.int .i64 n.epoch) (.string s9) (.int .i64 n.func) (.slice aa al ac) (.int .i64 n.err) (.int .i64 n.val) (.int .i64 n.vep) (.slice ma ml mc))
                have HM7 := hide (HM5.out.keep (w' := put11 w5 w.heap.size (.int .i64 n.kind) (.int .i64 n.node) (.int .i64 n.life) (.int .i64 n.epoch) (.string s9) (.int .i64 n.func) (.slice aa al ac) (.int .i64 n.err) (.int .i64 n.val) (.int .i64 n.vep) (.slice ma ml mc)) (fun k h1 _ => put11_keep (by omega) (.int .i64 n.kind) (.int .i64 n.node) (.int .i64 n.life) (.int .i64 n.epoch) (.string s9) (.int .i64 n.func) (.slice aa al ac) (.int .i64 n.err) (.int .i64 n.val) (.int .i64 n.vep) (.slice ma ml mc)))
                obtain ⟨Y, hY⟩ : ∃ Y, Y = put11 w5 w.heap.size (.int .i64 n.kind) (.int .i64 n.node) (.int .i64 n.life) (.int .i64 n.epoch) (.string s9) (.int .i64 n.func) (.slice aa al ac) (.int .i64 n.err) (.int .i64 n.val) (.int .i64 n.vep) (.slice ma ml mc) := ⟨_, rfl⟩
                rw [← hY] at HX7 HB7 HM7
                unfold put11 at hY
                rw [← hY]
                clear hY
                obtain ⟨x0, x1, x2, x3, x4, x5, x6, x7, x8, x9, x10⟩ := HX7.out.c11
                refine bodyPost_ret (v := .tuple #[.agg #[.int .i64 n.kind, .int .i64 n.node, .int .i64 n.life, .int .i64 n.epoch, .string s9, .int .i64 n.func, .slice aa al ac, .int .i64 n.err, .int .i64 n.val, .int .i64 n.vep, .slice ma ml mc], .int .i64 0]) (by simp [results, Try.results18, go_sem, x0, x1, x2, x3, x4, x5, x6, x7, x8, x9, x10]) rfl ?_
                unfold RNPost
                rw [HYES.out, if_pos rfl, HRN.out]
                exact ⟨s9, .slice aa al ac, .slice ma ml mc, rfl, HM7.out.mono (by omega), HB7.out⟩
              · have HNO := hide (okR_no HRN.out (.inr (.inr he)))
                rw [decide_eq_false he] at HE1
                go_upto_region 37 with (go_at_call 12; go_must ((with_reducible refine C12.out.mono ?_); rintro e w5 ⟨a5, m5, c5, rfl, hm5, -, -, hr5, hb5⟩))
                have HR5 := hide (HT.out.res.below hb5)
                have HN5 := hide ((show BoxL X (w.heap.size + 2) [.int .i64 n.kind, .int .i64 n.node, .int .i64 n.life, .int .i64 n.epoch, .string s9, .int .i64 n.func, .slice aa al ac, .int .i64 n.err, .int .i64 n.val, .int .i64 n.vep, .slice ma ml mc] from HT.out.box).below hb5)
                have HL5 := hide (HT.out.low.trans (hb5.mono HT.out.low.size))
                have HM5 := hide (HNM3.out.below hb5)
                have kb := keep_cell HT.out.cur.bad hb5
                clear k0 k1 k2 k3 k4 k5 k6 k7 k8 k9 k10
                rw [hbb] at kb
                clear hbb
                have kcw := run_str (S := bstr (encN (clearN n))) rfl hm5.out hr5.out c5
                have kcb := run_str (S := bstr bs) rfl HSA.out.len (HSA.out.reads.below HL5.out) c
                generalize bstr (encN (clearN n)) = S1 at kcw HE1
                generalize bstr bs = S2 at kcb HE1
                have hE1 := HE1.out
                obtain ⟨q0, q1, q2, q3, q4, q5, q6, q7, q8, q9, q10⟩ := HR5.out.c11
                obtain ⟨v0, v1, v2, v3, v4, v5, v6, v7, v8, v9, v10⟩ := HR5.out.f11
                go_wp2
                have HX7 := hide (put11_box HR5.out (.int .i64 0) (.int .i64 0) (.int .i64 0) (.int .i64 0) (.string ⟨#[]⟩) (.int .i64 0) (.slice none 0 0) (.int .i64 0) (.int .i64 0) (.int .i64 0) (.slice none 0 0))
                have HB7 := hide (put11_below (g := w.heap.size) HL5.out (Nat.le_refl _) (.int .i64 0) (.int .i64 0) (.int .i64 0) (.int .i64 0) (.string ⟨#[]⟩) (.int .i64 0) (.slice none 0 0) (.int .i64 0) (.int .i64 0) (.int .i64 0) (.slice none 0 0))
                obtain ⟨Y, hY⟩ : ∃ Y, Y = put11 w5 w.heap.size (.int .i64 0) (.int .i64 0) (.int .i64 0) (.int .i64 0) (.string ⟨#[]⟩) (.int .i64 0) (.slice none 0 0) (.int .i64 0) (.int .i64 0) (.int .i64 0) (.slice none 0 0) := ⟨_, rfl⟩
                rw [← hY] at HX7 HB7
                unfold put11 at hY
                rw [← hY]
                clear hY
                obtain ⟨x0, x1, x2, x3, x4, x5, x6, x7, x8, x9, x10⟩ := HX7.out.c11
                refine bodyPost_ret (v := .tuple #[.agg #[.int .i64 0, .int .i64 0, .int .i64 0, .int .i64 0, .string ⟨#[]⟩, .int .i64 0, .slice none 0 0, .int .i64 0, .int .i64 0, .int .i64 0, .slice none 0 0], .int .i64 4]) (by simp [results, Try.results18, go_sem, x0, x1, x2, x3, x4, x5, x6, x7, x8, x9, x10]) rfl ?_
                unfold RNPost
                rw [HNO.out]
                exact ⟨rfl, HB7.out⟩
          · have HNO := hide (okR_no HRN.out (.inr (.inl (by simpa using hm))))
            have C12 := hide (rpackN n s9 _ _ _ X HNM.out HIN.out (by simpa using hm))
            simp only [Nv] at C12
            go_upto_region 37 with (go_at_call 12; go_must ((with_reducible refine C12.out.mono ?_); rintro e w5 ⟨rfl, hb5⟩))
            have HR5 := hide (HT.out.res.below hb5)
            have HN5 := hide ((show BoxL X (w.heap.size + 2) [.int .i64 n.kind, .int .i64 n.node, .int .i64 n.life, .int .i64 n.epoch, .string s9, .int .i64 n.func, .slice aa al ac, .int .i64 n.err, .int .i64 n.val, .int .i64 n.vep, .slice ma ml mc] from HT.out.box).below hb5)
            have HL5 := hide (HT.out.low.trans (hb5.mono HT.out.low.size))
            have HM5 := hide (HNM3.out.below hb5)
            have kb := keep_cell HT.out.cur.bad hb5
            clear k0 k1 k2 k3 k4 k5 k6 k7 k8 k9 k10
            cases hbb : d0 with
            | true =>
              rw [hbb] at kb
              clear hbb
              obtain ⟨q0, q1, q2, q3, q4, q5, q6, q7, q8, q9, q10⟩ := HR5.out.c11
              obtain ⟨v0, v1, v2, v3, v4, v5, v6, v7, v8, v9, v10⟩ := HR5.out.f11
              go_wp2
              have HX7 := hide (put11_box HR5.out (.int .i64 0) (.int .i64 0) (.int .i64 0) (.int .i64 0) (.string ⟨#[]⟩) (.int .i64 0) (.slice none 0 0) (.int .i64 0) (.int .i64 0) (.int .i64 0) (.slice none 0 0))
              have HB7 := hide (put11_below (g := w.heap.size) HL5.out (Nat.le_refl _) (.int .i64 0) (.int .i64 0) (.int .i64 0) (.int .i64 0) (.string ⟨#[]⟩) (.int .i64 0) (.slice none 0 0) (.int .i64 0) (.int .i64 0) (.int .i64 0) (.slice none 0 0))
              obtain ⟨Y, hY⟩ : ∃ Y, Y = put11 w5 w.heap.size (.int .i64 0) (.int .i64 0) (.int .i64 0) (.int .i64 0) (.string ⟨#[]⟩) (.int .i64 0) (.slice none 0 0) (.int .i64 0) (.int .i64 0) (.int .i64 0) (.slice none 0 0) := ⟨_, rfl⟩
              rw [← hY] at HX7 HB7
              unfold put11 at hY
              rw [← hY]
              clear hY
              obtain ⟨x0, x1, x2, x3, x4, x5, x6, x7, x8, x9, x10⟩ := HX7.out.c11
              refine bodyPost_ret (v := .tuple #[.agg #[.int .i64 0, .int .i64 0, .int .i64 0, .int .i64 0, .string ⟨#[]⟩, .int .i64 0, .slice none 0 0, .int .i64 0, .int .i64 0, .int .i64 0, .slice none 0 0], .int .i64 4]) (by simp [results, Try.results18, go_sem, x0, x1, x2, x3, x4, x5, x6, x7, x8, x9, x10]) rfl ?_
              unfold RNPost
              rw [HNO.out]
              exact ⟨rfl, HB7.out⟩
            | false =>
              rw [hbb] at kb
              clear hbb
              obtain ⟨q0, q1, q2, q3, q4, q5, q6, q7, q8, q9, q10⟩ := HR5.out.c11
              obtain ⟨v0, v1, v2, v3, v4, v5, v6, v7, v8, v9, v10⟩ := HR5.out.f11
              go_wp2
              have HX7 := hide (put11_box HR5.out (.int .i64 0) (.int .i64 0) (.int .i64 0) (.int .i64 0) (.string ⟨#[]⟩) (.int .i64 0) (.slice none 0 0) (.int .i64 0) (.int .i64 0) (.int .i64 0) (.slice none 0 0))
              have HB7 := hide (put11_below (g := w.heap.size) HL5.out (Nat.le_refl _) (.int .i64 0) (.int .i64 0) (.int .i64 0) (.int .i64 0) (.string ⟨#[]⟩) (.int .i64 0) (.slice none 0 0) (.int .i64 0) (.int .i64 0) (.int .i64 0) (.slice none 0 0))
              obtain ⟨Y, hY⟩ : ∃ Y, Y = put11 w5 w.heap.size (.int .i64 0) (.int .i64 0) (.int .i64 0) (.int .i64 0) (.string ⟨#[]⟩) (.int .i64 0) (.slice none 0 0) (.int .i64 0) (.int .i64 0) (.int .i64 0) (.slice none 0 0) := ⟨_, rfl⟩
              rw [← hY] at HX7 HB7
              unfold put11 at hY
              rw [← hY]
              clear hY
              obtain ⟨x0, x1, x2, x3, x4, x5, x6, x7, x8, x9, x10⟩ := HX7.out.c11
              refine bodyPost_ret (v := .tuple #[.agg #[.int .i64 0, .int .i64 0, .int .i64 0, .int .i64 0, .string ⟨#[]⟩, .int .i64 0, .slice none 0 0, .int .i64 0, .int .i64 0, .int .i64 0, .slice none 0 0], .int .i64 4]) (by simp [results, Try.results18, go_sem, x0, x1, x2, x3, x4, x5, x6, x7, x8, x9, x10]) rfl ?_
              unfold RNPost
              rw [HNO.out]
              exact ⟨rfl, HB7.out⟩
        · have hki : ¬ (k : Int) < 20 := by omega
          clear hgo kb
          go_upto_region 36 with fail
          obtain ⟨av9, mv9, HT⟩ : ∃ av9 mv9, Hid (RS w (wr) a l c bs q0 d0 ⟨2, 0, 0, 0, [], 0, [], 0, 0, x1, lm⟩ ⟨#[]⟩ av9 mv9) := ⟨(.slice none 0 0), mv, HS⟩
          generalize wr = X at HT ⊢
          obtain ⟨n, hnn⟩ : ∃ n : No, n = ⟨2, 0, 0, 0, [], 0, [], 0, 0, x1, lm⟩ := ⟨_, rfl⟩
          rw [← hnn] at HT HRN
          clear hnn
          obtain ⟨s9, hs9⟩ : ∃ s9 : ByteArray, s9 = ⟨#[]⟩ := ⟨_, rfl⟩
          rw [← hs9] at HT
          clear hs9
          have HIN := hide (rdNote_in bs)
          rw [HRN.out] at HIN
          have hNM9 := HT.out.nm
          obtain ⟨-, -, -, -, ⟨aa, al, ac, rfl, -⟩, ⟨ma, ml, mc, rfl, -⟩⟩ := hNM9
          have HNM := hide HT.out.nm
          have HNM3 := hide (HT.out.nm3)
          obtain ⟨k0, k1, k2, k3, k4, k5, k6, k7, k8, k9, k10⟩ := (show BoxL X (w.heap.size + 2) [.int .i64 n.kind, .int .i64 n.node, .int .i64 n.life, .int .i64 n.epoch, .string s9, .int .i64 n.func, .slice aa al ac, .int .i64 n.err, .int .i64 n.val, .int .i64 n.vep, .slice ma ml mc] from HT.out.box).c11
          by_cases hm : mayN (clearN n) = true
          · have C12 := hide (rpackQ n s9 _ _ _ X HNM.out HIN.out hm)
            simp only [Nv] at C12
            unfold RP at C12
            have hBy := nm_byt HNM.out HIN.out
            have HE1 := hide (bstr_eq hBy HSA.out.byt)
            cases hbb : d0 with
            | true =>
              have HNO := hide (okR_no HRN.out (.inl hbb))
              go_upto_region 37 with (go_at_call 12; go_must ((with_reducible refine C12.out.mono ?_); rintro e w5 ⟨a5, m5, c5, rfl, hm5, -, -, hr5, hb5⟩))
              have HR5 := hide (HT.out.res.below hb5)
              have HN5 := hide ((show BoxL X (w.heap.size + 2) [.int .i64 n.kind, .int .i64 n.node, .int .i64 n.life, .int .i64 n.epoch, .string s9, .int .i64 n.func, .slice aa al ac, .int .i64 n.err, .int .i64 n.val, .int .i64 n.vep, .slice ma ml mc] from HT.out.box).below hb5)
              have HL5 := hide (HT.out.low.trans (hb5.mono HT.out.low.size))
              have HM5 := hide (HNM3.out.below hb5)
              have kb := keep_cell HT.out.cur.bad hb5
              clear k0 k1 k2 k3 k4 k5 k6 k7 k8 k9 k10
              rw [hbb] at kb
              clear hbb
              obtain ⟨q0, q1, q2, q3, q4, q5, q6, q7, q8, q9, q10⟩ := HR5.out.c11
              obtain ⟨v0, v1, v2, v3, v4, v5, v6, v7, v8, v9, v10⟩ := HR5.out.f11
              go_wp2
              have HX7 := hide (put11_box HR5.out (.int .i64 0) (.int .i64 0) (.int .i64 0) (.int .i64 0) (.string ⟨#[]⟩) (.int .i64 0) (.slice none 0 0) (.int .i64 0) (.int .i64 0) (.int .i64 0) (.slice none 0 0))
              have HB7 := hide (put11_below (g := w.heap.size) HL5.out (Nat.le_refl _) (.int .i64 0) (.int .i64 0) (.int .i64 0) (.int .i64 0) (.string ⟨#[]⟩) (.int .i64 0) (.slice none 0 0) (.int .i64 0) (.int .i64 0) (.int .i64 0) (.slice none 0 0))
              obtain ⟨Y, hY⟩ : ∃ Y, Y = put11 w5 w.heap.size (.int .i64 0) (.int .i64 0) (.int .i64 0) (.int .i64 0) (.string ⟨#[]⟩) (.int .i64 0) (.slice none 0 0) (.int .i64 0) (.int .i64 0) (.int .i64 0) (.slice none 0 0) := ⟨_, rfl⟩
              rw [← hY] at HX7 HB7
              unfold put11 at hY
              rw [← hY]
              clear hY
              obtain ⟨x0, x1, x2, x3, x4, x5, x6, x7, x8, x9, x10⟩ := HX7.out.c11
              refine bodyPost_ret (v := .tuple #[.agg #[.int .i64 0, .int .i64 0, .int .i64 0, .int .i64 0, .string ⟨#[]⟩, .int .i64 0, .slice none 0 0, .int .i64 0, .int .i64 0, .int .i64 0, .slice none 0 0], .int .i64 4]) (by simp [results, Try.results18, go_sem, x0, x1, x2, x3, x4, x5, x6, x7, x8, x9, x10]) rfl ?_
              unfold RNPost
              rw [HNO.out]
              exact ⟨rfl, HB7.out⟩
            | false =>
              by_cases he : encN (clearN n) = bs
              · have HYES := hide (okR_yes (by rw [HRN.out, hbb]) hm he)
                rw [decide_eq_true he] at HE1
                go_upto_region 37 with (go_at_call 12; go_must ((with_reducible refine C12.out.mono ?_); rintro e w5 ⟨a5, m5, c5, rfl, hm5, -, -, hr5, hb5⟩))
                have HR5 := hide (HT.out.res.below hb5)
                have HN5 := hide ((show BoxL X (w.heap.size + 2) [.int .i64 n.kind, .int .i64 n.node, .int .i64 n.life, .int .i64 n.epoch, .string s9, .int .i64 n.func, .slice aa al ac, .int .i64 n.err, .int .i64 n.val, .int .i64 n.vep, .slice ma ml mc] from HT.out.box).below hb5)
                have HL5 := hide (HT.out.low.trans (hb5.mono HT.out.low.size))
                have HM5 := hide (HNM3.out.below hb5)
                have kb := keep_cell HT.out.cur.bad hb5
                clear k0 k1 k2 k3 k4 k5 k6 k7 k8 k9 k10
                rw [hbb] at kb
                clear hbb
                have kcw := run_str (S := bstr (encN (clearN n))) rfl hm5.out hr5.out c5
                have kcb := run_str (S := bstr bs) rfl HSA.out.len (HSA.out.reads.below HL5.out) c
                generalize bstr (encN (clearN n)) = S1 at kcw HE1
                generalize bstr bs = S2 at kcb HE1
                have hE1 := HE1.out
                obtain ⟨q0, q1, q2, q3, q4, q5, q6, q7, q8, q9, q10⟩ := HR5.out.c11
                obtain ⟨v0, v1, v2, v3, v4, v5, v6, v7, v8, v9, v10⟩ := HR5.out.f11
                obtain ⟨g0, g1, g2, g3, g4, g5, g6, g7, g8, g9, g10⟩ := HN5.out.c11
                go_wp2
                have HX7 := hide (put11_box HR5.out (.int .i64 n.kind) (.int .i64 n.node) (.int .i64 n.life) (.int .i64 n.epoch) (.string s9) (.int .i64 n.func) (.slice aa al ac) (.int .i64 n.err) (.int .i64 n.val) (.int .i64 n.vep) (.slice ma ml mc))
                have HB7 := hide (put11_below (g := w.heap.size) HL5.out (Nat.le_refl _) (.int .i64 n.kind) (.int .i64 n.node) (.int .i64 n.life) (.int .i64 n.epoch) (.string s9) (.int .i64 n.func) (.slice aa al ac) (.int .i64 n.err) (.int .i64 n.val) (.int .i64 n.vep) (.slice ma ml mc))
                have HM7 := hide (HM5.out.keep (w' := put11 w5 w.heap.size (.int .i64 n.kind) (.int .i64 n.node) (.int .i64 n.life) (.int .i64 n.epoch) (.string s9) (.int .i64 n.func) (.slice aa al ac) (.int .i64 n.err) (.int .i64 n.val) (.int .i64 n.vep) (.slice ma ml mc)) (fun k h1 _ => put11_keep (by omega) (.int .i64 n.kind) (.int .i64 n.node) (.int .i64 n.life) (.int .i64 n.epoch) (.string s9) (.int .i64 n.func) (.slice aa al ac) (.int .i64 n.err) (.int .i64 n.val) (.int .i64 n.vep) (.slice ma ml mc)))
                obtain ⟨Y, hY⟩ : ∃ Y, Y = put11 w5 w.heap.size (.int .i64 n.kind) (.int .i64 n.node) (.int .i64 n.life) (.int .i64 n.epoch) (.string s9) (.int .i64 n.func) (.slice aa al ac) (.int .i64 n.err) (.int .i64 n.val) (.int .i64 n.vep) (.slice ma ml mc) := ⟨_, rfl⟩
                rw [← hY] at HX7 HB7 HM7
                unfold put11 at hY
                rw [← hY]
                clear hY
                obtain ⟨x0, x1, x2, x3, x4, x5, x6, x7, x8, x9, x10⟩ := HX7.out.c11
                refine bodyPost_ret (v := .tuple #[.agg #[.int .i64 n.kind, .int .i64 n.node, .int .i64 n.life, .int .i64 n.epoch, .string s9, .int .i64 n.func, .slice aa al ac, .int .i64 n.err, .int .i64 n.val, .int .i64 n.vep, .slice ma ml mc], .int .i64 0]) (by simp [results, Try.results18, go_sem, x0, x1, x2, x3, x4, x5, x6, x7, x8, x9, x10]) rfl ?_
                unfold RNPost
                rw [HYES.out, if_pos rfl, HRN.out]
                exact ⟨s9, .slice aa al ac, .slice ma ml mc, rfl, HM7.out.mono (by omega), HB7.out⟩
              · have HNO := hide (okR_no HRN.out (.inr (.inr he)))
                rw [decide_eq_false he] at HE1
                go_upto_region 37 with (go_at_call 12; go_must ((with_reducible refine C12.out.mono ?_); rintro e w5 ⟨a5, m5, c5, rfl, hm5, -, -, hr5, hb5⟩))
                have HR5 := hide (HT.out.res.below hb5)
                have HN5 := hide ((show BoxL X (w.heap.size + 2) [.int .i64 n.kind, .int .i64 n.node, .int .i64 n.life, .int .i64 n.epoch, .string s9, .int .i64 n.func, .slice aa al ac, .int .i64 n.err, .int .i64 n.val, .int .i64 n.vep, .slice ma ml mc] from HT.out.box).below hb5)
                have HL5 := hide (HT.out.low.trans (hb5.mono HT.out.low.size))
                have HM5 := hide (HNM3.out.below hb5)
                have kb := keep_cell HT.out.cur.bad hb5
                clear k0 k1 k2 k3 k4 k5 k6 k7 k8 k9 k10
                rw [hbb] at kb
                clear hbb
                have kcw := run_str (S := bstr (encN (clearN n))) rfl hm5.out hr5.out c5
                have kcb := run_str (S := bstr bs) rfl HSA.out.len (HSA.out.reads.below HL5.out) c
                generalize bstr (encN (clearN n)) = S1 at kcw HE1
                generalize bstr bs = S2 at kcb HE1
                have hE1 := HE1.out
                obtain ⟨q0, q1, q2, q3, q4, q5, q6, q7, q8, q9, q10⟩ := HR5.out.c11
                obtain ⟨v0, v1, v2, v3, v4, v5, v6, v7, v8, v9, v10⟩ := HR5.out.f11
                go_wp2
                have HX7 := hide (put11_box HR5.out (.int .i64 0) (.int .i64 0) (.int .i64 0) (.int .i64 0) (.string ⟨#[]⟩) (.int .i64 0) (.slice none 0 0) (.int .i64 0) (.int .i64 0) (.int .i64 0) (.slice none 0 0))
                have HB7 := hide (put11_below (g := w.heap.size) HL5.out (Nat.le_refl _) (.int .i64 0) (.int .i64 0) (.int .i64 0) (.int .i64 0) (.string ⟨#[]⟩) (.int .i64 0) (.slice none 0 0) (.int .i64 0) (.int .i64 0) (.int .i64 0) (.slice none 0 0))
                obtain ⟨Y, hY⟩ : ∃ Y, Y = put11 w5 w.heap.size (.int .i64 0) (.int .i64 0) (.int .i64 0) (.int .i64 0) (.string ⟨#[]⟩) (.int .i64 0) (.slice none 0 0) (.int .i64 0) (.int .i64 0) (.int .i64 0) (.slice none 0 0) := ⟨_, rfl⟩
                rw [← hY] at HX7 HB7
                unfold put11 at hY
                rw [← hY]
                clear hY
                obtain ⟨x0, x1, x2, x3, x4, x5, x6, x7, x8, x9, x10⟩ := HX7.out.c11
                refine bodyPost_ret (v := .tuple #[.agg #[.int .i64 0, .int .i64 0, .int .i64 0, .int .i64 0, .string ⟨#[]⟩, .int .i64 0, .slice none 0 0, .int .i64 0, .int .i64 0, .int .i64 0, .slice none 0 0], .int .i64 4]) (by simp [results, Try.results18, go_sem, x0, x1, x2, x3, x4, x5, x6, x7, x8, x9, x10]) rfl ?_
                unfold RNPost
                rw [HNO.out]
                exact ⟨rfl, HB7.out⟩
          · have HNO := hide (okR_no HRN.out (.inr (.inl (by simpa using hm))))
            have C12 := hide (rpackN n s9 _ _ _ X HNM.out HIN.out (by simpa using hm))
            simp only [Nv] at C12
            go_upto_region 37 with (go_at_call 12; go_must ((with_reducible refine C12.out.mono ?_); rintro e w5 ⟨rfl, hb5⟩))
            have HR5 := hide (HT.out.res.below hb5)
            have HN5 := hide ((show BoxL X (w.heap.size + 2) [.int .i64 n.kind, .int .i64 n.node, .int .i64 n.life, .int .i64 n.epoch, .string s9, .int .i64 n.func, .slice aa al ac, .int .i64 n.err, .int .i64 n.val, .int .i64 n.vep, .slice ma ml mc] from HT.out.box).below hb5)
            have HL5 := hide (HT.out.low.trans (hb5.mono HT.out.low.size))
            have HM5 := hide (HNM3.out.below hb5)
            have kb := keep_cell HT.out.cur.bad hb5
            clear k0 k1 k2 k3 k4 k5 k6 k7 k8 k9 k10
            cases hbb : d0 with
            | true =>
              rw [hbb] at kb
              clear hbb
              obtain ⟨q0, q1, q2, q3, q4, q5, q6, q7, q8, q9, q10⟩ := HR5.out.c11
              obtain ⟨v0, v1, v2, v3, v4, v5, v6, v7, v8, v9, v10⟩ := HR5.out.f11
              go_wp2
              have HX7 := hide (put11_box HR5.out (.int .i64 0) (.int .i64 0) (.int .i64 0) (.int .i64 0) (.string ⟨#[]⟩) (.int .i64 0) (.slice none 0 0) (.int .i64 0) (.int .i64 0) (.int .i64 0) (.slice none 0 0))
              have HB7 := hide (put11_below (g := w.heap.size) HL5.out (Nat.le_refl _) (.int .i64 0) (.int .i64 0) (.int .i64 0) (.int .i64 0) (.string ⟨#[]⟩) (.int .i64 0) (.slice none 0 0) (.int .i64 0) (.int .i64 0) (.int .i64 0) (.slice none 0 0))
              obtain ⟨Y, hY⟩ : ∃ Y, Y = put11 w5 w.heap.size (.int .i64 0) (.int .i64 0) (.int .i64 0) (.int .i64 0) (.string ⟨#[]⟩) (.int .i64 0) (.slice none 0 0) (.int .i64 0) (.int .i64 0) (.int .i64 0) (.slice none 0 0) := ⟨_, rfl⟩
              rw [← hY] at HX7 HB7
              unfold put11 at hY
              rw [← hY]
              clear hY
              obtain ⟨x0, x1, x2, x3, x4, x5, x6, x7, x8, x9, x10⟩ := HX7.out.c11
              refine bodyPost_ret (v := .tuple #[.agg #[.int .i64 0, .int .i64 0, .int .i64 0, .int .i64 0, .string ⟨#[]⟩, .int .i64 0, .slice none 0 0, .int .i64 0, .int .i64 0, .int .i64 0, .slice none 0 0], .int .i64 4]) (by simp [results, Try.results18, go_sem, x0, x1, x2, x3, x4, x5, x6, x7, x8, x9, x10]) rfl ?_
              unfold RNPost
              rw [HNO.out]
              exact ⟨rfl, HB7.out⟩
            | false =>
              rw [hbb] at kb
              clear hbb
              obtain ⟨q0, q1, q2, q3, q4, q5, q6, q7, q8, q9, q10⟩ := HR5.out.c11
              obtain ⟨v0, v1, v2, v3, v4, v5, v6, v7, v8, v9, v10⟩ := HR5.out.f11
              go_wp2
              have HX7 := hide (put11_box HR5.out (.int .i64 0) (.int .i64 0) (.int .i64 0) (.int .i64 0) (.string ⟨#[]⟩) (.int .i64 0) (.slice none 0 0) (.int .i64 0) (.int .i64 0) (.int .i64 0) (.slice none 0 0))
              have HB7 := hide (put11_below (g := w.heap.size) HL5.out (Nat.le_refl _) (.int .i64 0) (.int .i64 0) (.int .i64 0) (.int .i64 0) (.string ⟨#[]⟩) (.int .i64 0) (.slice none 0 0) (.int .i64 0) (.int .i64 0) (.int .i64 0) (.slice none 0 0))
              obtain ⟨Y, hY⟩ : ∃ Y, Y = put11 w5 w.heap.size (.int .i64 0) (.int .i64 0) (.int .i64 0) (.int .i64 0) (.string ⟨#[]⟩) (.int .i64 0) (.slice none 0 0) (.int .i64 0) (.int .i64 0) (.int .i64 0) (.slice none 0 0) := ⟨_, rfl⟩
              rw [← hY] at HX7 HB7
              unfold put11 at hY
              rw [← hY]
              clear hY
              obtain ⟨x0, x1, x2, x3, x4, x5, x6, x7, x8, x9, x10⟩ := HX7.out.c11
              refine bodyPost_ret (v := .tuple #[.agg #[.int .i64 0, .int .i64 0, .int .i64 0, .int .i64 0, .string ⟨#[]⟩, .int .i64 0, .slice none 0 0, .int .i64 0, .int .i64 0, .int .i64 0, .slice none 0 0], .int .i64 4]) (by simp [results, Try.results18, go_sem, x0, x1, x2, x3, x4, x5, x6, x7, x8, x9, x10]) rfl ?_
              unfold RNPost
              rw [HNO.out]
              exact ⟨rfl, HB7.out⟩
      · clear hgo kb
        go_upto_region 36 with fail
        obtain ⟨av9, mv9, HT⟩ : ∃ av9 mv9, Hid (RS w (wr) a l c bs q0 d0 ⟨2, 0, 0, 0, [], 0, [], 0, 0, x1, lm⟩ ⟨#[]⟩ av9 mv9) := ⟨(.slice none 0 0), mv, HS⟩
        generalize wr = X at HT ⊢
        obtain ⟨n, hnn⟩ : ∃ n : No, n = ⟨2, 0, 0, 0, [], 0, [], 0, 0, x1, lm⟩ := ⟨_, rfl⟩
        rw [← hnn] at HT HRN
        clear hnn
        obtain ⟨s9, hs9⟩ : ∃ s9 : ByteArray, s9 = ⟨#[]⟩ := ⟨_, rfl⟩
        rw [← hs9] at HT
        clear hs9
        have HIN := hide (rdNote_in bs)
        rw [HRN.out] at HIN
        have hNM9 := HT.out.nm
        obtain ⟨-, -, -, -, ⟨aa, al, ac, rfl, -⟩, ⟨ma, ml, mc, rfl, -⟩⟩ := hNM9
        have HNM := hide HT.out.nm
        have HNM3 := hide (HT.out.nm3)
        obtain ⟨k0, k1, k2, k3, k4, k5, k6, k7, k8, k9, k10⟩ := (show BoxL X (w.heap.size + 2) [.int .i64 n.kind, .int .i64 n.node, .int .i64 n.life, .int .i64 n.epoch, .string s9, .int .i64 n.func, .slice aa al ac, .int .i64 n.err, .int .i64 n.val, .int .i64 n.vep, .slice ma ml mc] from HT.out.box).c11
        by_cases hm : mayN (clearN n) = true
        · have C12 := hide (rpackQ n s9 _ _ _ X HNM.out HIN.out hm)
          simp only [Nv] at C12
          unfold RP at C12
          have hBy := nm_byt HNM.out HIN.out
          have HE1 := hide (bstr_eq hBy HSA.out.byt)
          cases hbb : d0 with
          | true =>
            have HNO := hide (okR_no HRN.out (.inl hbb))
            go_upto_region 37 with (go_at_call 12; go_must ((with_reducible refine C12.out.mono ?_); rintro e w5 ⟨a5, m5, c5, rfl, hm5, -, -, hr5, hb5⟩))
            have HR5 := hide (HT.out.res.below hb5)
            have HN5 := hide ((show BoxL X (w.heap.size + 2) [.int .i64 n.kind, .int .i64 n.node, .int .i64 n.life, .int .i64 n.epoch, .string s9, .int .i64 n.func, .slice aa al ac, .int .i64 n.err, .int .i64 n.val, .int .i64 n.vep, .slice ma ml mc] from HT.out.box).below hb5)
            have HL5 := hide (HT.out.low.trans (hb5.mono HT.out.low.size))
            have HM5 := hide (HNM3.out.below hb5)
            have kb := keep_cell HT.out.cur.bad hb5
            clear k0 k1 k2 k3 k4 k5 k6 k7 k8 k9 k10
            rw [hbb] at kb
            clear hbb
            obtain ⟨q0, q1, q2, q3, q4, q5, q6, q7, q8, q9, q10⟩ := HR5.out.c11
            obtain ⟨v0, v1, v2, v3, v4, v5, v6, v7, v8, v9, v10⟩ := HR5.out.f11
            go_wp2
            have HX7 := hide (put11_box HR5.out (.int .i64 0) (.int .i64 0) (.int .i64 0) (.int .i64 0) (.string ⟨#[]⟩) (.int .i64 0) (.slice none 0 0) (.int .i64 0) (.int .i64 0) (.int .i64 0) (.slice none 0 0))
            have HB7 := hide (put11_below (g := w.heap.size) HL5.out (Nat.le_refl _) (.int .i64 0) (.int .i64 0) (.int .i64 0) (.int .i64 0) (.string ⟨#[]⟩) (.int .i64 0) (.slice none 0 0) (.int .i64 0) (.int .i64 0) (.int .i64 0) (.slice none 0 0))
            obtain ⟨Y, hY⟩ : ∃ Y, Y = put11 w5 w.heap.size (.int .i64 0) (.int .i64 0) (.int .i64 0) (.int .i64 0) (.string ⟨#[]⟩) (.int .i64 0) (.slice none 0 0) (.int .i64 0) (.int .i64 0) (.int .i64 0) (.slice none 0 0) := ⟨_, rfl⟩
            rw [← hY] at HX7 HB7
            unfold put11 at hY
            rw [← hY]
            clear hY
            obtain ⟨x0, x1, x2, x3, x4, x5, x6, x7, x8, x9, x10⟩ := HX7.out.c11
            refine bodyPost_ret (v := .tuple #[.agg #[.int .i64 0, .int .i64 0, .int .i64 0, .int .i64 0, .string ⟨#[]⟩, .int .i64 0, .slice none 0 0, .int .i64 0, .int .i64 0, .int .i64 0, .slice none 0 0], .int .i64 4]) (by simp [results, Try.results18, go_sem, x0, x1, x2, x3, x4, x5, x6, x7, x8, x9, x10]) rfl ?_
            unfold RNPost
            rw [HNO.out]
            exact ⟨rfl, HB7.out⟩
          | false =>
            by_cases he : encN (clearN n) = bs
            · have HYES := hide (okR_yes (by rw [HRN.out, hbb]) hm he)
              rw [decide_eq_true he] at HE1
              go_upto_region 37 with (go_at_call 12; go_must ((with_reducible refine C12.out.mono ?_); rintro e w5 ⟨a5, m5, c5, rfl, hm5, -, -, hr5, hb5⟩))
              have HR5 := hide (HT.out.res.below hb5)
              have HN5 := hide ((show BoxL X (w.heap.size + 2) [.int .i64 n.kind, .int .i64 n.node, .int .i64 n.life, .int .i64 n.epoch, .string s9, .int .i64 n.func, .slice aa al ac, .int .i64 n.err, .int .i64 n.val, .int .i64 n.vep, .slice ma ml mc] from HT.out.box).below hb5)
              have HL5 := hide (HT.out.low.trans (hb5.mono HT.out.low.size))
              have HM5 := hide (HNM3.out.below hb5)
              have kb := keep_cell HT.out.cur.bad hb5
              clear k0 k1 k2 k3 k4 k5 k6 k7 k8 k9 k10
              rw [hbb] at kb
              clear hbb
              have kcw := run_str (S := bstr (encN (clearN n))) rfl hm5.out hr5.out c5
              have kcb := run_str (S := bstr bs) rfl HSA.out.len (HSA.out.reads.below HL5.out) c
              generalize bstr (encN (clearN n)) = S1 at kcw HE1
              generalize bstr bs = S2 at kcb HE1
              have hE1 := HE1.out
              obtain ⟨q0, q1, q2, q3, q4, q5, q6, q7, q8, q9, q10⟩ := HR5.out.c11
              obtain ⟨v0, v1, v2, v3, v4, v5, v6, v7, v8, v9, v10⟩ := HR5.out.f11
              obtain ⟨g0, g1, g2, g3, g4, g5, g6, g7, g8, g9, g10⟩ := HN5.out.c11
              go_wp2
              have HX7 := hide (put11_box HR5.out (.int .i64 n.kind) (.int .i64 n.node) (.int .i64 n.life) (.int .i64 n.epoch) (.string s9) (.int .i64 n.func) (.slice aa al ac) (.int .i64 n.err) (.int .i64 n.val) (.int .i64 n.vep) (.slice ma ml mc))
              have HB7 := hide (put11_below (g := w.heap.size) HL5.out (Nat.le_refl _) (.int .i64 n.kind) (.int .i64 n.node) (.int .i64 n.life) (.int .i64 n.epoch) (.string s9) (.int .i64 n.func) (.slice aa al ac) (.int .i64 n.err) (.int .i64 n.val) (.int .i64 n.vep) (.slice ma ml mc))
              have HM7 := hide (HM5.out.keep (w' := put11 w5 w.heap.size (.int .i64 n.kind) (.int .i64 n.node) (.int .i64 n.life) (.int .i64 n.epoch) (.string s9) (.int .i64 n.func) (.slice aa al ac) (.int .i64 n.err) (.int .i64 n.val) (.int .i64 n.vep) (.slice ma ml mc)) (fun k h1 _ => put11_keep (by omega) (.int .i64 n.kind) (.int .i64 n.node) (.int .i64 n.life) (.int .i64 n.epoch) (.string s9) (.int .i64 n.func) (.slice aa al ac) (.int .i64 n.err) (.int .i64 n.val) (.int .i64 n.vep) (.slice ma ml mc)))
              obtain ⟨Y, hY⟩ : ∃ Y, Y = put11 w5 w.heap.size (.int .i64 n.kind) (.int .i64 n.node) (.int .i64 n.life) (.int .i64 n.epoch) (.string s9) (.int .i64 n.func) (.slice aa al ac) (.int .i64 n.err) (.int .i64 n.val) (.int .i64 n.vep) (.slice ma ml mc) := ⟨_, rfl⟩
              rw [← hY] at HX7 HB7 HM7
              unfold put11 at hY
              rw [← hY]
              clear hY
              obtain ⟨x0, x1, x2, x3, x4, x5, x6, x7, x8, x9, x10⟩ := HX7.out.c11
              refine bodyPost_ret (v := .tuple #[.agg #[.int .i64 n.kind, .int .i64 n.node, .int .i64 n.life, .int .i64 n.epoch, .string s9, .int .i64 n.func, .slice aa al ac, .int .i64 n.err, .int .i64 n.val, .int .i64 n.vep, .slice ma ml mc], .int .i64 0]) (by simp [results, Try.results18, go_sem, x0, x1, x2, x3, x4, x5, x6, x7, x8, x9, x10]) rfl ?_
              unfold RNPost
              rw [HYES.out, if_pos rfl, HRN.out]
              exact ⟨s9, .slice aa al ac, .slice ma ml mc, rfl, HM7.out.mono (by omega), HB7.out⟩
            · have HNO := hide (okR_no HRN.out (.inr (.inr he)))
              rw [decide_eq_false he] at HE1
              go_upto_region 37 with (go_at_call 12; go_must ((with_reducible refine C12.out.mono ?_); rintro e w5 ⟨a5, m5, c5, rfl, hm5, -, -, hr5, hb5⟩))
              have HR5 := hide (HT.out.res.below hb5)
              have HN5 := hide ((show BoxL X (w.heap.size + 2) [.int .i64 n.kind, .int .i64 n.node, .int .i64 n.life, .int .i64 n.epoch, .string s9, .int .i64 n.func, .slice aa al ac, .int .i64 n.err, .int .i64 n.val, .int .i64 n.vep, .slice ma ml mc] from HT.out.box).below hb5)
              have HL5 := hide (HT.out.low.trans (hb5.mono HT.out.low.size))
              have HM5 := hide (HNM3.out.below hb5)
              have kb := keep_cell HT.out.cur.bad hb5
              clear k0 k1 k2 k3 k4 k5 k6 k7 k8 k9 k10
              rw [hbb] at kb
              clear hbb
              have kcw := run_str (S := bstr (encN (clearN n))) rfl hm5.out hr5.out c5
              have kcb := run_str (S := bstr bs) rfl HSA.out.len (HSA.out.reads.below HL5.out) c
              generalize bstr (encN (clearN n)) = S1 at kcw HE1
              generalize bstr bs = S2 at kcb HE1
              have hE1 := HE1.out
              obtain ⟨q0, q1, q2, q3, q4, q5, q6, q7, q8, q9, q10⟩ := HR5.out.c11
              obtain ⟨v0, v1, v2, v3, v4, v5, v6, v7, v8, v9, v10⟩ := HR5.out.f11
              go_wp2
              have HX7 := hide (put11_box HR5.out (.int .i64 0) (.int .i64 0) (.int .i64 0) (.int .i64 0) (.string ⟨#[]⟩) (.int .i64 0) (.slice none 0 0) (.int .i64 0) (.int .i64 0) (.int .i64 0) (.slice none 0 0))
              have HB7 := hide (put11_below (g := w.heap.size) HL5.out (Nat.le_refl _) (.int .i64 0) (.int .i64 0) (.int .i64 0) (.int .i64 0) (.string ⟨#[]⟩) (.int .i64 0) (.slice none 0 0) (.int .i64 0) (.int .i64 0) (.int .i64 0) (.slice none 0 0))
              obtain ⟨Y, hY⟩ : ∃ Y, Y = put11 w5 w.heap.size (.int .i64 0) (.int .i64 0) (.int .i64 0) (.int .i64 0) (.string ⟨#[]⟩) (.int .i64 0) (.slice none 0 0) (.int .i64 0) (.int .i64 0) (.int .i64 0) (.slice none 0 0) := ⟨_, rfl⟩
              rw [← hY] at HX7 HB7
              unfold put11 at hY
              rw [← hY]
              clear hY
              obtain ⟨x0, x1, x2, x3, x4, x5, x6, x7, x8, x9, x10⟩ := HX7.out.c11
              refine bodyPost_ret (v := .tuple #[.agg #[.int .i64 0, .int .i64 0, .int .i64 0, .int .i64 0, .string ⟨#[]⟩, .int .i64 0, .slice none 0 0, .int .i64 0, .int .i64 0, .int .i64 0, .slice none 0 0], .int .i64 4]) (by simp [results, Try.results18, go_sem, x0, x1, x2, x3, x4, x5, x6, x7, x8, x9, x10]) rfl ?_
              unfold RNPost
              rw [HNO.out]
              exact ⟨rfl, HB7.out⟩
        · have HNO := hide (okR_no HRN.out (.inr (.inl (by simpa using hm))))
          have C12 := hide (rpackN n s9 _ _ _ X HNM.out HIN.out (by simpa using hm))
          simp only [Nv] at C12
          go_upto_region 37 with (go_at_call 12; go_must ((with_reducible refine C12.out.mono ?_); rintro e w5 ⟨rfl, hb5⟩))
          have HR5 := hide (HT.out.res.below hb5)
          have HN5 := hide ((show BoxL X (w.heap.size + 2) [.int .i64 n.kind, .int .i64 n.node, .int .i64 n.life, .int .i64 n.epoch, .string s9, .int .i64 n.func, .slice aa al ac, .int .i64 n.err, .int .i64 n.val, .int .i64 n.vep, .slice ma ml mc] from HT.out.box).below hb5)
          have HL5 := hide (HT.out.low.trans (hb5.mono HT.out.low.size))
          have HM5 := hide (HNM3.out.below hb5)
          have kb := keep_cell HT.out.cur.bad hb5
          clear k0 k1 k2 k3 k4 k5 k6 k7 k8 k9 k10
          cases hbb : d0 with
          | true =>
            rw [hbb] at kb
            clear hbb
            obtain ⟨q0, q1, q2, q3, q4, q5, q6, q7, q8, q9, q10⟩ := HR5.out.c11
            obtain ⟨v0, v1, v2, v3, v4, v5, v6, v7, v8, v9, v10⟩ := HR5.out.f11
            go_wp2
            have HX7 := hide (put11_box HR5.out (.int .i64 0) (.int .i64 0) (.int .i64 0) (.int .i64 0) (.string ⟨#[]⟩) (.int .i64 0) (.slice none 0 0) (.int .i64 0) (.int .i64 0) (.int .i64 0) (.slice none 0 0))
            have HB7 := hide (put11_below (g := w.heap.size) HL5.out (Nat.le_refl _) (.int .i64 0) (.int .i64 0) (.int .i64 0) (.int .i64 0) (.string ⟨#[]⟩) (.int .i64 0) (.slice none 0 0) (.int .i64 0) (.int .i64 0) (.int .i64 0) (.slice none 0 0))
            obtain ⟨Y, hY⟩ : ∃ Y, Y = put11 w5 w.heap.size (.int .i64 0) (.int .i64 0) (.int .i64 0) (.int .i64 0) (.string ⟨#[]⟩) (.int .i64 0) (.slice none 0 0) (.int .i64 0) (.int .i64 0) (.int .i64 0) (.slice none 0 0) := ⟨_, rfl⟩
            rw [← hY] at HX7 HB7
            unfold put11 at hY
            rw [← hY]
            clear hY
            obtain ⟨x0, x1, x2, x3, x4, x5, x6, x7, x8, x9, x10⟩ := HX7.out.c11
            refine bodyPost_ret (v := .tuple #[.agg #[.int .i64 0, .int .i64 0, .int .i64 0, .int .i64 0, .string ⟨#[]⟩, .int .i64 0, .slice none 0 0, .int .i64 0, .int .i64 0, .int .i64 0, .slice none 0 0], .int .i64 4]) (by simp [results, Try.results18, go_sem, x0, x1, x2, x3, x4, x5, x6, x7, x8, x9, x10]) rfl ?_
            unfold RNPost
            rw [HNO.out]
            exact ⟨rfl, HB7.out⟩
          | false =>
            rw [hbb] at kb
            clear hbb
            obtain ⟨q0, q1, q2, q3, q4, q5, q6, q7, q8, q9, q10⟩ := HR5.out.c11
            obtain ⟨v0, v1, v2, v3, v4, v5, v6, v7, v8, v9, v10⟩ := HR5.out.f11
            go_wp2
            have HX7 := hide (put11_box HR5.out (.int .i64 0) (.int .i64 0) (.int .i64 0) (.int .i64 0) (.string ⟨#[]⟩) (.int .i64 0) (.slice none 0 0) (.int .i64 0) (.int .i64 0) (.int .i64 0) (.slice none 0 0))
            have HB7 := hide (put11_below (g := w.heap.size) HL5.out (Nat.le_refl _) (.int .i64 0) (.int .i64 0) (.int .i64 0) (.int .i64 0) (.string ⟨#[]⟩) (.int .i64 0) (.slice none 0 0) (.int .i64 0) (.int .i64 0) (.int .i64 0) (.slice none 0 0))
            obtain ⟨Y, hY⟩ : ∃ Y, Y = put11 w5 w.heap.size (.int .i64 0) (.int .i64 0) (.int .i64 0) (.int .i64 0) (.string ⟨#[]⟩) (.int .i64 0) (.slice none 0 0) (.int .i64 0) (.int .i64 0) (.int .i64 0) (.slice none 0 0) := ⟨_, rfl⟩
            rw [← hY] at HX7 HB7
            unfold put11 at hY
            rw [← hY]
            clear hY
            obtain ⟨x0, x1, x2, x3, x4, x5, x6, x7, x8, x9, x10⟩ := HX7.out.c11
            refine bodyPost_ret (v := .tuple #[.agg #[.int .i64 0, .int .i64 0, .int .i64 0, .int .i64 0, .string ⟨#[]⟩, .int .i64 0, .slice none 0 0, .int .i64 0, .int .i64 0, .int .i64 0, .slice none 0 0], .int .i64 4]) (by simp [results, Try.results18, go_sem, x0, x1, x2, x3, x4, x5, x6, x7, x8, x9, x10]) rfl ?_
            unfold RNPost
            rw [HNO.out]
            exact ⟨rfl, HB7.out⟩

theorem own_i {w : World} {B n : Nat} {v : Value} {xs : List Value} (h : w.ownsRow B 3 1 v n xs) : ∃ a c, v = .slice a n c := by
  rcases h.2 with ⟨rfl, rfl⟩ | ⟨g, cap, cur, rfl, _⟩
  · exact ⟨none, 0, rfl⟩
  · exact ⟨_, cap, rfl⟩
theorem many_step {K k : Nat} {q0 q1 : List Nat} {d1 : Bool} {y1 : Int} {la : List Int} {Z : List Int × List Nat × Bool} (h : Z = (la ++ (rdMany (K - k) (q0, false)).1, (rdMany (K - k) (q0, false)).2)) (hk : k < K) (e : rdInt q0 false = (y1, q1, d1)) : Z = ((la ++ [y1]) ++ (rdMany (K - (k + 1)) (q1, d1)).1, (rdMany (K - (k + 1)) (q1, d1)).2) := by
  rw [h, show K - k = (K - (k + 1)) + 1 by omega, rdMany_go, e]
  simp

set_option maxRecDepth 100000 in
set_option maxHeartbeats 16000000 in
theorem rn_4 (a : Option Addr) (l c : Nat) (bs : List Nat) (w : World) (hs : SrcA w a l c bs) (r0 : List Nat) (b0 : Bool) (e0 : rdInt bs false = (4, r0, b0)) : Calls Try.prog 18 #[.slice a l c] w (RNPost bs w) := by
  have hy0 : Byt r0 ∧ r0.length ≤ 20000 := ⟨rdInt_byt hs.byt e0, by have h1 := rdInt_len bs false; rw [e0] at h1; simp only at h1; have h2 := hs.len; have h3 := hs.few; omega⟩
  obtain ⟨⟨x1, r1, b1⟩, e1⟩ : ∃ z, rdInt r0 b0 = z := ⟨_, rfl⟩
  have hy1 : Byt r1 ∧ r1.length ≤ 20000 := ⟨rdInt_byt hy0.1 e1, by have h1 := rdInt_len r0 b0; rw [e1] at h1; simp only at h1; have h2 := hy0.2; omega⟩
  obtain ⟨⟨x2, r2, b2⟩, e2⟩ : ∃ z, rdInt r1 b1 = z := ⟨_, rfl⟩
  have hy2 : Byt r2 ∧ r2.length ≤ 20000 := ⟨rdInt_byt hy1.1 e2, by have h1 := rdInt_len r1 b1; rw [e2] at h1; simp only at h1; have h2 := hy1.2; omega⟩
  have hbl3 := rdBytes_len r2 b2
  obtain ⟨⟨x3, r3, b3⟩, e3⟩ : ∃ z, rdBytes r2 b2 = z := ⟨_, rfl⟩
  rw [e3] at hbl3
  have hbt3 : Byt x3 ∧ x3.length ≤ 20000 := ⟨rdBytes_byt hy2.1 e3, by have h2 := hy2.2; simp only at hbl3; omega⟩
  clear hbl3
  obtain ⟨⟨x4, r4, b4⟩, e4⟩ : ∃ z, rdInt r3 b3 = z := ⟨_, rfl⟩
  obtain ⟨⟨m, r5, b5⟩, e5⟩ : ∃ z, rdInt r4 b4 = z := ⟨_, rfl⟩
  have HRD := hide (show rdNote 20 bs = (⟨4, 0, x2, x1, x3, x4, (rdMany (min m.toNat 20) (r5, b5)).1, 0, 0, 0, []⟩, (rdMany (min m.toNat 20) (r5, b5)).2) by
    simp [rdNote, hasView, hasEpoch, hasLife, hasNode, hasId, hasRes, hasFunc, rdI, rdB, rdMem, e0, e1, e2, e3, e4, e5])
  have K0 := hide (fun W (h : RS w W a l c bs bs false no0 ⟨#[]⟩ (.slice none 0 0) (.slice none 0 0)) => h.int hs)
  simp only [e0] at K0
  have K1 := hide (fun W n s av mv (h : RS w W a l c bs r0 b0 n s av mv) => h.int hs)
  simp only [e1] at K1
  have K2 := hide (fun W n s av mv (h : RS w W a l c bs r1 b1 n s av mv) => h.int hs)
  simp only [e2] at K2
  have K3 := hide (fun W n s av mv (h : RS w W a l c bs r2 b2 n s av mv) => h.bytes hs)
  simp only [e3] at K3
  have K4 := hide (fun W n s av mv (h : RS w W a l c bs r3 b3 n s av mv) => h.int hs)
  simp only [e4] at K4
  have K5 := hide (fun W n s av mv (h : RS w W a l c bs r4 b4 n s av mv) => h.int hs)
  simp only [e5] at K5
  have H0 := hide (rs_start (w := w) (a := a) (l := l) (c := c) (bs := bs))
  obtain ⟨V, hV⟩ : ∃ V, V = ((w.alloc (.cells #[.int .i64 0, .int .i64 0, .int .i64 0, .int .i64 0, .string ⟨#[]⟩, .int .i64 0, .slice none 0 0, .int .i64 0, .int .i64 0, .int .i64 0, .slice none 0 0] 31)).alloc (.cells #[.slice a l c, .int .i64 0, .bool false] 73)).alloc (.cells #[.int .i64 0, .int .i64 0, .int .i64 0, .int .i64 0, .string ⟨#[]⟩, .int .i64 0, .slice none 0 0, .int .i64 0, .int .i64 0, .int .i64 0, .slice none 0 0] 31) := ⟨_, rfl⟩
  rw [← hV] at H0
  have HV := hide hV
  have HSA := hide hs
  clear hV e0 e1 e2 e3 e4 e5 hs hy0 hy1 hy2
  go_enter Try.func18, Try.ntmps18
  go_wp2_with (first
    | (go_at_call 32; ((rw [← HV.out]; (with_reducible refine (K0.out V H0.out).mono ?_)); rintro e w0 ⟨rfl, h0⟩; have kc0 := (h0.box.2 0 (by simp [Nc])).1; have kf0 := (h0.box.2 0 (by simp [Nc])).2; have HS0 := hide (h0.put0 4); clear h0))
    | (go_at_call 32; ((with_reducible refine (K1.out _ _ _ _ _ HS0.out).mono ?_); rintro e w1 ⟨rfl, h1⟩; have kc1 := (h1.box.2 3 (by simp [Nc])).1; have kf1 := (h1.box.2 3 (by simp [Nc])).2; have HS1 := hide (h1.put3 x1); clear h1))
    | (go_at_call 32; ((with_reducible refine (K2.out _ _ _ _ _ HS1.out).mono ?_); rintro e w2 ⟨rfl, h2⟩; have kc2 := (h2.box.2 2 (by simp [Nc])).1; have kf2 := (h2.box.2 2 (by simp [Nc])).2; have HS2 := hide (h2.put2 x2); clear h2))
    | (go_at_call 33; ((with_reducible refine (K3.out _ _ _ _ _ HS2.out).mono ?_); rintro e w3 ⟨ta3, tm3, tc3, rfl, hcv3, h3⟩; have kc3 := (h3.box.2 4 (by simp [Nc])).1; have kf3 := (h3.box.2 4 (by simp [Nc])).2; have HS3 := hide (h3.put4 x3 hbt3.1 hbt3.2); clear h3))
    | (go_at_call 32; ((with_reducible refine (K4.out _ _ _ _ _ HS3.out).mono ?_); rintro e w4 ⟨rfl, h4⟩; have kc4 := (h4.box.2 5 (by simp [Nc])).1; have kf4 := (h4.box.2 5 (by simp [Nc])).2; have HS4 := hide (h4.put5 x4); clear h4))
    | (go_at_call 32; ((with_reducible refine (K5.out _ _ _ _ _ HS4.out).mono ?_); rintro e w5 ⟨rfl, h5⟩; have HS5 := hide h5; clear h5)))
  clear kc0 kf0 kc1 kf1 kc2 kf2 kc3 kf3 kc4 kf4 hcv3
  go_loopw [12] (fun i wr => ∃ (k : Nat) (la : List Int) (q0 : List Nat) (d0 : Bool) (av : Value), k ≤ 20 ∧ i = .int .i64 (k : Nat) ∧ Hid (la.length = k) ∧ Hid (RS w wr a l c bs q0 d0 ⟨4, 0, x2, x1, x3, x4, la, 0, 0, 0, []⟩ (bstr x3) av (.slice none 0 0)) ∧ Hid (rdMany (min m.toNat 20) (r5, b5) = (la ++ (rdMany (min m.toNat 20 - k) (q0, d0)).1, (rdMany (min m.toNat 20 - k) (q0, d0)).2))) (fun i _ => 20 - (intOf i).toNat)
  case atStart => exact ⟨0, [], r5, b5, _, Nat.zero_le _, rfl, hide rfl, HS5, hide (by simp)⟩
  case round =>
    obtain ⟨k, la, q0, d0, av, hk, rfl, HLA, HS, HRM⟩ := hrel
    clear HS5 HS4 HS3 HS2 HS1 HS0 H0
    have kb := HS.out.cur.bad
    by_cases hgo : (k : Int) < m ∧ k < 20 ∧ d0 = false
    · obtain ⟨hg1, hg2, rfl⟩ := hgo
      have hki : (k : Int) < 20 := by omega
      obtain ⟨⟨y1, q1, d1⟩, e6⟩ : ∃ z, rdInt q0 false = z := ⟨_, rfl⟩
      have HRM2 := hide (many_step HRM.out (by omega) e6)
      have K6 := hide (fun W n s av mv (h : RS w W a l c bs q0 false n s av mv) => h.intG HSA.out)
      simp only [e6] at K6
      obtain ⟨aq, cq, eq⟩ := own_i HS.out.args.2
      have HLA' := HLA.out
      simp only [HLA'] at eq
      subst eq
      have HSD := hide (HS.out.below ((Below.refl wr.heap.size wr).drew))
      have hl5 := (show wr.drew.cell? ⟨w.heap.size + 2, 6, none⟩ = some (.slice aq k cq) from (HSD.out.box.2 6 (by simp [Nc])).1)
      clear HLA' e6
      go_wp2_with fail
      refine wp_region_noPanic ?_
      refine wp_region_held_drew (S := fun _ => True) (by kernel_rfl) trivial (fun _ => ?_)
      refine takeD (i := 0) (d := some 181) (v := ?_) rfl rfl (by kernel_rfl) (by kernel_rfl) (by kernel_rfl) (fun _ _ _ h => h) (Or.inl ⟨by rfl, ?_⟩) trivial ?_
      rotate_left
      · intro w hSw
        go_simp
        try (with_reducible rfl)
      try simp only [Act.put, List.setIfInBounds_toArray, List.set_cons_zero, List.set_cons_succ]
      refine takeD (i := 2) (d := some 183) (v := ?_) rfl rfl (by kernel_rfl) (by kernel_rfl) (by kernel_rfl) (fun _ _ _ h => h) (Or.inl ⟨by rfl, ?_⟩) trivial ?_
      rotate_left
      · intro w hSw
        go_simp
        try (with_reducible rfl)
      try simp only [Act.put, List.setIfInBounds_toArray, List.set_cons_zero, List.set_cons_succ]
      refine wpAnyH_ready (rs := [1, 3]) (by kernel_rfl) (by simp) ?_
      refine AllReadyH.cons rfl (fun K hK => ?_) (AllReadyH.cons rfl (fun K hK => ?_) AllReadyH.nil)
      · go_simp
        go_wp2_with fail
        refine hK.out _ _ trivial (fun _ => ?_)
        clear hK K
        try simp only [Act.put, List.setIfInBounds_toArray, List.set_cons_zero, List.set_cons_succ]
        refine wpAnyH_ready (rs := [3]) (by kernel_rfl) (by simp) ?_
        refine AllReadyH.cons rfl (fun K hK => ?_) AllReadyH.nil
        go_simp
        (with_reducible refine (K6.out wr.drew _ _ _ _ HSD.out).mono ?_)
        rintro e w6 ⟨rfl, h6, hg6⟩
        have HS6 := hide h6
        have HS7 := hide (h6.below (below_new w6 (.cells #[.int .i64 y1] 3)))
        have hoa := HS7.out.args.2
        simp only [HLA.out] at hoa
        obtain ⟨v8, w8, hrun8, ho8, hg8, -⟩ := run_append_where (w6.alloc (.cells #[.int .i64 y1] 3)) (w.heap.size + 3) (.slice aq k cq) k la [y1] (some ⟨w6.heap.size, 0, none⟩) 1 1 hoa (fun e => by cases e) rfl (reads_new w6 (iV [y1]) 3) (by omega) HS7.out.big 23
        have hb8 := RS.boxa HS7.out hg8
        have hc8 := hb8.1
        have hf8 := hb8.2
        have HS8 := hide (HS7.out.pusha (x := y1) rfl (by simp only [HLA.out]; exact hg2) (by simp only [HLA.out]; exact ho8) hg8)
        obtain ⟨a8, c8, e8⟩ := own_i ho8
        subst e8
        have hl6 := (show w6.cell? ⟨w.heap.size + 2, 6, none⟩ = some (.slice aq k cq) from (h6.box.2 6 (by simp [Nc])).1)
        have hl7 := (show (w6.alloc (.cells #[.int .i64 y1] 3)).cell? ⟨w.heap.size + 2, 6, none⟩ = some (.slice aq k cq) from (HS7.out.box.2 6 (by simp [Nc])).1)
        clear h6 hg6 hoa ho8 hg8 hb8
        go_wp2_with fail
        refine hK.out _ _ trivial (fun _ => ?_)
        clear hK K
        try simp only [Act.put, List.setIfInBounds_toArray, List.set_cons_zero, List.set_cons_succ]
        refine wpAnyH_ready (rs := [4]) (by kernel_rfl) (by simp) ?_
        refine AllReadyH.cons rfl (fun K hK => ?_) AllReadyH.nil
        go_simp
        go_wp2_with fail
        refine hK.out _ _ trivial (fun _ => ?_)
        clear hK K
        try simp only [Act.put, List.setIfInBounds_toArray, List.set_cons_zero, List.set_cons_succ]
        refine wpAnyH_ready (rs := [5]) (by kernel_rfl) (by simp) ?_
        refine AllReadyH.cons rfl (fun K hK => ?_) AllReadyH.nil
        refine wp_append_int (.tmp 182) (.tmp 185) rfl rfl rfl hrun8 ?_
        refine hK.out _ _ trivial (fun _ => ?_)
        clear hK K
        try simp only [Act.put, List.setIfInBounds_toArray, List.set_cons_zero, List.set_cons_succ]
        refine takeD (i := 6) (d := some 187) (v := ?_) rfl rfl (by kernel_rfl) (by kernel_rfl) (by kernel_rfl) (fun _ _ _ h => h) (Or.inl ⟨by rfl, ?_⟩) trivial ?_
        rotate_left
        · intro w hSw
          go_simp
          try (with_reducible rfl)
        try simp only [Act.put, List.setIfInBounds_toArray, List.set_cons_zero, List.set_cons_succ]
        refine wpAnyH_ready (rs := [7]) (by kernel_rfl) (by simp) ?_
        refine AllReadyH.cons rfl (fun K hK => ?_) AllReadyH.nil
        go_simp
        go_wp2_with fail
        refine hK.out _ _ trivial (fun _ => ?_)
        clear hK K
        try simp only [Act.put, List.setIfInBounds_toArray, List.set_cons_zero, List.set_cons_succ]
        refine wpAnyH_done (by kernel_rfl) ?_ _
        refine NoPanic.normal ?_
        generalize w8.setCell ⟨w.heap.size + 2, 6, none⟩ (.slice a8 (k + 1) c8) = w9 at HS8 ⊢
        clear hrun8 hc8 hf8 hl6 hl7
        go_wp2
        go_roundw
        case rel => exact ⟨k + 1, la ++ [y1], q1, d1, _, by omega, by go_num, hide (by simp [HLA.out]), HS8, HRM2⟩
        case measure => simp [intOf]; omega
      · go_simp
        (with_reducible refine (K6.out wr.drew _ _ _ _ HSD.out).mono ?_)
        rintro e w6 ⟨rfl, h6, hg6⟩
        have HS6 := hide h6
        have HS7 := hide (h6.below (below_new w6 (.cells #[.int .i64 y1] 3)))
        have hoa := HS7.out.args.2
        simp only [HLA.out] at hoa
        obtain ⟨v8, w8, hrun8, ho8, hg8, -⟩ := run_append_where (w6.alloc (.cells #[.int .i64 y1] 3)) (w.heap.size + 3) (.slice aq k cq) k la [y1] (some ⟨w6.heap.size, 0, none⟩) 1 1 hoa (fun e => by cases e) rfl (reads_new w6 (iV [y1]) 3) (by omega) HS7.out.big 23
        have hb8 := RS.boxa HS7.out hg8
        have hc8 := hb8.1
        have hf8 := hb8.2
        have HS8 := hide (HS7.out.pusha (x := y1) rfl (by simp only [HLA.out]; exact hg2) (by simp only [HLA.out]; exact ho8) hg8)
        obtain ⟨a8, c8, e8⟩ := own_i ho8
        subst e8
        have hl6 := (show w6.cell? ⟨w.heap.size + 2, 6, none⟩ = some (.slice aq k cq) from (h6.box.2 6 (by simp [Nc])).1)
        have hl7 := (show (w6.alloc (.cells #[.int .i64 y1] 3)).cell? ⟨w.heap.size + 2, 6, none⟩ = some (.slice aq k cq) from (HS7.out.box.2 6 (by simp [Nc])).1)
        clear h6 hg6 hoa ho8 hg8 hb8
        go_wp2_with fail
        refine hK.out _ _ trivial (fun _ => ?_)
        clear hK K
        try simp only [Act.put, List.setIfInBounds_toArray, List.set_cons_zero, List.set_cons_succ]
        refine wpAnyH_ready (rs := [1, 4]) (by kernel_rfl) (by simp) ?_
        refine AllReadyH.cons rfl (fun K hK => ?_) (AllReadyH.cons rfl (fun K hK => ?_) AllReadyH.nil)
        · go_simp
          go_wp2_with fail
          refine hK.out _ _ trivial (fun _ => ?_)
          clear hK K
          try simp only [Act.put, List.setIfInBounds_toArray, List.set_cons_zero, List.set_cons_succ]
          refine wpAnyH_ready (rs := [4]) (by kernel_rfl) (by simp) ?_
          refine AllReadyH.cons rfl (fun K hK => ?_) AllReadyH.nil
          go_simp
          go_wp2_with fail
          refine hK.out _ _ trivial (fun _ => ?_)
          clear hK K
          try simp only [Act.put, List.setIfInBounds_toArray, List.set_cons_zero, List.set_cons_succ]
          refine wpAnyH_ready (rs := [5]) (by kernel_rfl) (by simp) ?_
          refine AllReadyH.cons rfl (fun K hK => ?_) AllReadyH.nil
          refine wp_append_int (.tmp 182) (.tmp 185) rfl rfl rfl hrun8 ?_
          refine hK.out _ _ trivial (fun _ => ?_)
          clear hK K
          try simp only [Act.put, List.setIfInBounds_toArray, List.set_cons_zero, List.set_cons_succ]
          refine takeD (i := 6) (d := some 187) (v := ?_) rfl rfl (by kernel_rfl) (by kernel_rfl) (by kernel_rfl) (fun _ _ _ h => h) (Or.inl ⟨by rfl, ?_⟩) trivial ?_
          rotate_left
          · intro w hSw
            go_simp
            try (with_reducible rfl)
          try simp only [Act.put, List.setIfInBounds_toArray, List.set_cons_zero, List.set_cons_succ]
          refine wpAnyH_ready (rs := [7]) (by kernel_rfl) (by simp) ?_
          refine AllReadyH.cons rfl (fun K hK => ?_) AllReadyH.nil
          go_simp
          go_wp2_with fail
          refine hK.out _ _ trivial (fun _ => ?_)
          clear hK K
          try simp only [Act.put, List.setIfInBounds_toArray, List.set_cons_zero, List.set_cons_succ]
          refine wpAnyH_done (by kernel_rfl) ?_ _
          refine NoPanic.normal ?_
          generalize w8.setCell ⟨w.heap.size + 2, 6, none⟩ (.slice a8 (k + 1) c8) = w9 at HS8 ⊢
          clear hrun8 hc8 hf8 hl6 hl7
          go_wp2
          go_roundw
          case rel => exact ⟨k + 1, la ++ [y1], q1, d1, _, by omega, by go_num, hide (by simp [HLA.out]), HS8, HRM2⟩
          case measure => simp [intOf]; omega
        · go_simp
          go_wp2_with fail
          refine hK.out _ _ trivial (fun _ => ?_)
          clear hK K
          try simp only [Act.put, List.setIfInBounds_toArray, List.set_cons_zero, List.set_cons_succ]
          refine wpAnyH_ready (rs := [1]) (by kernel_rfl) (by simp) ?_
          refine AllReadyH.cons rfl (fun K hK => ?_) AllReadyH.nil
          go_simp
          go_wp2_with fail
          refine hK.out _ _ trivial (fun _ => ?_)
          clear hK K
          try simp only [Act.put, List.setIfInBounds_toArray, List.set_cons_zero, List.set_cons_succ]
          refine wpAnyH_ready (rs := [5]) (by kernel_rfl) (by simp) ?_
          refine AllReadyH.cons rfl (fun K hK => ?_) AllReadyH.nil
          refine wp_append_int (.tmp 182) (.tmp 185) rfl rfl rfl hrun8 ?_
          refine hK.out _ _ trivial (fun _ => ?_)
          clear hK K
          try simp only [Act.put, List.setIfInBounds_toArray, List.set_cons_zero, List.set_cons_succ]
          refine takeD (i := 6) (d := some 187) (v := ?_) rfl rfl (by kernel_rfl) (by kernel_rfl) (by kernel_rfl) (fun _ _ _ h => h) (Or.inl ⟨by rfl, ?_⟩) trivial ?_
          rotate_left
          · intro w hSw
            go_simp
            try (with_reducible rfl)
          try simp only [Act.put, List.setIfInBounds_toArray, List.set_cons_zero, List.set_cons_succ]
          refine wpAnyH_ready (rs := [7]) (by kernel_rfl) (by simp) ?_
          refine AllReadyH.cons rfl (fun K hK => ?_) AllReadyH.nil
          go_simp
          go_wp2_with fail
          refine hK.out _ _ trivial (fun _ => ?_)
          clear hK K
          try simp only [Act.put, List.setIfInBounds_toArray, List.set_cons_zero, List.set_cons_succ]
          refine wpAnyH_done (by kernel_rfl) ?_ _
          refine NoPanic.normal ?_
          generalize w8.setCell ⟨w.heap.size + 2, 6, none⟩ (.slice a8 (k + 1) c8) = w9 at HS8 ⊢
          clear hrun8 hc8 hf8 hl6 hl7
          go_wp2
          go_roundw
          case rel => exact ⟨k + 1, la ++ [y1], q1, d1, _, by omega, by go_num, hide (by simp [HLA.out]), HS8, HRM2⟩
          case measure => simp [intOf]; omega
    · have HRN := hide (show rdNote 20 bs = (⟨4, 0, x2, x1, x3, x4, la, 0, 0, 0, []⟩, q0, d0) by
        have e : rdMany (min m.toNat 20 - k) (q0, d0) = ([], q0, d0) := by
          by_cases h1 : (k : Int) < m ∧ k < 20
          · have h2 : d0 = true := by
              cases d0 with
              | true => rfl
              | false => exact absurd ⟨h1.1, h1.2, rfl⟩ hgo
            rw [h2]; exact rdMany_end _ _
          · have h2 : min m.toNat 20 - k = 0 := by omega
            rw [h2]; rfl
        rw [HRD.out, HRM.out, e]
        simp)
      by_cases h1 : (k : Int) < m
      · by_cases h2 : k < 20
        · have hd : d0 = true := by
            cases d0 with
            | true => rfl
            | false => exact absurd ⟨h1, h2, rfl⟩ hgo
          have hki : (k : Int) < 20 := by omega
          rw [hd] at kb
          clear hgo hd
          go_upto_region 36 with fail
          clear kb
          obtain ⟨av9, mv9, HT⟩ : ∃ av9 mv9, Hid (RS w (wr) a l c bs q0 d0 ⟨4, 0, x2, x1, x3, x4, la, 0, 0, 0, []⟩ (bstr x3) av9 mv9) := ⟨av, (.slice none 0 0), HS⟩
          generalize wr = X at HT ⊢
          obtain ⟨n, hnn⟩ : ∃ n : No, n = ⟨4, 0, x2, x1, x3, x4, la, 0, 0, 0, []⟩ := ⟨_, rfl⟩
          rw [← hnn] at HT HRN
          clear hnn
          obtain ⟨s9, hs9⟩ : ∃ s9 : ByteArray, s9 = (bstr x3) := ⟨_, rfl⟩
          rw [← hs9] at HT
          clear hs9
          have HIN := hide (rdNote_in bs)
          rw [HRN.out] at HIN
          have hNM9 := HT.out.nm
          obtain ⟨-, -, -, -, ⟨aa, al, ac, rfl, -⟩, ⟨ma, ml, mc, rfl, -⟩⟩ := hNM9
          have HNM := hide HT.out.nm
          have HNM3 := hide (HT.out.nm3)
          obtain ⟨k0, k1, k2, k3, k4, k5, k6, k7, k8, k9, k10⟩ := (show BoxL X (w.heap.size + 2) [.int .i64 n.kind, .int .i64 n.node, .int .i64 n.life, .int .i64 n.epoch, .string s9, .int .i64 n.func, .slice aa al ac, .int .i64 n.err, .int .i64 n.val, .int .i64 n.vep, .slice ma ml mc] from HT.out.box).c11
          by_cases hm : mayN (clearN n) = true
          · have C12 := hide (rpackQ n s9 _ _ _ X HNM.out HIN.out hm)
            simp only [Nv] at C12
            unfold RP at C12
            have hBy := nm_byt HNM.out HIN.out
            have HE1 := hide (bstr_eq hBy HSA.out.byt)
            cases hbb : d0 with
            | true =>
              have HNO := hide (okR_no HRN.out (.inl hbb))
              go_upto_region 37 with (go_at_call 12; go_must ((with_reducible refine C12.out.mono ?_); rintro e w5 ⟨a5, m5, c5, rfl, hm5, -, -, hr5, hb5⟩))
              have HR5 := hide (HT.out.res.below hb5)
              have HN5 := hide ((show BoxL X (w.heap.size + 2) [.int .i64 n.kind, .int .i64 n.node, .int .i64 n.life, .int .i64 n.epoch, .string s9, .int .i64 n.func, .slice aa al ac, .int .i64 n.err, .int .i64 n.val, .int .i64 n.vep, .slice ma ml mc] from HT.out.box).below hb5)
              have HL5 := hide (HT.out.low.trans (hb5.mono HT.out.low.size))
              have HM5 := hide (HNM3.out.below hb5)
              have kb := keep_cell HT.out.cur.bad hb5
              clear k0 k1 k2 k3 k4 k5 k6 k7 k8 k9 k10
              rw [hbb] at kb
              clear hbb
              obtain ⟨q0, q1, q2, q3, q4, q5, q6, q7, q8, q9, q10⟩ := HR5.out.c11
              obtain ⟨v0, v1, v2, v3, v4, v5, v6, v7, v8, v9, v10⟩ := HR5.out.f11
              go_wp2
              have HX7 := hide (put11_box HR5.out (.int .i64 0) (.int .i64 0) (.int .i64 0) (.int .i64 0) (.string ⟨#[]⟩) (.int .i64 0) (.slice none 0 0) (.int .i64 0) (.int .i64 0) (.int .i64 0) (.slice none 0 0))
              have HB7 := hide (put11_below (g := w.heap.size) HL5.out (Nat.le_refl _) (.int .i64 0) (.int .i64 0) (.int .i64 0) (.int .i64 0) (.string ⟨#[]⟩) (.int .i64 0) (.slice none 0 0) (.int .i64 0) (.int .i64 0) (.int .i64 0) (.slice none 0 0))
              obtain ⟨Y, hY⟩ : ∃ Y, Y = put11 w5 w.heap.size (.int .i64 0) (.int .i64 0) (.int .i64 0) (.int .i64 0) (.string ⟨#[]⟩) (.int .i64 0) (.slice none 0 0) (.int .i64 0) (.int .i64 0) (.int .i64 0) (.slice none 0 0) := ⟨_, rfl⟩
              rw [← hY] at HX7 HB7
              unfold put11 at hY
              rw [← hY]
              clear hY
              obtain ⟨x0, x1, x2, x3, x4, x5, x6, x7, x8, x9, x10⟩ := HX7.out.c11
              refine bodyPost_ret (v := .tuple #[.agg #[.int .i64 0, .int .i64 0, .int .i64 0, .int .i64 0, .string ⟨#[]⟩, .int .i64 0, .slice none 0 0, .int .i64 0, .int .i64 0, .int .i64 0, .slice none 0 0], .int .i64 4]) (by simp [results, Try.results18, go_sem, x0, x1, x2, x3, x4, x5, x6, x7, x8, x9, x10]) rfl ?_
              unfold RNPost
              rw [HNO.out]
              exact ⟨rfl, HB7.out⟩
            | false =>
              by_cases he : encN (clearN n) = bs
              · have HYES := hide (okR_yes (by rw [HRN.out, hbb]) hm he)
                rw [decide_eq_true he] at HE1
                go_upto_region 37 with (go_at_call 12; go_must ((with_reducible refine C12.out.mono ?_); rintro e w5 ⟨a5, m5, c5, rfl, hm5, -, -, hr5, hb5⟩))
                have HR5 := hide (HT.out.res.below hb5)
                have HN5 := hide ((show BoxL X (w.heap.size + 2) [.int .i64 n.kind, .int .i64 n.node, .int .i64 n.life, .int .i64 n.epoch, .string s9, .int .i64 n.func, .slice aa al ac, .int .i64 n.err, .int .i64 n.val, .int .i64 n.vep, .slice ma ml mc] from HT.out.box).below hb5)
                have HL5 := hide (HT.out.low.trans (hb5.mono HT.out.low.size))
                have HM5 := hide (HNM3.out.below hb5)
                have kb := keep_cell HT.out.cur.bad hb5
                clear k0 k1 k2 k3 k4 k5 k6 k7 k8 k9 k10
                rw [hbb] at kb
                clear hbb
                have kcw := run_str (S := bstr (encN (clearN n))) rfl hm5.out hr5.out c5
                have kcb := run_str (S := bstr bs) rfl HSA.out.len (HSA.out.reads.below HL5.out) c
                generalize bstr (encN (clearN n)) = S1 at kcw HE1
                generalize bstr bs = S2 at kcb HE1
                have hE1 := HE1.out
                obtain ⟨q0, q1, q2, q3, q4, q5, q6, q7, q8, q9, q10⟩ := HR5.out.c11
                obtain ⟨v0, v1, v2, v3, v4, v5, v6, v7, v8, v9, v10⟩ := HR5.out.f11
                obtain ⟨g0, g1, g2, g3, g4, g5, g6, g7, g8, g9, g10⟩ := HN5.out.c11
                go_wp2
                have HX7 := hide (put11_box HR5.out (.int .i64 n.kind) (.int .i64 n.node) (.int .i64 n.life) (.int .i64 n.epoch) (.string s9) (.int .i64 n.func) (.slice aa al ac) (.int .i64 n.err) (.int .i64 n.val) (.int .i64 n.vep) (.slice ma ml mc))
                have HB7 := hide (put11_below (g := w.heap.size) HL5.out (Nat.le_refl _) (.int .i64 n.kind) (.int .i64 n.node) (.int .i64 n.life) (.int .i64 n.epoch) (.string s9) (.int .i64 n.func) (.slice aa al ac) (.int .i64 n.err) (.int .i64 n.val) (.int .i64 n.vep) (.slice ma ml mc))
                have HM7 := hide (HM5.out.keep (w' := put11 w5 w.heap.size (.int .i64 n.kind) (.int .i64 n.node) (.int .i64 n.life) (.int .i64 n.epoch) (.string s9) (.int .i64 n.func) (.slice aa al ac) (.int .i64 n.err) (.int .i64 n.val) (.int .i64 n.vep) (.slice ma ml mc)) (fun k h1 _ => put11_keep (by omega) (.int .i64 n.kind) (.int .i64 n.node) (.int .i64 n.life) (.int .i64 n.epoch) (.string s9) (.int .i64 n.func) (.slice aa al ac) (.int .i64 n.err) (.int .i64 n.val) (.int .i64 n.vep) (.slice ma ml mc)))
                obtain ⟨Y, hY⟩ : ∃ Y, Y = put11 w5 w.heap.size (.int .i64 n.kind) (.int .i64 n.node) (.int .i64 n.life) (.int .i64 n.epoch) (.string s9) (.int .i64 n.func) (.slice aa al ac) (.int .i64 n.err) (.int .i64 n.val) (.int .i64 n.vep) (.slice ma ml mc) := ⟨_, rfl⟩
                rw [← hY] at HX7 HB7 HM7
                unfold put11 at hY
                rw [← hY]
                clear hY
                obtain ⟨x0, x1, x2, x3, x4, x5, x6, x7, x8, x9, x10⟩ := HX7.out.c11
                refine bodyPost_ret (v := .tuple #[.agg #[.int .i64 n.kind, .int .i64 n.node, .int .i64 n.life, .int .i64 n.epoch, .string s9, .int .i64 n.func, .slice aa al ac, .int .i64 n.err, .int .i64 n.val, .int .i64 n.vep, .slice ma ml mc], .int .i64 0]) (by simp [results, Try.results18, go_sem, x0, x1, x2, x3, x4, x5, x6, x7, x8, x9, x10]) rfl ?_
                unfold RNPost
                rw [HYES.out, if_pos rfl, HRN.out]
                exact ⟨s9, .slice aa al ac, .slice ma ml mc, rfl, HM7.out.mono (by omega), HB7.out⟩
              · have HNO := hide (okR_no HRN.out (.inr (.inr he)))
                rw [decide_eq_false he] at HE1
                go_upto_region 37 with (go_at_call 12; go_must ((with_reducible refine C12.out.mono ?_); rintro e w5 ⟨a5, m5, c5, rfl, hm5, -, -, hr5, hb5⟩))
                have HR5 := hide (HT.out.res.below hb5)
                have HN5 := hide ((show BoxL X (w.heap.size + 2) [.int .i64 n.kind, .int .i64 n.node, .int .i64 n.life, .int .i64 n.epoch, .string s9, .int .i64 n.func, .slice aa al ac, .int .i64 n.err, .int .i64 n.val, .int .i64 n.vep, .slice ma ml mc] from HT.out.box).below hb5)
                have HL5 := hide (HT.out.low.trans (hb5.mono HT.out.low.size))
                have HM5 := hide (HNM3.out.below hb5)
                have kb := keep_cell HT.out.cur.bad hb5
                clear k0 k1 k2 k3 k4 k5 k6 k7 k8 k9 k10
                rw [hbb] at kb
                clear hbb
                have kcw := run_str (S := bstr (encN (clearN n))) rfl hm5.out hr5.out c5
                have kcb := run_str (S := bstr bs) rfl HSA.out.len (HSA.out.reads.below HL5.out) c
                generalize bstr (encN (clearN n)) = S1 at kcw HE1
                generalize bstr bs = S2 at kcb HE1
                have hE1 := HE1.out
                obtain ⟨q0, q1, q2, q3, q4, q5, q6, q7, q8, q9, q10⟩ := HR5.out.c11
                obtain ⟨v0, v1, v2, v3, v4, v5, v6, v7, v8, v9, v10⟩ := HR5.out.f11
                go_wp2
                have HX7 := hide (put11_box HR5.out (.int .i64 0) (.int .i64 0) (.int .i64 0) (.int .i64 0) (.string ⟨#[]⟩) (.int .i64 0) (.slice none 0 0) (.int .i64 0) (.int .i64 0) (.int .i64 0) (.slice none 0 0))
                have HB7 := hide (put11_below (g := w.heap.size) HL5.out (Nat.le_refl _) (.int .i64 0) (.int .i64 0) (.int .i64 0) (.int .i64 0) (.string ⟨#[]⟩) (.int .i64 0) (.slice none 0 0) (.int .i64 0) (.int .i64 0) (.int .i64 0) (.slice none 0 0))
                obtain ⟨Y, hY⟩ : ∃ Y, Y = put11 w5 w.heap.size (.int .i64 0) (.int .i64 0) (.int .i64 0) (.int .i64 0) (.string ⟨#[]⟩) (.int .i64 0) (.slice none 0 0) (.int .i64 0) (.int .i64 0) (.int .i64 0) (.slice none 0 0) := ⟨_, rfl⟩
                rw [← hY] at HX7 HB7
                unfold put11 at hY
                rw [← hY]
                clear hY
                obtain ⟨x0, x1, x2, x3, x4, x5, x6, x7, x8, x9, x10⟩ := HX7.out.c11
                refine bodyPost_ret (v := .tuple #[.agg #[.int .i64 0, .int .i64 0, .int .i64 0, .int .i64 0, .string ⟨#[]⟩, .int .i64 0, .slice none 0 0, .int .i64 0, .int .i64 0, .int .i64 0, .slice none 0 0], .int .i64 4]) (by simp [results, Try.results18, go_sem, x0, x1, x2, x3, x4, x5, x6, x7, x8, x9, x10]) rfl ?_
                unfold RNPost
                rw [HNO.out]
                exact ⟨rfl, HB7.out⟩
          · have HNO := hide (okR_no HRN.out (.inr (.inl (by simpa using hm))))
            have C12 := hide (rpackN n s9 _ _ _ X HNM.out HIN.out (by simpa using hm))
            simp only [Nv] at C12
            go_upto_region 37 with (go_at_call 12; go_must ((with_reducible refine C12.out.mono ?_); rintro e w5 ⟨rfl, hb5⟩))
            have HR5 := hide (HT.out.res.below hb5)
            have HN5 := hide ((show BoxL X (w.heap.size + 2) [.int .i64 n.kind, .int .i64 n.node, .int .i64 n.life, .int .i64 n.epoch, .string s9, .int .i64 n.func, .slice aa al ac, .int .i64 n.err, .int .i64 n.val, .int .i64 n.vep, .slice ma ml mc] from HT.out.box).below hb5)
            have HL5 := hide (HT.out.low.trans (hb5.mono HT.out.low.size))
            have HM5 := hide (HNM3.out.below hb5)
            have kb := keep_cell HT.out.cur.bad hb5
            clear k0 k1 k2 k3 k4 k5 k6 k7 k8 k9 k10
            cases hbb : d0 with
            | true =>
              rw [hbb] at kb
              clear hbb
              obtain ⟨q0, q1, q2, q3, q4, q5, q6, q7, q8, q9, q10⟩ := HR5.out.c11
              obtain ⟨v0, v1, v2, v3, v4, v5, v6, v7, v8, v9, v10⟩ := HR5.out.f11
              go_wp2
              have HX7 := hide (put11_box HR5.out (.int .i64 0) (.int .i64 0) (.int .i64 0) (.int .i64 0) (.string ⟨#[]⟩) (.int .i64 0) (.slice none 0 0) (.int .i64 0) (.int .i64 0) (.int .i64 0) (.slice none 0 0))
              have HB7 := hide (put11_below (g := w.heap.size) HL5.out (Nat.le_refl _) (.int .i64 0) (.int .i64 0) (.int .i64 0) (.int .i64 0) (.string ⟨#[]⟩) (.int .i64 0) (.slice none 0 0) (.int .i64 0) (.int .i64 0) (.int .i64 0) (.slice none 0 0))
              obtain ⟨Y, hY⟩ : ∃ Y, Y = put11 w5 w.heap.size (.int .i64 0) (.int .i64 0) (.int .i64 0) (.int .i64 0) (.string ⟨#[]⟩) (.int .i64 0) (.slice none 0 0) (.int .i64 0) (.int .i64 0) (.int .i64 0) (.slice none 0 0) := ⟨_, rfl⟩
              rw [← hY] at HX7 HB7
              unfold put11 at hY
              rw [← hY]
              clear hY
              obtain ⟨x0, x1, x2, x3, x4, x5, x6, x7, x8, x9, x10⟩ := HX7.out.c11
              refine bodyPost_ret (v := .tuple #[.agg #[.int .i64 0, .int .i64 0, .int .i64 0, .int .i64 0, .string ⟨#[]⟩, .int .i64 0, .slice none 0 0, .int .i64 0, .int .i64 0, .int .i64 0, .slice none 0 0], .int .i64 4]) (by simp [results, Try.results18, go_sem, x0, x1, x2, x3, x4, x5, x6, x7, x8, x9, x10]) rfl ?_
              unfold RNPost
              rw [HNO.out]
              exact ⟨rfl, HB7.out⟩
            | false =>
              rw [hbb] at kb
              clear hbb
              obtain ⟨q0, q1, q2, q3, q4, q5, q6, q7, q8, q9, q10⟩ := HR5.out.c11
              obtain ⟨v0, v1, v2, v3, v4, v5, v6, v7, v8, v9, v10⟩ := HR5.out.f11
              go_wp2
              have HX7 := hide (put11_box HR5.out (.int .i64 0) (.int .i64 0) (.int .i64 0) (.int .i64 0) (.string ⟨#[]⟩) (.int .i64 0) (.slice none 0 0) (.int .i64 0) (.int .i64 0) (.int .i64 0) (.slice none 0 0))
              have HB7 := hide (put11_below (g := w.heap.size) HL5.out (Nat.le_refl _) (.int .i64 0) (.int .i64 0) (.int .i64 0) (.int .i64 0) (.string ⟨#[]⟩) (.int .i64 0) (.slice none 0 0) (.int .i64 0) (.int .i64 0) (.int .i64 0) (.slice none 0 0))
              obtain ⟨Y, hY⟩ : ∃ Y, Y = put11 w5 w.heap.size (.int .i64 0) (.int .i64 0) (.int .i64 0) (.int .i64 0) (.string ⟨#[]⟩) (.int .i64 0) (.slice none 0 0) (.int .i64 0) (.int .i64 0) (.int .i64 0) (.slice none 0 0) := ⟨_, rfl⟩
              rw [← hY] at HX7 HB7
              unfold put11 at hY
              rw [← hY]
              clear hY
              obtain ⟨x0, x1, x2, x3, x4, x5, x6, x7, x8, x9, x10⟩ := HX7.out.c11
              refine bodyPost_ret (v := .tuple #[.agg #[.int .i64 0, .int .i64 0, .int .i64 0, .int .i64 0, .string ⟨#[]⟩, .int .i64 0, .slice none 0 0, .int .i64 0, .int .i64 0, .int .i64 0, .slice none 0 0], .int .i64 4]) (by simp [results, Try.results18, go_sem, x0, x1, x2, x3, x4, x5, x6, x7, x8, x9, x10]) rfl ?_
              unfold RNPost
              rw [HNO.out]
              exact ⟨rfl, HB7.out⟩
        · have hki : ¬ (k : Int) < 20 := by omega
          clear hgo kb
          go_upto_region 36 with fail
          obtain ⟨av9, mv9, HT⟩ : ∃ av9 mv9, Hid (RS w (wr) a l c bs q0 d0 ⟨4, 0, x2, x1, x3, x4, la, 0, 0, 0, []⟩ (bstr x3) av9 mv9) := ⟨av, (.slice none 0 0), HS⟩
          generalize wr = X at HT ⊢
          obtain ⟨n, hnn⟩ : ∃ n : No, n = ⟨4, 0, x2, x1, x3, x4, la, 0, 0, 0, []⟩ := ⟨_, rfl⟩
          rw [← hnn] at HT HRN
          clear hnn
          obtain ⟨s9, hs9⟩ : ∃ s9 : ByteArray, s9 = (bstr x3) := ⟨_, rfl⟩
          rw [← hs9] at HT
          clear hs9
          have HIN := hide (rdNote_in bs)
          rw [HRN.out] at HIN
          have hNM9 := HT.out.nm
          obtain ⟨-, -, -, -, ⟨aa, al, ac, rfl, -⟩, ⟨ma, ml, mc, rfl, -⟩⟩ := hNM9
          have HNM := hide HT.out.nm
          have HNM3 := hide (HT.out.nm3)
          obtain ⟨k0, k1, k2, k3, k4, k5, k6, k7, k8, k9, k10⟩ := (show BoxL X (w.heap.size + 2) [.int .i64 n.kind, .int .i64 n.node, .int .i64 n.life, .int .i64 n.epoch, .string s9, .int .i64 n.func, .slice aa al ac, .int .i64 n.err, .int .i64 n.val, .int .i64 n.vep, .slice ma ml mc] from HT.out.box).c11
          by_cases hm : mayN (clearN n) = true
          · have C12 := hide (rpackQ n s9 _ _ _ X HNM.out HIN.out hm)
            simp only [Nv] at C12
            unfold RP at C12
            have hBy := nm_byt HNM.out HIN.out
            have HE1 := hide (bstr_eq hBy HSA.out.byt)
            cases hbb : d0 with
            | true =>
              have HNO := hide (okR_no HRN.out (.inl hbb))
              go_upto_region 37 with (go_at_call 12; go_must ((with_reducible refine C12.out.mono ?_); rintro e w5 ⟨a5, m5, c5, rfl, hm5, -, -, hr5, hb5⟩))
              have HR5 := hide (HT.out.res.below hb5)
              have HN5 := hide ((show BoxL X (w.heap.size + 2) [.int .i64 n.kind, .int .i64 n.node, .int .i64 n.life, .int .i64 n.epoch, .string s9, .int .i64 n.func, .slice aa al ac, .int .i64 n.err, .int .i64 n.val, .int .i64 n.vep, .slice ma ml mc] from HT.out.box).below hb5)
              have HL5 := hide (HT.out.low.trans (hb5.mono HT.out.low.size))
              have HM5 := hide (HNM3.out.below hb5)
              have kb := keep_cell HT.out.cur.bad hb5
              clear k0 k1 k2 k3 k4 k5 k6 k7 k8 k9 k10
              rw [hbb] at kb
              clear hbb
              obtain ⟨q0, q1, q2, q3, q4, q5, q6, q7, q8, q9, q10⟩ := HR5.out.c11
              obtain ⟨v0, v1, v2, v3, v4, v5, v6, v7, v8, v9, v10⟩ := HR5.out.f11
              go_wp2
              have HX7 := hide (put11_box HR5.out (.int .i64 0) (.int .i64 0) (.int .i64 0) (.int .i64 0) (.string ⟨#[]⟩) (.int .i64 0) (.slice none 0 0) (.int .i64 0) (.int .i64 0) (.int .i64 0) (.slice none 0 0))
              have HB7 := hide (put11_below (g := w.heap.size) HL5.out (Nat.le_refl _) (.int .i64 0) (.int .i64 0) (.int .i64 0) (.int .i64 0) (.string ⟨#[]⟩) (.int .i64 0) (.slice none 0 0) (.int .i64 0) (.int .i64 0) (.int .i64 0) (.slice none 0 0))
              obtain ⟨Y, hY⟩ : ∃ Y, Y = put11 w5 w.heap.size (.int .i64 0) (.int .i64 0) (.int .i64 0) (.int .i64 0) (.string ⟨#[]⟩) (.int .i64 0) (.slice none 0 0) (.int .i64 0) (.int .i64 0) (.int .i64 0) (.slice none 0 0) := ⟨_, rfl⟩
              rw [← hY] at HX7 HB7
              unfold put11 at hY
              rw [← hY]
              clear hY
              obtain ⟨x0, x1, x2, x3, x4, x5, x6, x7, x8, x9, x10⟩ := HX7.out.c11
              refine bodyPost_ret (v := .tuple #[.agg #[.int .i64 0, .int .i64 0, .int .i64 0, .int .i64 0, .string ⟨#[]⟩, .int .i64 0, .slice none 0 0, .int .i64 0, .int .i64 0, .int .i64 0, .slice none 0 0], .int .i64 4]) (by simp [results, Try.results18, go_sem, x0, x1, x2, x3, x4, x5, x6, x7, x8, x9, x10]) rfl ?_
              unfold RNPost
              rw [HNO.out]
              exact ⟨rfl, HB7.out⟩
            | false =>
              by_cases he : encN (clearN n) = bs
              · have HYES := hide (okR_yes (by rw [HRN.out, hbb]) hm he)
                rw [decide_eq_true he] at HE1
                go_upto_region 37 with (go_at_call 12; go_must ((with_reducible refine C12.out.mono ?_); rintro e w5 ⟨a5, m5, c5, rfl, hm5, -, -, hr5, hb5⟩))
                have HR5 := hide (HT.out.res.below hb5)
                have HN5 := hide ((show BoxL X (w.heap.size + 2) [.int .i64 n.kind, .int .i64 n.node, .int .i64 n.life, .int .i64 n.epoch, .string s9, .int .i64 n.func, .slice aa al ac, .int .i64 n.err, .int .i64 n.val, .int .i64 n.vep, .slice ma ml mc] from HT.out.box).below hb5)
                have HL5 := hide (HT.out.low.trans (hb5.mono HT.out.low.size))
                have HM5 := hide (HNM3.out.below hb5)
                have kb := keep_cell HT.out.cur.bad hb5
                clear k0 k1 k2 k3 k4 k5 k6 k7 k8 k9 k10
                rw [hbb] at kb
                clear hbb
                have kcw := run_str (S := bstr (encN (clearN n))) rfl hm5.out hr5.out c5
                have kcb := run_str (S := bstr bs) rfl HSA.out.len (HSA.out.reads.below HL5.out) c
                generalize bstr (encN (clearN n)) = S1 at kcw HE1
                generalize bstr bs = S2 at kcb HE1
                have hE1 := HE1.out
                obtain ⟨q0, q1, q2, q3, q4, q5, q6, q7, q8, q9, q10⟩ := HR5.out.c11
                obtain ⟨v0, v1, v2, v3, v4, v5, v6, v7, v8, v9, v10⟩ := HR5.out.f11
                obtain ⟨g0, g1, g2, g3, g4, g5, g6, g7, g8, g9, g10⟩ := HN5.out.c11
                go_wp2
                have HX7 := hide (put11_box HR5.out (.int .i64 n.kind) (.int .i64 n.node) (.int .i64 n.life) (.int .i64 n.epoch) (.string s9) (.int .i64 n.func) (.slice aa al ac) (.int .i64 n.err) (.int .i64 n.val) (.int .i64 n.vep) (.slice ma ml mc))
                have HB7 := hide (put11_below (g := w.heap.size) HL5.out (Nat.le_refl _) (.int .i64 n.kind) (.int .i64 n.node) (.int .i64 n.life) (.int .i64 n.epoch) (.string s9) (.int .i64 n.func) (.slice aa al ac) (.int .i64 n.err) (.int .i64 n.val) (.int .i64 n.vep) (.slice ma ml mc))
                have HM7 := hide (HM5.out.keep (w' := put11 w5 w.heap.size (.int .i64 n.kind) (.int .i64 n.node) (.int .i64 n.life) (.int .i64 n.epoch) (.string s9) (.int .i64 n.func) (.slice aa al ac) (.int .i64 n.err) (.int .i64 n.val) (.int .i64 n.vep) (.slice ma ml mc)) (fun k h1 _ => put11_keep (by omega) (.int .i64 n.kind) (.int .i64 n.node) (.int .i64 n.life) (.int .i64 n.epoch) (.string s9) (.int .i64 n.func) (.slice aa al ac) (.int .i64 n.err) (.int .i64 n.val) (.int .i64 n.vep) (.slice ma ml mc)))
                obtain ⟨Y, hY⟩ : ∃ Y, Y = put11 w5 w.heap.size (.int .i64 n.kind) (.int .i64 n.node) (.int .i64 n.life) (.int .i64 n.epoch) (.string s9) (.int .i64 n.func) (.slice aa al ac) (.int .i64 n.err) (.int .i64 n.val) (.int .i64 n.vep) (.slice ma ml mc) := ⟨_, rfl⟩
                rw [← hY] at HX7 HB7 HM7
                unfold put11 at hY
                rw [← hY]
                clear hY
                obtain ⟨x0, x1, x2, x3, x4, x5, x6, x7, x8, x9, x10⟩ := HX7.out.c11
                refine bodyPost_ret (v := .tuple #[.agg #[.int .i64 n.kind, .int .i64 n.node, .int .i64 n.life, .int .i64 n.epoch, .string s9, .int .i64 n.func, .slice aa al ac, .int .i64 n.err, .int .i64 n.val, .int .i64 n.vep, .slice ma ml mc], .int .i64 0]) (by simp [results, Try.results18, go_sem, x0, x1, x2, x3, x4, x5, x6, x7, x8, x9, x10]) rfl ?_
                unfold RNPost
                rw [HYES.out, if_pos rfl, HRN.out]
                exact ⟨s9, .slice aa al ac, .slice ma ml mc, rfl, HM7.out.mono (by omega), HB7.out⟩
              · have HNO := hide (okR_no HRN.out (.inr (.inr he)))
                rw [decide_eq_false he] at HE1
                go_upto_region 37 with (go_at_call 12; go_must ((with_reducible refine C12.out.mono ?_); rintro e w5 ⟨a5, m5, c5, rfl, hm5, -, -, hr5, hb5⟩))
                have HR5 := hide (HT.out.res.below hb5)
                have HN5 := hide ((show BoxL X (w.heap.size + 2) [.int .i64 n.kind, .int .i64 n.node, .int .i64 n.life, .int .i64 n.epoch, .string s9, .int .i64 n.func, .slice aa al ac, .int .i64 n.err, .int .i64 n.val, .int .i64 n.vep, .slice ma ml mc] from HT.out.box).below hb5)
                have HL5 := hide (HT.out.low.trans (hb5.mono HT.out.low.size))
                have HM5 := hide (HNM3.out.below hb5)
                have kb := keep_cell HT.out.cur.bad hb5
                clear k0 k1 k2 k3 k4 k5 k6 k7 k8 k9 k10
                rw [hbb] at kb
                clear hbb
                have kcw := run_str (S := bstr (encN (clearN n))) rfl hm5.out hr5.out c5
                have kcb := run_str (S := bstr bs) rfl HSA.out.len (HSA.out.reads.below HL5.out) c
                generalize bstr (encN (clearN n)) = S1 at kcw HE1
                generalize bstr bs = S2 at kcb HE1
                have hE1 := HE1.out
                obtain ⟨q0, q1, q2, q3, q4, q5, q6, q7, q8, q9, q10⟩ := HR5.out.c11
                obtain ⟨v0, v1, v2, v3, v4, v5, v6, v7, v8, v9, v10⟩ := HR5.out.f11
                go_wp2
                have HX7 := hide (put11_box HR5.out (.int .i64 0) (.int .i64 0) (.int .i64 0) (.int .i64 0) (.string ⟨#[]⟩) (.int .i64 0) (.slice none 0 0) (.int .i64 0) (.int .i64 0) (.int .i64 0) (.slice none 0 0))
                have HB7 := hide (put11_below (g := w.heap.size) HL5.out (Nat.le_refl _) (.int .i64 0) (.int .i64 0) (.int .i64 0) (.int .i64 0) (.string ⟨#[]⟩) (.int .i64 0) (.slice none 0 0) (.int .i64 0) (.int .i64 0) (.int .i64 0) (.slice none 0 0))
                obtain ⟨Y, hY⟩ : ∃ Y, Y = put11 w5 w.heap.size (.int .i64 0) (.int .i64 0) (.int .i64 0) (.int .i64 0) (.string ⟨#[]⟩) (.int .i64 0) (.slice none 0 0) (.int .i64 0) (.int .i64 0) (.int .i64 0) (.slice none 0 0) := ⟨_, rfl⟩
                rw [← hY] at HX7 HB7
                unfold put11 at hY
                rw [← hY]
                clear hY
                obtain ⟨x0, x1, x2, x3, x4, x5, x6, x7, x8, x9, x10⟩ := HX7.out.c11
                refine bodyPost_ret (v := .tuple #[.agg #[.int .i64 0, .int .i64 0, .int .i64 0, .int .i64 0, .string ⟨#[]⟩, .int .i64 0, .slice none 0 0, .int .i64 0, .int .i64 0, .int .i64 0, .slice none 0 0], .int .i64 4]) (by simp [results, Try.results18, go_sem, x0, x1, x2, x3, x4, x5, x6, x7, x8, x9, x10]) rfl ?_
                unfold RNPost
                rw [HNO.out]
                exact ⟨rfl, HB7.out⟩
          · have HNO := hide (okR_no HRN.out (.inr (.inl (by simpa using hm))))
            have C12 := hide (rpackN n s9 _ _ _ X HNM.out HIN.out (by simpa using hm))
            simp only [Nv] at C12
            go_upto_region 37 with (go_at_call 12; go_must ((with_reducible refine C12.out.mono ?_); rintro e w5 ⟨rfl, hb5⟩))
            have HR5 := hide (HT.out.res.below hb5)
            have HN5 := hide ((show BoxL X (w.heap.size + 2) [.int .i64 n.kind, .int .i64 n.node, .int .i64 n.life, .int .i64 n.epoch, .string s9, .int .i64 n.func, .slice aa al ac, .int .i64 n.err, .int .i64 n.val, .int .i64 n.vep, .slice ma ml mc] from HT.out.box).below hb5)
            have HL5 := hide (HT.out.low.trans (hb5.mono HT.out.low.size))
            have HM5 := hide (HNM3.out.below hb5)
            have kb := keep_cell HT.out.cur.bad hb5
            clear k0 k1 k2 k3 k4 k5 k6 k7 k8 k9 k10
            cases hbb : d0 with
            | true =>
              rw [hbb] at kb
              clear hbb
              obtain ⟨q0, q1, q2, q3, q4, q5, q6, q7, q8, q9, q10⟩ := HR5.out.c11
              obtain ⟨v0, v1, v2, v3, v4, v5, v6, v7, v8, v9, v10⟩ := HR5.out.f11
              go_wp2
              have HX7 := hide (put11_box HR5.out (.int .i64 0) (.int .i64 0) (.int .i64 0) (.int .i64 0) (.string ⟨#[]⟩) (.int .i64 0) (.slice none 0 0) (.int .i64 0) (.int .i64 0) (.int .i64 0) (.slice none 0 0))
              have HB7 := hide (put11_below (g := w.heap.size) HL5.out (Nat.le_refl _) (.int .i64 0) (.int .i64 0) (.int .i64 0) (.int .i64 0) (.string ⟨#[]⟩) (.int .i64 0) (.slice none 0 0) (.int .i64 0) (.int .i64 0) (.int .i64 0) (.slice none 0 0))
              obtain ⟨Y, hY⟩ : ∃ Y, Y = put11 w5 w.heap.size (.int .i64 0) (.int .i64 0) (.int .i64 0) (.int .i64 0) (.string ⟨#[]⟩) (.int .i64 0) (.slice none 0 0) (.int .i64 0) (.int .i64 0) (.int .i64 0) (.slice none 0 0) := ⟨_, rfl⟩
              rw [← hY] at HX7 HB7
              unfold put11 at hY
              rw [← hY]
              clear hY
              obtain ⟨x0, x1, x2, x3, x4, x5, x6, x7, x8, x9, x10⟩ := HX7.out.c11
              refine bodyPost_ret (v := .tuple #[.agg #[.int .i64 0, .int .i64 0, .int .i64 0, .int .i64 0, .string ⟨#[]⟩, .int .i64 0, .slice none 0 0, .int .i64 0, .int .i64 0, .int .i64 0, .slice none 0 0], .int .i64 4]) (by simp [results, Try.results18, go_sem, x0, x1, x2, x3, x4, x5, x6, x7, x8, x9, x10]) rfl ?_
              unfold RNPost
              rw [HNO.out]
              exact ⟨rfl, HB7.out⟩
            | false =>
              rw [hbb] at kb
              clear hbb
              obtain ⟨q0, q1, q2, q3, q4, q5, q6, q7, q8, q9, q10⟩ := HR5.out.c11
              obtain ⟨v0, v1, v2, v3, v4, v5, v6, v7, v8, v9, v10⟩ := HR5.out.f11
              go_wp2
              have HX7 := hide (put11_box HR5.out (.int .i64 0) (.int .i64 0) (.int .i64 0) (.int .i64 0) (.string ⟨#[]⟩) (.int .i64 0) (.slice none 0 0) (.int .i64 0) (.int .i64 0) (.int .i64 0) (.slice none 0 0))
              have HB7 := hide (put11_below (g := w.heap.size) HL5.out (Nat.le_refl _) (.int .i64 0) (.int .i64 0) (.int .i64 0) (.int .i64 0) (.string ⟨#[]⟩) (.int .i64 0) (.slice none 0 0) (.int .i64 0) (.int .i64 0) (.int .i64 0) (.slice none 0 0))
              obtain ⟨Y, hY⟩ : ∃ Y, Y = put11 w5 w.heap.size (.int .i64 0) (.int .i64 0) (.int .i64 0) (.int .i64 0) (.string ⟨#[]⟩) (.int .i64 0) (.slice none 0 0) (.int .i64 0) (.int .i64 0) (.int .i64 0) (.slice none 0 0) := ⟨_, rfl⟩
              rw [← hY] at HX7 HB7
              unfold put11 at hY
              rw [← hY]
              clear hY
              obtain ⟨x0, x1, x2, x3, x4, x5, x6, x7, x8, x9, x10⟩ := HX7.out.c11
              refine bodyPost_ret (v := .tuple #[.agg #[.int .i64 0, .int .i64 0, .int .i64 0, .int .i64 0, .string ⟨#[]⟩, .int .i64 0, .slice none 0 0, .int .i64 0, .int .i64 0, .int .i64 0, .slice none 0 0], .int .i64 4]) (by simp [results, Try.results18, go_sem, x0, x1, x2, x3, x4, x5, x6, x7, x8, x9, x10]) rfl ?_
              unfold RNPost
              rw [HNO.out]
              exact ⟨rfl, HB7.out⟩
      · clear hgo kb
        go_upto_region 36 with fail
        obtain ⟨av9, mv9, HT⟩ : ∃ av9 mv9, Hid (RS w (wr) a l c bs q0 d0 ⟨4, 0, x2, x1, x3, x4, la, 0, 0, 0, []⟩ (bstr x3) av9 mv9) := ⟨av, (.slice none 0 0), HS⟩
        generalize wr = X at HT ⊢
        obtain ⟨n, hnn⟩ : ∃ n : No, n = ⟨4, 0, x2, x1, x3, x4, la, 0, 0, 0, []⟩ := ⟨_, rfl⟩
        rw [← hnn] at HT HRN
        clear hnn
        obtain ⟨s9, hs9⟩ : ∃ s9 : ByteArray, s9 = (bstr x3) := ⟨_, rfl⟩
        rw [← hs9] at HT
        clear hs9
        have HIN := hide (rdNote_in bs)
        rw [HRN.out] at HIN
        have hNM9 := HT.out.nm
        obtain ⟨-, -, -, -, ⟨aa, al, ac, rfl, -⟩, ⟨ma, ml, mc, rfl, -⟩⟩ := hNM9
        have HNM := hide HT.out.nm
        have HNM3 := hide (HT.out.nm3)
        obtain ⟨k0, k1, k2, k3, k4, k5, k6, k7, k8, k9, k10⟩ := (show BoxL X (w.heap.size + 2) [.int .i64 n.kind, .int .i64 n.node, .int .i64 n.life, .int .i64 n.epoch, .string s9, .int .i64 n.func, .slice aa al ac, .int .i64 n.err, .int .i64 n.val, .int .i64 n.vep, .slice ma ml mc] from HT.out.box).c11
        by_cases hm : mayN (clearN n) = true
        · have C12 := hide (rpackQ n s9 _ _ _ X HNM.out HIN.out hm)
          simp only [Nv] at C12
          unfold RP at C12
          have hBy := nm_byt HNM.out HIN.out
          have HE1 := hide (bstr_eq hBy HSA.out.byt)
          cases hbb : d0 with
          | true =>
            have HNO := hide (okR_no HRN.out (.inl hbb))
            go_upto_region 37 with (go_at_call 12; go_must ((with_reducible refine C12.out.mono ?_); rintro e w5 ⟨a5, m5, c5, rfl, hm5, -, -, hr5, hb5⟩))
            have HR5 := hide (HT.out.res.below hb5)
            have HN5 := hide ((show BoxL X (w.heap.size + 2) [.int .i64 n.kind, .int .i64 n.node, .int .i64 n.life, .int .i64 n.epoch, .string s9, .int .i64 n.func, .slice aa al ac, .int .i64 n.err, .int .i64 n.val, .int .i64 n.vep, .slice ma ml mc] from HT.out.box).below hb5)
            have HL5 := hide (HT.out.low.trans (hb5.mono HT.out.low.size))
            have HM5 := hide (HNM3.out.below hb5)
            have kb := keep_cell HT.out.cur.bad hb5
            clear k0 k1 k2 k3 k4 k5 k6 k7 k8 k9 k10
            rw [hbb] at kb
            clear hbb
            obtain ⟨q0, q1, q2, q3, q4, q5, q6, q7, q8, q9, q10⟩ := HR5.out.c11
            obtain ⟨v0, v1, v2, v3, v4, v5, v6, v7, v8, v9, v10⟩ := HR5.out.f11
            go_wp2
            have HX7 := hide (put11_box HR5.out (.int .i64 0) (.int .i64 0) (.int .i64 0) (.int .i64 0) (.string ⟨#[]⟩) (.int .i64 0) (.slice none 0 0) (.int .i64 0) (.int .i64 0) (.int .i64 0) (.slice none 0 0))
            have HB7 := hide (put11_below (g := w.heap.size) HL5.out (Nat.le_refl _) (.int .i64 0) (.int .i64 0) (.int .i64 0) (.int .i64 0) (.string ⟨#[]⟩) (.int .i64 0) (.slice none 0 0) (.int .i64 0) (.int .i64 0) (.int .i64 0) (.slice none 0 0))
            obtain ⟨Y, hY⟩ : ∃ Y, Y = put11 w5 w.heap.size (.int .i64 0) (.int .i64 0) (.int .i64 0) (.int .i64 0) (.string ⟨#[]⟩) (.int .i64 0) (.slice none 0 0) (.int .i64 0) (.int .i64 0) (.int .i64 0) (.slice none 0 0) := ⟨_, rfl⟩
            rw [← hY] at HX7 HB7
            unfold put11 at hY
            rw [← hY]
            clear hY
            obtain ⟨x0, x1, x2, x3, x4, x5, x6, x7, x8, x9, x10⟩ := HX7.out.c11
            refine bodyPost_ret (v := .tuple #[.agg #[.int .i64 0, .int .i64 0, .int .i64 0, .int .i64 0, .string ⟨#[]⟩, .int .i64 0, .slice none 0 0, .int .i64 0, .int .i64 0, .int .i64 0, .slice none 0 0], .int .i64 4]) (by simp [results, Try.results18, go_sem, x0, x1, x2, x3, x4, x5, x6, x7, x8, x9, x10]) rfl ?_
            unfold RNPost
            rw [HNO.out]
            exact ⟨rfl, HB7.out⟩
          | false =>
            by_cases he : encN (clearN n) = bs
            · have HYES := hide (okR_yes (by rw [HRN.out, hbb]) hm he)
              rw [decide_eq_true he] at HE1
              go_upto_region 37 with (go_at_call 12; go_must ((with_reducible refine C12.out.mono ?_); rintro e w5 ⟨a5, m5, c5, rfl, hm5, -, -, hr5, hb5⟩))
              have HR5 := hide (HT.out.res.below hb5)
              have HN5 := hide ((show BoxL X (w.heap.size + 2) [.int .i64 n.kind, .int .i64 n.node, .int .i64 n.life, .int .i64 n.epoch, .string s9, .int .i64 n.func, .slice aa al ac, .int .i64 n.err, .int .i64 n.val, .int .i64 n.vep, .slice ma ml mc] from HT.out.box).below hb5)
              have HL5 := hide (HT.out.low.trans (hb5.mono HT.out.low.size))
              have HM5 := hide (HNM3.out.below hb5)
              have kb := keep_cell HT.out.cur.bad hb5
              clear k0 k1 k2 k3 k4 k5 k6 k7 k8 k9 k10
              rw [hbb] at kb
              clear hbb
              have kcw := run_str (S := bstr (encN (clearN n))) rfl hm5.out hr5.out c5
              have kcb := run_str (S := bstr bs) rfl HSA.out.len (HSA.out.reads.below HL5.out) c
              generalize bstr (encN (clearN n)) = S1 at kcw HE1
              generalize bstr bs = S2 at kcb HE1
              have hE1 := HE1.out
              obtain ⟨q0, q1, q2, q3, q4, q5, q6, q7, q8, q9, q10⟩ := HR5.out.c11
              obtain ⟨v0, v1, v2, v3, v4, v5, v6, v7, v8, v9, v10⟩ := HR5.out.f11
              obtain ⟨g0, g1, g2, g3, g4, g5, g6, g7, g8, g9, g10⟩ := HN5.out.c11
              go_wp2
              have HX7 := hide (put11_box HR5.out (.int .i64 n.kind) (.int .i64 n.node) (.int .i64 n.life) (.int .i64 n.epoch) (.string s9) (.int .i64 n.func) (.slice aa al ac) (.int .i64 n.err) (.int .i64 n.val) (.int .i64 n.vep) (.slice ma ml mc))
              have HB7 := hide (put11_below (g := w.heap.size) HL5.out (Nat.le_refl _) (.int .i64 n.kind) (.int .i64 n.node) (.int .i64 n.life) (.int .i64 n.epoch) (.string s9) (.int .i64 n.func) (.slice aa al ac) (.int .i64 n.err) (.int .i64 n.val) (.int .i64 n.vep) (.slice ma ml mc))
              have HM7 := hide (HM5.out.keep (w' := put11 w5 w.heap.size (.int .i64 n.kind) (.int .i64 n.node) (.int .i64 n.life) (.int .i64 n.epoch) (.string s9) (.int .i64 n.func) (.slice aa al ac) (.int .i64 n.err) (.int .i64 n.val) (.int .i64 n.vep) (.slice ma ml mc)) (fun k h1 _ => put11_keep (by omega) (.int .i64 n.kind) (.int .i64 n.node) (.int .i64 n.life) (.int .i64 n.epoch) (.string s9) (.int .i64 n.func) (.slice aa al ac) (.int .i64 n.err) (.int .i64 n.val) (.int .i64 n.vep) (.slice ma ml mc)))
              obtain ⟨Y, hY⟩ : ∃ Y, Y = put11 w5 w.heap.size (.int .i64 n.kind) (.int .i64 n.node) (.int .i64 n.life) (.int .i64 n.epoch) (.string s9) (.int .i64 n.func) (.slice aa al ac) (.int .i64 n.err) (.int .i64 n.val) (.int .i64 n.vep) (.slice ma ml mc) := ⟨_, rfl⟩
              rw [← hY] at HX7 HB7 HM7
              unfold put11 at hY
              rw [← hY]
              clear hY
              obtain ⟨x0, x1, x2, x3, x4, x5, x6, x7, x8, x9, x10⟩ := HX7.out.c11
              refine bodyPost_ret (v := .tuple #[.agg #[.int .i64 n.kind, .int .i64 n.node, .int .i64 n.life, .int .i64 n.epoch, .string s9, .int .i64 n.func, .slice aa al ac, .int .i64 n.err, .int .i64 n.val, .int .i64 n.vep, .slice ma ml mc], .int .i64 0]) (by simp [results, Try.results18, go_sem, x0, x1, x2, x3, x4, x5, x6, x7, x8, x9, x10]) rfl ?_
              unfold RNPost
              rw [HYES.out, if_pos rfl, HRN.out]
              exact ⟨s9, .slice aa al ac, .slice ma ml mc, rfl, HM7.out.mono (by omega), HB7.out⟩
            · have HNO := hide (okR_no HRN.out (.inr (.inr he)))
              rw [decide_eq_false he] at HE1
              go_upto_region 37 with (go_at_call 12; go_must ((with_reducible refine C12.out.mono ?_); rintro e w5 ⟨a5, m5, c5, rfl, hm5, -, -, hr5, hb5⟩))
              have HR5 := hide (HT.out.res.below hb5)
              have HN5 := hide ((show BoxL X (w.heap.size + 2) [.int .i64 n.kind, .int .i64 n.node, .int .i64 n.life, .int .i64 n.epoch, .string s9, .int .i64 n.func, .slice aa al ac, .int .i64 n.err, .int .i64 n.val, .int .i64 n.vep, .slice ma ml mc] from HT.out.box).below hb5)
              have HL5 := hide (HT.out.low.trans (hb5.mono HT.out.low.size))
              have HM5 := hide (HNM3.out.below hb5)
              have kb := keep_cell HT.out.cur.bad hb5
              clear k0 k1 k2 k3 k4 k5 k6 k7 k8 k9 k10
              rw [hbb] at kb
              clear hbb
              have kcw := run_str (S := bstr (encN (clearN n))) rfl hm5.out hr5.out c5
              have kcb := run_str (S := bstr bs) rfl HSA.out.len (HSA.out.reads.below HL5.out) c
              generalize bstr (encN (clearN n)) = S1 at kcw HE1
              generalize bstr bs = S2 at kcb HE1
              have hE1 := HE1.out
              obtain ⟨q0, q1, q2, q3, q4, q5, q6, q7, q8, q9, q10⟩ := HR5.out.c11
              obtain ⟨v0, v1, v2, v3, v4, v5, v6, v7, v8, v9, v10⟩ := HR5.out.f11
              go_wp2
              have HX7 := hide (put11_box HR5.out (.int .i64 0) (.int .i64 0) (.int .i64 0) (.int .i64 0) (.string ⟨#[]⟩) (.int .i64 0) (.slice none 0 0) (.int .i64 0) (.int .i64 0) (.int .i64 0) (.slice none 0 0))
              have HB7 := hide (put11_below (g := w.heap.size) HL5.out (Nat.le_refl _) (.int .i64 0) (.int .i64 0) (.int .i64 0) (.int .i64 0) (.string ⟨#[]⟩) (.int .i64 0) (.slice none 0 0) (.int .i64 0) (.int .i64 0) (.int .i64 0) (.slice none 0 0))
              obtain ⟨Y, hY⟩ : ∃ Y, Y = put11 w5 w.heap.size (.int .i64 0) (.int .i64 0) (.int .i64 0) (.int .i64 0) (.string ⟨#[]⟩) (.int .i64 0) (.slice none 0 0) (.int .i64 0) (.int .i64 0) (.int .i64 0) (.slice none 0 0) := ⟨_, rfl⟩
              rw [← hY] at HX7 HB7
              unfold put11 at hY
              rw [← hY]
              clear hY
              obtain ⟨x0, x1, x2, x3, x4, x5, x6, x7, x8, x9, x10⟩ := HX7.out.c11
              refine bodyPost_ret (v := .tuple #[.agg #[.int .i64 0, .int .i64 0, .int .i64 0, .int .i64 0, .string ⟨#[]⟩, .int .i64 0, .slice none 0 0, .int .i64 0, .int .i64 0, .int .i64 0, .slice none 0 0], .int .i64 4]) (by simp [results, Try.results18, go_sem, x0, x1, x2, x3, x4, x5, x6, x7, x8, x9, x10]) rfl ?_
              unfold RNPost
              rw [HNO.out]
              exact ⟨rfl, HB7.out⟩
        · have HNO := hide (okR_no HRN.out (.inr (.inl (by simpa using hm))))
          have C12 := hide (rpackN n s9 _ _ _ X HNM.out HIN.out (by simpa using hm))
          simp only [Nv] at C12
          go_upto_region 37 with (go_at_call 12; go_must ((with_reducible refine C12.out.mono ?_); rintro e w5 ⟨rfl, hb5⟩))
          have HR5 := hide (HT.out.res.below hb5)
          have HN5 := hide ((show BoxL X (w.heap.size + 2) [.int .i64 n.kind, .int .i64 n.node, .int .i64 n.life, .int .i64 n.epoch, .string s9, .int .i64 n.func, .slice aa al ac, .int .i64 n.err, .int .i64 n.val, .int .i64 n.vep, .slice ma ml mc] from HT.out.box).below hb5)
          have HL5 := hide (HT.out.low.trans (hb5.mono HT.out.low.size))
          have HM5 := hide (HNM3.out.below hb5)
          have kb := keep_cell HT.out.cur.bad hb5
          clear k0 k1 k2 k3 k4 k5 k6 k7 k8 k9 k10
          cases hbb : d0 with
          | true =>
            rw [hbb] at kb
            clear hbb
            obtain ⟨q0, q1, q2, q3, q4, q5, q6, q7, q8, q9, q10⟩ := HR5.out.c11
            obtain ⟨v0, v1, v2, v3, v4, v5, v6, v7, v8, v9, v10⟩ := HR5.out.f11
            go_wp2
            have HX7 := hide (put11_box HR5.out (.int .i64 0) (.int .i64 0) (.int .i64 0) (.int .i64 0) (.string ⟨#[]⟩) (.int .i64 0) (.slice none 0 0) (.int .i64 0) (.int .i64 0) (.int .i64 0) (.slice none 0 0))
            have HB7 := hide (put11_below (g := w.heap.size) HL5.out (Nat.le_refl _) (.int .i64 0) (.int .i64 0) (.int .i64 0) (.int .i64 0) (.string ⟨#[]⟩) (.int .i64 0) (.slice none 0 0) (.int .i64 0) (.int .i64 0) (.int .i64 0) (.slice none 0 0))
            obtain ⟨Y, hY⟩ : ∃ Y, Y = put11 w5 w.heap.size (.int .i64 0) (.int .i64 0) (.int .i64 0) (.int .i64 0) (.string ⟨#[]⟩) (.int .i64 0) (.slice none 0 0) (.int .i64 0) (.int .i64 0) (.int .i64 0) (.slice none 0 0) := ⟨_, rfl⟩
            rw [← hY] at HX7 HB7
            unfold put11 at hY
            rw [← hY]
            clear hY
            obtain ⟨x0, x1, x2, x3, x4, x5, x6, x7, x8, x9, x10⟩ := HX7.out.c11
            refine bodyPost_ret (v := .tuple #[.agg #[.int .i64 0, .int .i64 0, .int .i64 0, .int .i64 0, .string ⟨#[]⟩, .int .i64 0, .slice none 0 0, .int .i64 0, .int .i64 0, .int .i64 0, .slice none 0 0], .int .i64 4]) (by simp [results, Try.results18, go_sem, x0, x1, x2, x3, x4, x5, x6, x7, x8, x9, x10]) rfl ?_
            unfold RNPost
            rw [HNO.out]
            exact ⟨rfl, HB7.out⟩
          | false =>
            rw [hbb] at kb
            clear hbb
            obtain ⟨q0, q1, q2, q3, q4, q5, q6, q7, q8, q9, q10⟩ := HR5.out.c11
            obtain ⟨v0, v1, v2, v3, v4, v5, v6, v7, v8, v9, v10⟩ := HR5.out.f11
            go_wp2
            have HX7 := hide (put11_box HR5.out (.int .i64 0) (.int .i64 0) (.int .i64 0) (.int .i64 0) (.string ⟨#[]⟩) (.int .i64 0) (.slice none 0 0) (.int .i64 0) (.int .i64 0) (.int .i64 0) (.slice none 0 0))
            have HB7 := hide (put11_below (g := w.heap.size) HL5.out (Nat.le_refl _) (.int .i64 0) (.int .i64 0) (.int .i64 0) (.int .i64 0) (.string ⟨#[]⟩) (.int .i64 0) (.slice none 0 0) (.int .i64 0) (.int .i64 0) (.int .i64 0) (.slice none 0 0))
            obtain ⟨Y, hY⟩ : ∃ Y, Y = put11 w5 w.heap.size (.int .i64 0) (.int .i64 0) (.int .i64 0) (.int .i64 0) (.string ⟨#[]⟩) (.int .i64 0) (.slice none 0 0) (.int .i64 0) (.int .i64 0) (.int .i64 0) (.slice none 0 0) := ⟨_, rfl⟩
            rw [← hY] at HX7 HB7
            unfold put11 at hY
            rw [← hY]
            clear hY
            obtain ⟨x0, x1, x2, x3, x4, x5, x6, x7, x8, x9, x10⟩ := HX7.out.c11
            refine bodyPost_ret (v := .tuple #[.agg #[.int .i64 0, .int .i64 0, .int .i64 0, .int .i64 0, .string ⟨#[]⟩, .int .i64 0, .slice none 0 0, .int .i64 0, .int .i64 0, .int .i64 0, .slice none 0 0], .int .i64 4]) (by simp [results, Try.results18, go_sem, x0, x1, x2, x3, x4, x5, x6, x7, x8, x9, x10]) rfl ?_
            unfold RNPost
            rw [HNO.out]
            exact ⟨rfl, HB7.out⟩


set_option maxRecDepth 100000 in
set_option maxHeartbeats 16000000 in
theorem rn_10 (a : Option Addr) (l c : Nat) (bs : List Nat) (w : World) (hs : SrcA w a l c bs) (r0 : List Nat) (b0 : Bool) (e0 : rdInt bs false = (10, r0, b0)) : Calls Try.prog 18 #[.slice a l c] w (RNPost bs w) := by
  have hy0 : Byt r0 ∧ r0.length ≤ 20000 := ⟨rdInt_byt hs.byt e0, by have h1 := rdInt_len bs false; rw [e0] at h1; simp only at h1; have h2 := hs.len; have h3 := hs.few; omega⟩
  obtain ⟨⟨x1, r1, b1⟩, e1⟩ : ∃ z, rdInt r0 b0 = z := ⟨_, rfl⟩
  have hy1 : Byt r1 ∧ r1.length ≤ 20000 := ⟨rdInt_byt hy0.1 e1, by have h1 := rdInt_len r0 b0; rw [e1] at h1; simp only at h1; have h2 := hy0.2; omega⟩
  obtain ⟨⟨x2, r2, b2⟩, e2⟩ : ∃ z, rdInt r1 b1 = z := ⟨_, rfl⟩
  have hy2 : Byt r2 ∧ r2.length ≤ 20000 := ⟨rdInt_byt hy1.1 e2, by have h1 := rdInt_len r1 b1; rw [e2] at h1; simp only at h1; have h2 := hy1.2; omega⟩
  have hbl3 := rdBytes_len r2 b2
  obtain ⟨⟨x3, r3, b3⟩, e3⟩ : ∃ z, rdBytes r2 b2 = z := ⟨_, rfl⟩
  rw [e3] at hbl3
  have hbt3 : Byt x3 ∧ x3.length ≤ 20000 := ⟨rdBytes_byt hy2.1 e3, by have h2 := hy2.2; simp only at hbl3; omega⟩
  clear hbl3
  obtain ⟨⟨x4, r4, b4⟩, e4⟩ : ∃ z, rdInt r3 b3 = z := ⟨_, rfl⟩
  obtain ⟨⟨m, r5, b5⟩, e5⟩ : ∃ z, rdInt r4 b4 = z := ⟨_, rfl⟩
  have HRD := hide (show rdNote 20 bs = (⟨10, x2, 0, x1, x3, x4, (rdMany (min m.toNat 20) (r5, b5)).1, 0, 0, 0, []⟩, (rdMany (min m.toNat 20) (r5, b5)).2) by
    simp [rdNote, hasView, hasEpoch, hasLife, hasNode, hasId, hasRes, hasFunc, rdI, rdB, rdMem, e0, e1, e2, e3, e4, e5])
  have K0 := hide (fun W (h : RS w W a l c bs bs false no0 ⟨#[]⟩ (.slice none 0 0) (.slice none 0 0)) => h.int hs)
  simp only [e0] at K0
  have K1 := hide (fun W n s av mv (h : RS w W a l c bs r0 b0 n s av mv) => h.int hs)
  simp only [e1] at K1
  have K2 := hide (fun W n s av mv (h : RS w W a l c bs r1 b1 n s av mv) => h.int hs)
  simp only [e2] at K2
  have K3 := hide (fun W n s av mv (h : RS w W a l c bs r2 b2 n s av mv) => h.bytes hs)
  simp only [e3] at K3
  have K4 := hide (fun W n s av mv (h : RS w W a l c bs r3 b3 n s av mv) => h.int hs)
  simp only [e4] at K4
  have K5 := hide (fun W n s av mv (h : RS w W a l c bs r4 b4 n s av mv) => h.int hs)
  simp only [e5] at K5
  have H0 := hide (rs_start (w := w) (a := a) (l := l) (c := c) (bs := bs))
  obtain ⟨V, hV⟩ : ∃ V, V = ((w.alloc (.cells #[.int .i64 0, .int .i64 0, .int .i64 0, .int .i64 0, .string ⟨#[]⟩, .int .i64 0, .slice none 0 0, .int .i64 0, .int .i64 0, .int .i64 0, .slice none 0 0] 31)).alloc (.cells #[.slice a l c, .int .i64 0, .bool false] 73)).alloc (.cells #[.int .i64 0, .int .i64 0, .int .i64 0, .int .i64 0, .string ⟨#[]⟩, .int .i64 0, .slice none 0 0, .int .i64 0, .int .i64 0, .int .i64 0, .slice none 0 0] 31) := ⟨_, rfl⟩
  rw [← hV] at H0
  have HV := hide hV
  have HSA := hide hs
  clear hV e0 e1 e2 e3 e4 e5 hs hy0 hy1 hy2
  go_enter Try.func18, Try.ntmps18
  go_wp2_with (first
    | (go_at_call 32; ((rw [← HV.out]; (with_reducible refine (K0.out V H0.out).mono ?_)); rintro e w0 ⟨rfl, h0⟩; have kc0 := (h0.box.2 0 (by simp [Nc])).1; have kf0 := (h0.box.2 0 (by simp [Nc])).2; have HS0 := hide (h0.put0 10); clear h0))
    | (go_at_call 32; ((with_reducible refine (K1.out _ _ _ _ _ HS0.out).mono ?_); rintro e w1 ⟨rfl, h1⟩; have kc1 := (h1.box.2 3 (by simp [Nc])).1; have kf1 := (h1.box.2 3 (by simp [Nc])).2; have HS1 := hide (h1.put3 x1); clear h1))
    | (go_at_call 32; ((with_reducible refine (K2.out _ _ _ _ _ HS1.out).mono ?_); rintro e w2 ⟨rfl, h2⟩; have kc2 := (h2.box.2 1 (by simp [Nc])).1; have kf2 := (h2.box.2 1 (by simp [Nc])).2; have HS2 := hide (h2.put1 x2); clear h2))
    | (go_at_call 33; ((with_reducible refine (K3.out _ _ _ _ _ HS2.out).mono ?_); rintro e w3 ⟨ta3, tm3, tc3, rfl, hcv3, h3⟩; have kc3 := (h3.box.2 4 (by simp [Nc])).1; have kf3 := (h3.box.2 4 (by simp [Nc])).2; have HS3 := hide (h3.put4 x3 hbt3.1 hbt3.2); clear h3))
    | (go_at_call 32; ((with_reducible refine (K4.out _ _ _ _ _ HS3.out).mono ?_); rintro e w4 ⟨rfl, h4⟩; have kc4 := (h4.box.2 5 (by simp [Nc])).1; have kf4 := (h4.box.2 5 (by simp [Nc])).2; have HS4 := hide (h4.put5 x4); clear h4))
    | (go_at_call 32; ((with_reducible refine (K5.out _ _ _ _ _ HS4.out).mono ?_); rintro e w5 ⟨rfl, h5⟩; have HS5 := hide h5; clear h5)))
  clear kc0 kf0 kc1 kf1 kc2 kf2 kc3 kf3 kc4 kf4 hcv3
  go_loopw [12] (fun i wr => ∃ (k : Nat) (la : List Int) (q0 : List Nat) (d0 : Bool) (av : Value), k ≤ 20 ∧ i = .int .i64 (k : Nat) ∧ Hid (la.length = k) ∧ Hid (RS w wr a l c bs q0 d0 ⟨10, x2, 0, x1, x3, x4, la, 0, 0, 0, []⟩ (bstr x3) av (.slice none 0 0)) ∧ Hid (rdMany (min m.toNat 20) (r5, b5) = (la ++ (rdMany (min m.toNat 20 - k) (q0, d0)).1, (rdMany (min m.toNat 20 - k) (q0, d0)).2))) (fun i _ => 20 - (intOf i).toNat)
  case atStart => exact ⟨0, [], r5, b5, _, Nat.zero_le _, rfl, hide rfl, HS5, hide (by simp)⟩
  case round =>
    obtain ⟨k, la, q0, d0, av, hk, rfl, HLA, HS, HRM⟩ := hrel
    clear HS5 HS4 HS3 HS2 HS1 HS0 H0
    have kb := HS.out.cur.bad
    by_cases hgo : (k : Int) < m ∧ k < 20 ∧ d0 = false
    · obtain ⟨hg1, hg2, rfl⟩ := hgo
      have hki : (k : Int) < 20 := by omega
      obtain ⟨⟨y1, q1, d1⟩, e6⟩ : ∃ z, rdInt q0 false = z := ⟨_, rfl⟩
      have HRM2 := hide (many_step HRM.out (by omega) e6)
      have K6 := hide (fun W n s av mv (h : RS w W a l c bs q0 false n s av mv) => h.intG HSA.out)
      simp only [e6] at K6
      obtain ⟨aq, cq, eq⟩ := own_i HS.out.args.2
      have HLA' := HLA.out
      simp only [HLA'] at eq
      subst eq
      have HSD := hide (HS.out.below ((Below.refl wr.heap.size wr).drew))
      have hl5 := (show wr.drew.cell? ⟨w.heap.size + 2, 6, none⟩ = some (.slice aq k cq) from (HSD.out.box.2 6 (by simp [Nc])).1)
      clear HLA' e6
      go_wp2_with fail
      refine wp_region_noPanic ?_
      refine wp_region_held_drew (S := fun _ => True) (by kernel_rfl) trivial (fun _ => ?_)
      refine takeD (i := 0) (d := some 181) (v := ?_) rfl rfl (by kernel_rfl) (by kernel_rfl) (by kernel_rfl) (fun _ _ _ h => h) (Or.inl ⟨by rfl, ?_⟩) trivial ?_
      rotate_left
      · intro w hSw
        go_simp
        try (with_reducible rfl)
      try simp only [Act.put, List.setIfInBounds_toArray, List.set_cons_zero, List.set_cons_succ]
      refine takeD (i := 2) (d := some 183) (v := ?_) rfl rfl (by kernel_rfl) (by kernel_rfl) (by kernel_rfl) (fun _ _ _ h => h) (Or.inl ⟨by rfl, ?_⟩) trivial ?_
      rotate_left
      · intro w hSw
        go_simp
        try (with_reducible rfl)
      try simp only [Act.put, List.setIfInBounds_toArray, List.set_cons_zero, List.set_cons_succ]
      refine wpAnyH_ready (rs := [1, 3]) (by kernel_rfl) (by simp) ?_
      refine AllReadyH.cons rfl (fun K hK => ?_) (AllReadyH.cons rfl (fun K hK => ?_) AllReadyH.nil)
      · go_simp
        go_wp2_with fail
        refine hK.out _ _ trivial (fun _ => ?_)
        clear hK K
        try simp only [Act.put, List.setIfInBounds_toArray, List.set_cons_zero, List.set_cons_succ]
        refine wpAnyH_ready (rs := [3]) (by kernel_rfl) (by simp) ?_
        refine AllReadyH.cons rfl (fun K hK => ?_) AllReadyH.nil
        go_simp
        (with_reducible refine (K6.out wr.drew _ _ _ _ HSD.out).mono ?_)
        rintro e w6 ⟨rfl, h6, hg6⟩
        have HS6 := hide h6
        have HS7 := hide (h6.below (below_new w6 (.cells #[.int .i64 y1] 3)))
        have hoa := HS7.out.args.2
        simp only [HLA.out] at hoa
        obtain ⟨v8, w8, hrun8, ho8, hg8, -⟩ := run_append_where (w6.alloc (.cells #[.int .i64 y1] 3)) (w.heap.size + 3) (.slice aq k cq) k la [y1] (some ⟨w6.heap.size, 0, none⟩) 1 1 hoa (fun e => by cases e) rfl (reads_new w6 (iV [y1]) 3) (by omega) HS7.out.big 23
        have hb8 := RS.boxa HS7.out hg8
        have hc8 := hb8.1
        have hf8 := hb8.2
        have HS8 := hide (HS7.out.pusha (x := y1) rfl (by simp only [HLA.out]; exact hg2) (by simp only [HLA.out]; exact ho8) hg8)
        obtain ⟨a8, c8, e8⟩ := own_i ho8
        subst e8
        have hl6 := (show w6.cell? ⟨w.heap.size + 2, 6, none⟩ = some (.slice aq k cq) from (h6.box.2 6 (by simp [Nc])).1)
        have hl7 := (show (w6.alloc (.cells #[.int .i64 y1] 3)).cell? ⟨w.heap.size + 2, 6, none⟩ = some (.slice aq k cq) from (HS7.out.box.2 6 (by simp [Nc])).1)
        clear h6 hg6 hoa ho8 hg8 hb8
        go_wp2_with fail
        refine hK.out _ _ trivial (fun _ => ?_)
        clear hK K
        try simp only [Act.put, List.setIfInBounds_toArray, List.set_cons_zero, List.set_cons_succ]
        refine wpAnyH_ready (rs := [4]) (by kernel_rfl) (by simp) ?_
        refine AllReadyH.cons rfl (fun K hK => ?_) AllReadyH.nil
        go_simp
        go_wp2_with fail
        refine hK.out _ _ trivial (fun _ => ?_)
        clear hK K
        try simp only [Act.put, List.setIfInBounds_toArray, List.set_cons_zero, List.set_cons_succ]
        refine wpAnyH_ready (rs := [5]) (by kernel_rfl) (by simp) ?_
        refine AllReadyH.cons rfl (fun K hK => ?_) AllReadyH.nil
        refine wp_append_int (.tmp 182) (.tmp 185) rfl rfl rfl hrun8 ?_
        refine hK.out _ _ trivial (fun _ => ?_)
        clear hK K
        try simp only [Act.put, List.setIfInBounds_toArray, List.set_cons_zero, List.set_cons_succ]
        refine takeD (i := 6) (d := some 187) (v := ?_) rfl rfl (by kernel_rfl) (by kernel_rfl) (by kernel_rfl) (fun _ _ _ h => h) (Or.inl ⟨by rfl, ?_⟩) trivial ?_
        rotate_left
        · intro w hSw
          go_simp
          try (with_reducible rfl)
        try simp only [Act.put, List.setIfInBounds_toArray, List.set_cons_zero, List.set_cons_succ]
        refine wpAnyH_ready (rs := [7]) (by kernel_rfl) (by simp) ?_
        refine AllReadyH.cons rfl (fun K hK => ?_) AllReadyH.nil
        go_simp
        go_wp2_with fail
        refine hK.out _ _ trivial (fun _ => ?_)
        clear hK K
        try simp only [Act.put, List.setIfInBounds_toArray, List.set_cons_zero, List.set_cons_succ]
        refine wpAnyH_done (by kernel_rfl) ?_ _
        refine NoPanic.normal ?_
        generalize w8.setCell ⟨w.heap.size + 2, 6, none⟩ (.slice a8 (k + 1) c8) = w9 at HS8 ⊢
        clear hrun8 hc8 hf8 hl6 hl7
        go_wp2
        go_roundw
        case rel => exact ⟨k + 1, la ++ [y1], q1, d1, _, by omega, by go_num, hide (by simp [HLA.out]), HS8, HRM2⟩
        case measure => simp [intOf]; omega
      · go_simp
        (with_reducible refine (K6.out wr.drew _ _ _ _ HSD.out).mono ?_)
        rintro e w6 ⟨rfl, h6, hg6⟩
        have HS6 := hide h6
        have HS7 := hide (h6.below (below_new w6 (.cells #[.int .i64 y1] 3)))
        have hoa := HS7.out.args.2
        simp only [HLA.out] at hoa
        obtain ⟨v8, w8, hrun8, ho8, hg8, -⟩ := run_append_where (w6.alloc (.cells #[.int .i64 y1] 3)) (w.heap.size + 3) (.slice aq k cq) k la [y1] (some ⟨w6.heap.size, 0, none⟩) 1 1 hoa (fun e => by cases e) rfl (reads_new w6 (iV [y1]) 3) (by omega) HS7.out.big 23
        have hb8 := RS.boxa HS7.out hg8
        have hc8 := hb8.1
        have hf8 := hb8.2
        have HS8 := hide (HS7.out.pusha (x := y1) rfl (by simp only [HLA.out]; exact hg2) (by simp only [HLA.out]; exact ho8) hg8)
        obtain ⟨a8, c8, e8⟩ := own_i ho8
        subst e8
        have hl6 := (show w6.cell? ⟨w.heap.size + 2, 6, none⟩ = some (.slice aq k cq) from (h6.box.2 6 (by simp [Nc])).1)
        have hl7 := (show (w6.alloc (.cells #[.int .i64 y1] 3)).cell? ⟨w.heap.size + 2, 6, none⟩ = some (.slice aq k cq) from (HS7.out.box.2 6 (by simp [Nc])).1)
        clear h6 hg6 hoa ho8 hg8 hb8
        go_wp2_with fail
        refine hK.out _ _ trivial (fun _ => ?_)
        clear hK K
        try simp only [Act.put, List.setIfInBounds_toArray, List.set_cons_zero, List.set_cons_succ]
        refine wpAnyH_ready (rs := [1, 4]) (by kernel_rfl) (by simp) ?_
        refine AllReadyH.cons rfl (fun K hK => ?_) (AllReadyH.cons rfl (fun K hK => ?_) AllReadyH.nil)
        · go_simp
          go_wp2_with fail
          refine hK.out _ _ trivial (fun _ => ?_)
          clear hK K
          try simp only [Act.put, List.setIfInBounds_toArray, List.set_cons_zero, List.set_cons_succ]
          refine wpAnyH_ready (rs := [4]) (by kernel_rfl) (by simp) ?_
          refine AllReadyH.cons rfl (fun K hK => ?_) AllReadyH.nil
          go_simp
          go_wp2_with fail
          refine hK.out _ _ trivial (fun _ => ?_)
          clear hK K
          try simp only [Act.put, List.setIfInBounds_toArray, List.set_cons_zero, List.set_cons_succ]
          refine wpAnyH_ready (rs := [5]) (by kernel_rfl) (by simp) ?_
          refine AllReadyH.cons rfl (fun K hK => ?_) AllReadyH.nil
          refine wp_append_int (.tmp 182) (.tmp 185) rfl rfl rfl hrun8 ?_
          refine hK.out _ _ trivial (fun _ => ?_)
          clear hK K
          try simp only [Act.put, List.setIfInBounds_toArray, List.set_cons_zero, List.set_cons_succ]
          refine takeD (i := 6) (d := some 187) (v := ?_) rfl rfl (by kernel_rfl) (by kernel_rfl) (by kernel_rfl) (fun _ _ _ h => h) (Or.inl ⟨by rfl, ?_⟩) trivial ?_
          rotate_left
          · intro w hSw
            go_simp
            try (with_reducible rfl)
          try simp only [Act.put, List.setIfInBounds_toArray, List.set_cons_zero, List.set_cons_succ]
          refine wpAnyH_ready (rs := [7]) (by kernel_rfl) (by simp) ?_
          refine AllReadyH.cons rfl (fun K hK => ?_) AllReadyH.nil
          go_simp
          go_wp2_with fail
          refine hK.out _ _ trivial (fun _ => ?_)
          clear hK K
          try simp only [Act.put, List.setIfInBounds_toArray, List.set_cons_zero, List.set_cons_succ]
          refine wpAnyH_done (by kernel_rfl) ?_ _
          refine NoPanic.normal ?_
          generalize w8.setCell ⟨w.heap.size + 2, 6, none⟩ (.slice a8 (k + 1) c8) = w9 at HS8 ⊢
          clear hrun8 hc8 hf8 hl6 hl7
          go_wp2
          go_roundw
          case rel => exact ⟨k + 1, la ++ [y1], q1, d1, _, by omega, by go_num, hide (by simp [HLA.out]), HS8, HRM2⟩
          case measure => simp [intOf]; omega
        · go_simp
          go_wp2_with fail
          refine hK.out _ _ trivial (fun _ => ?_)
          clear hK K
          try simp only [Act.put, List.setIfInBounds_toArray, List.set_cons_zero, List.set_cons_succ]
          refine wpAnyH_ready (rs := [1]) (by kernel_rfl) (by simp) ?_
          refine AllReadyH.cons rfl (fun K hK => ?_) AllReadyH.nil
          go_simp
          go_wp2_with fail
          refine hK.out _ _ trivial (fun _ => ?_)
          clear hK K
          try simp only [Act.put, List.setIfInBounds_toArray, List.set_cons_zero, List.set_cons_succ]
          refine wpAnyH_ready (rs := [5]) (by kernel_rfl) (by simp) ?_
          refine AllReadyH.cons rfl (fun K hK => ?_) AllReadyH.nil
          refine wp_append_int (.tmp 182) (.tmp 185) rfl rfl rfl hrun8 ?_
          refine hK.out _ _ trivial (fun _ => ?_)
          clear hK K
          try simp only [Act.put, List.setIfInBounds_toArray, List.set_cons_zero, List.set_cons_succ]
          refine takeD (i := 6) (d := some 187) (v := ?_) rfl rfl (by kernel_rfl) (by kernel_rfl) (by kernel_rfl) (fun _ _ _ h => h) (Or.inl ⟨by rfl, ?_⟩) trivial ?_
          rotate_left
          · intro w hSw
            go_simp
            try (with_reducible rfl)
          try simp only [Act.put, List.setIfInBounds_toArray, List.set_cons_zero, List.set_cons_succ]
          refine wpAnyH_ready (rs := [7]) (by kernel_rfl) (by simp) ?_
          refine AllReadyH.cons rfl (fun K hK => ?_) AllReadyH.nil
          go_simp
          go_wp2_with fail
          refine hK.out _ _ trivial (fun _ => ?_)
          clear hK K
          try simp only [Act.put, List.setIfInBounds_toArray, List.set_cons_zero, List.set_cons_succ]
          refine wpAnyH_done (by kernel_rfl) ?_ _
          refine NoPanic.normal ?_
          generalize w8.setCell ⟨w.heap.size + 2, 6, none⟩ (.slice a8 (k + 1) c8) = w9 at HS8 ⊢
          clear hrun8 hc8 hf8 hl6 hl7
          go_wp2
          go_roundw
          case rel => exact ⟨k + 1, la ++ [y1], q1, d1, _, by omega, by go_num, hide (by simp [HLA.out]), HS8, HRM2⟩
          case measure => simp [intOf]; omega
    · have HRN := hide (show rdNote 20 bs = (⟨10, x2, 0, x1, x3, x4, la, 0, 0, 0, []⟩, q0, d0) by
        have e : rdMany (min m.toNat 20 - k) (q0, d0) = ([], q0, d0) := by
          by_cases h1 : (k : Int) < m ∧ k < 20
          · have h2 : d0 = true := by
              cases d0 with
              | true => rfl
              | false => exact absurd ⟨h1.1, h1.2, rfl⟩ hgo
            rw [h2]; exact rdMany_end _ _
          · have h2 : min m.toNat 20 - k = 0 := by omega
            rw [h2]; rfl
        rw [HRD.out, HRM.out, e]
        simp)
      by_cases h1 : (k : Int) < m
      · by_cases h2 : k < 20
        · have hd : d0 = true := by
            cases d0 with
            | true => rfl
            | false => exact absurd ⟨h1, h2, rfl⟩ hgo
          have hki : (k : Int) < 20 := by omega
          rw [hd] at kb
          clear hgo hd
          go_upto_region 36 with fail
          clear kb
          obtain ⟨av9, mv9, HT⟩ : ∃ av9 mv9, Hid (RS w (wr) a l c bs q0 d0 ⟨10, x2, 0, x1, x3, x4, la, 0, 0, 0, []⟩ (bstr x3) av9 mv9) := ⟨av, (.slice none 0 0), HS⟩
          generalize wr = X at HT ⊢
          obtain ⟨n, hnn⟩ : ∃ n : No, n = ⟨10, x2, 0, x1, x3, x4, la, 0, 0, 0, []⟩ := ⟨_, rfl⟩
          rw [← hnn] at HT HRN
          clear hnn
          obtain ⟨s9, hs9⟩ : ∃ s9 : ByteArray, s9 = (bstr x3) := ⟨_, rfl⟩
          rw [← hs9] at HT
          clear hs9
          have HIN := hide (rdNote_in bs)
          rw [HRN.out] at HIN
          have hNM9 := HT.out.nm
          obtain ⟨-, -, -, -, ⟨aa, al, ac, rfl, -⟩, ⟨ma, ml, mc, rfl, -⟩⟩ := hNM9
          have HNM := hide HT.out.nm
          have HNM3 := hide (HT.out.nm3)
          obtain ⟨k0, k1, k2, k3, k4, k5, k6, k7, k8, k9, k10⟩ := (show BoxL X (w.heap.size + 2) [.int .i64 n.kind, .int .i64 n.node, .int .i64 n.life, .int .i64 n.epoch, .string s9, .int .i64 n.func, .slice aa al ac, .int .i64 n.err, .int .i64 n.val, .int .i64 n.vep, .slice ma ml mc] from HT.out.box).c11
          by_cases hm : mayN (clearN n) = true
          · have C12 := hide (rpackQ n s9 _ _ _ X HNM.out HIN.out hm)
            simp only [Nv] at C12
            unfold RP at C12
            have hBy := nm_byt HNM.out HIN.out
            have HE1 := hide (bstr_eq hBy HSA.out.byt)
            cases hbb : d0 with
            | true =>
              have HNO := hide (okR_no HRN.out (.inl hbb))
              go_upto_region 37 with (go_at_call 12; go_must ((with_reducible refine C12.out.mono ?_); rintro e w5 ⟨a5, m5, c5, rfl, hm5, -, -, hr5, hb5⟩))
              have HR5 := hide (HT.out.res.below hb5)
              have HN5 := hide ((show BoxL X (w.heap.size + 2) [.int .i64 n.kind, .int .i64 n.node, .int .i64 n.life, .int .i64 n.epoch, .string s9, .int .i64 n.func, .slice aa al ac, .int .i64 n.err, .int .i64 n.val, .int .i64 n.vep, .slice ma ml mc] from HT.out.box).below hb5)
              have HL5 := hide (HT.out.low.trans (hb5.mono HT.out.low.size))
              have HM5 := hide (HNM3.out.below hb5)
              have kb := keep_cell HT.out.cur.bad hb5
              clear k0 k1 k2 k3 k4 k5 k6 k7 k8 k9 k10
              rw [hbb] at kb
              clear hbb
              obtain ⟨q0, q1, q2, q3, q4, q5, q6, q7, q8, q9, q10⟩ := HR5.out.c11
              obtain ⟨v0, v1, v2, v3, v4, v5, v6, v7, v8, v9, v10⟩ := HR5.out.f11
              go_wp2
              have HX7 := hide (put11_box HR5.out (.int .i64 0) (.int .i64 0) (.int .i64 0) (.int .i64 0) (.string ⟨#[]⟩) (.int .i64 0) (.slice none 0 0) (.int .i64 0) (.int .i64 0) (.int .i64 0) (.slice none 0 0))
              have HB7 := hide (put11_below (g := w.heap.size) HL5.out (Nat.le_refl _) (.int .i64 0) (.int .i64 0) (.int .i64 0) (.int .i64 0) (.string ⟨#[]⟩) (.int .i64 0) (.slice none 0 0) (.int .i64 0) (.int .i64 0) (.int .i64 0) (.slice none 0 0))
              obtain ⟨Y, hY⟩ : ∃ Y, Y = put11 w5 w.heap.size (.int .i64 0) (.int .i64 0) (.int .i64 0) (.int .i64 0) (.string ⟨#[]⟩) (.int .i64 0) (.slice none 0 0) (.int .i64 0) (.int .i64 0) (.int .i64 0) (.slice none 0 0) := ⟨_, rfl⟩
              rw [← hY] at HX7 HB7
              unfold put11 at hY
              rw [← hY]
              clear hY
              obtain ⟨x0, x1, x2, x3, x4, x5, x6, x7, x8, x9, x10⟩ := HX7.out.c11
              refine bodyPost_ret (v := .tuple #[.agg #[.int .i64 0, .int .i64 0, .int .i64 0, .int .i64 0, .string ⟨#[]⟩, .int .i64 0, .slice none 0 0, .int .i64 0, .int .i64 0, .int .i64 0, .slice none 0 0], .int .i64 4]) (by simp [results, Try.results18, go_sem, x0, x1, x2, x3, x4, x5, x6, x7, x8, x9, x10]) rfl ?_
              unfold RNPost
              rw [HNO.out]
              exact ⟨rfl, HB7.out⟩
            | false =>
              by_cases he : encN (clearN n) = bs
              · have HYES := hide (okR_yes (by rw [HRN.out, hbb]) hm he)
                rw [decide_eq_true he] at HE1
                go_upto_region 37 with (go_at_call 12; go_must ((with_reducible refine C12.out.mono ?_); rintro e w5 ⟨a5, m5, c5, rfl, hm5, -, -, hr5, hb5⟩))
                have HR5 := hide (HT.out.res.below hb5)
                have HN5 := hide ((show BoxL X (w.heap.size + 2) [.int .i64 n.kind, .int .i64 n.node, .int .i64 n.life, .int .i64 n.epoch, .string s9, .int .i64 n.func, .slice aa al ac, .int .i64 n.err, .int .i64 n.val, .int .i64 n.vep, .slice ma ml mc] from HT.out.box).below hb5)
                have HL5 := hide (HT.out.low.trans (hb5.mono HT.out.low.size))
                have HM5 := hide (HNM3.out.below hb5)
                have kb := keep_cell HT.out.cur.bad hb5
                clear k0 k1 k2 k3 k4 k5 k6 k7 k8 k9 k10
                rw [hbb] at kb
                clear hbb
                have kcw := run_str (S := bstr (encN (clearN n))) rfl hm5.out hr5.out c5
                have kcb := run_str (S := bstr bs) rfl HSA.out.len (HSA.out.reads.below HL5.out) c
                generalize bstr (encN (clearN n)) = S1 at kcw HE1
                generalize bstr bs = S2 at kcb HE1
                have hE1 := HE1.out
                obtain ⟨q0, q1, q2, q3, q4, q5, q6, q7, q8, q9, q10⟩ := HR5.out.c11
                obtain ⟨v0, v1, v2, v3, v4, v5, v6, v7, v8, v9, v10⟩ := HR5.out.f11
                obtain ⟨g0, g1, g2, g3, g4, g5, g6, g7, g8, g9, g10⟩ := HN5.out.c11
                go_wp2
                have HX7 := hide (put11_box HR5.out (.int .i64 n.kind) (.int .i64 n.node) (.int .i64 n.life) (.int .i64 n.epoch) (.string s9) (.int .i64 n.func) (.slice aa al ac) (.int .i64 n.err) (.int .i64 n.val) (.int .i64 n.vep) (.slice ma ml mc))
                have HB7 := hide (put11_below (g := w.heap.size) HL5.out (Nat.le_refl _) (.int .i64 n.kind) (.int .i64 n.node) (.int .i64 n.life) (.int .i64 n.epoch) (.string s9) (.int .i64 n.func) (.slice aa al ac) (.int .i64 n.err) (.int .i64 n.val) (.int .i64 n.vep) (.slice ma ml mc))
                have HM7 := hide (HM5.out.keep (w' := put11 w5 w.heap.size (.int .i64 n.kind) (.int .i64 n.node) (.int .i64 n.life) (.int .i64 n.epoch) (.string s9) (.int .i64 n.func) (.slice aa al ac) (.int .i64 n.err) (.int .i64 n.val) (.int .i64 n.vep) (.slice ma ml mc)) (fun k h1 _ => put11_keep (by omega) (.int .i64 n.kind) (.int .i64 n.node) (.int .i64 n.life) (.int .i64 n.epoch) (.string s9) (.int .i64 n.func) (.slice aa al ac) (.int .i64 n.err) (.int .i64 n.val) (.int .i64 n.vep) (.slice ma ml mc)))
                obtain ⟨Y, hY⟩ : ∃ Y, Y = put11 w5 w.heap.size (.int .i64 n.kind) (.int .i64 n.node) (.int .i64 n.life) (.int .i64 n.epoch) (.string s9) (.int .i64 n.func) (.slice aa al ac) (.int .i64 n.err) (.int .i64 n.val) (.int .i64 n.vep) (.slice ma ml mc) := ⟨_, rfl⟩
                rw [← hY] at HX7 HB7 HM7
                unfold put11 at hY
                rw [← hY]
                clear hY
                obtain ⟨x0, x1, x2, x3, x4, x5, x6, x7, x8, x9, x10⟩ := HX7.out.c11
                refine bodyPost_ret (v := .tuple #[.agg #[.int .i64 n.kind, .int .i64 n.node, .int .i64 n.life, .int .i64 n.epoch, .string s9, .int .i64 n.func, .slice aa al ac, .int .i64 n.err, .int .i64 n.val, .int .i64 n.vep, .slice ma ml mc], .int .i64 0]) (by simp [results, Try.results18, go_sem, x0, x1, x2, x3, x4, x5, x6, x7, x8, x9, x10]) rfl ?_
                unfold RNPost
                rw [HYES.out, if_pos rfl, HRN.out]
                exact ⟨s9, .slice aa al ac, .slice ma ml mc, rfl, HM7.out.mono (by omega), HB7.out⟩
              · have HNO := hide (okR_no HRN.out (.inr (.inr he)))
                rw [decide_eq_false he] at HE1
                go_upto_region 37 with (go_at_call 12; go_must ((with_reducible refine C12.out.mono ?_); rintro e w5 ⟨a5, m5, c5, rfl, hm5, -, -, hr5, hb5⟩))
                have HR5 := hide (HT.out.res.below hb5)
                have HN5 := hide ((show BoxL X (w.heap.size + 2) [.int .i64 n.kind, .int .i64 n.node, .int .i64 n.life, .int .i64 n.epoch, .string s9, .int .i64 n.func, .slice aa al ac, .int .i64 n.err, .int .i64 n.val, .int .i64 n.vep, .slice ma ml mc] from HT.out.box).below hb5)
                have HL5 := hide (HT.out.low.trans (hb5.mono HT.out.low.size))
                have HM5 := hide (HNM3.out.below hb5)
                have kb := keep_cell HT.out.cur.bad hb5
                clear k0 k1 k2 k3 k4 k5 k6 k7 k8 k9 k10
                rw [hbb] at kb
                clear hbb
                have kcw := run_str (S := bstr (encN (clearN n))) rfl hm5.out hr5.out c5
                have kcb := run_str (S := bstr bs) rfl HSA.out.len (HSA.out.reads.below HL5.out) c
                generalize bstr (encN (clearN n)) = S1 at kcw HE1
                generalize bstr bs = S2 at kcb HE1
                have hE1 := HE1.out
                obtain ⟨q0, q1, q2, q3, q4, q5, q6, q7, q8, q9, q10⟩ := HR5.out.c11
                obtain ⟨v0, v1, v2, v3, v4, v5, v6, v7, v8, v9, v10⟩ := HR5.out.f11
                go_wp2
                have HX7 := hide (put11_box HR5.out (.int .i64 0) (.int .i64 0) (.int .i64 0) (.int .i64 0) (.string ⟨#[]⟩) (.int .i64 0) (.slice none 0 0) (.int .i64 0) (.int .i64 0) (.int .i64 0) (.slice none 0 0))
                have HB7 := hide (put11_below (g := w.heap.size) HL5.out (Nat.le_refl _) (.int .i64 0) (.int .i64 0) (.int .i64 0) (.int .i64 0) (.string ⟨#[]⟩) (.int .i64 0) (.slice none 0 0) (.int .i64 0) (.int .i64 0) (.int .i64 0) (.slice none 0 0))
                obtain ⟨Y, hY⟩ : ∃ Y, Y = put11 w5 w.heap.size (.int .i64 0) (.int .i64 0) (.int .i64 0) (.int .i64 0) (.string ⟨#[]⟩) (.int .i64 0) (.slice none 0 0) (.int .i64 0) (.int .i64 0) (.int .i64 0) (.slice none 0 0) := ⟨_, rfl⟩
                rw [← hY] at HX7 HB7
                unfold put11 at hY
                rw [← hY]
                clear hY
                obtain ⟨x0, x1, x2, x3, x4, x5, x6, x7, x8, x9, x10⟩ := HX7.out.c11
                refine bodyPost_ret (v := .tuple #[.agg #[.int .i64 0, .int .i64 0, .int .i64 0, .int .i64 0, .string ⟨#[]⟩, .int .i64 0, .slice none 0 0, .int .i64 0, .int .i64 0, .int .i64 0, .slice none 0 0], .int .i64 4]) (by simp [results, Try.results18, go_sem, x0, x1, x2, x3, x4, x5, x6, x7, x8, x9, x10]) rfl ?_
                unfold RNPost
                rw [HNO.out]
                exact ⟨rfl, HB7.out⟩
          · have HNO := hide (okR_no HRN.out (.inr (.inl (by simpa using hm))))
            have C12 := hide (rpackN n s9 _ _ _ X HNM.out HIN.out (by simpa using hm))
            simp only [Nv] at C12
            go_upto_region 37 with (go_at_call 12; go_must ((with_reducible refine C12.out.mono ?_); rintro e w5 ⟨rfl, hb5⟩))
            have HR5 := hide (HT.out.res.below hb5)
            have HN5 := hide ((show BoxL X (w.heap.size + 2) [.int .i64 n.kind, .int .i64 n.node, .int .i64 n.life, .int .i64 n.epoch, .string s9, .int .i64 n.func, .slice aa al ac, .int .i64 n.err, .int .i64 n.val, .int .i64 n.vep, .slice ma ml mc] from HT.out.box).below hb5)
            have HL5 := hide (HT.out.low.trans (hb5.mono HT.out.low.size))
            have HM5 := hide (HNM3.out.below hb5)
            have kb := keep_cell HT.out.cur.bad hb5
            clear k0 k1 k2 k3 k4 k5 k6 k7 k8 k9 k10
            cases hbb : d0 with
            | true =>
              rw [hbb] at kb
              clear hbb
              obtain ⟨q0, q1, q2, q3, q4, q5, q6, q7, q8, q9, q10⟩ := HR5.out.c11
              obtain ⟨v0, v1, v2, v3, v4, v5, v6, v7, v8, v9, v10⟩ := HR5.out.f11
              go_wp2
              have HX7 := hide (put11_box HR5.out (.int .i64 0) (.int .i64 0) (.int .i64 0) (.int .i64 0) (.string ⟨#[]⟩) (.int .i64 0) (.slice none 0 0) (.int .i64 0) (.int .i64 0) (.int .i64 0) (.slice none 0 0))
              have HB7 := hide (put11_below (g := w.heap.size) HL5.out (Nat.le_refl _) (.int .i64 0) (.int .i64 0) (.int .i64 0) (.int .i64 0) (.string ⟨#[]⟩) (.int .i64 0) (.slice none 0 0) (.int .i64 0) (.int .i64 0) (.int .i64 0) (.slice none 0 0))
              obtain ⟨Y, hY⟩ : ∃ Y, Y = put11 w5 w.heap.size (.int .i64 0) (.int .i64 0) (.int .i64 0) (.int .i64 0) (.string ⟨#[]⟩) (.int .i64 0) (.slice none 0 0) (.int .i64 0) (.int .i64 0) (.int .i64 0) (.slice none 0 0) := ⟨_, rfl⟩
              rw [← hY] at HX7 HB7
              unfold put11 at hY
              rw [← hY]
              clear hY
              obtain ⟨x0, x1, x2, x3, x4, x5, x6, x7, x8, x9, x10⟩ := HX7.out.c11
              refine bodyPost_ret (v := .tuple #[.agg #[.int .i64 0, .int .i64 0, .int .i64 0, .int .i64 0, .string ⟨#[]⟩, .int .i64 0, .slice none 0 0, .int .i64 0, .int .i64 0, .int .i64 0, .slice none 0 0], .int .i64 4]) (by simp [results, Try.results18, go_sem, x0, x1, x2, x3, x4, x5, x6, x7, x8, x9, x10]) rfl ?_
              unfold RNPost
              rw [HNO.out]
              exact ⟨rfl, HB7.out⟩
            | false =>
              rw [hbb] at kb
              clear hbb
              obtain ⟨q0, q1, q2, q3, q4, q5, q6, q7, q8, q9, q10⟩ := HR5.out.c11
              obtain ⟨v0, v1, v2, v3, v4, v5, v6, v7, v8, v9, v10⟩ := HR5.out.f11
              go_wp2
              have HX7 := hide (put11_box HR5.out (.int .i64 0) (.int .i64 0) (.int .i64 0) (.int .i64 0) (.string ⟨#[]⟩) (.int .i64 0) (.slice none 0 0) (.int .i64 0) (.int .i64 0) (.int .i64 0) (.slice none 0 0))
              have HB7 := hide (put11_below (g := w.heap.size) HL5.out (Nat.le_refl _) (.int .i64 0) (.int .i64 0) (.int .i64 0) (.int .i64 0) (.string ⟨#[]⟩) (.int .i64 0) (.slice none 0 0) (.int .i64 0) (.int .i64 0) (.int .i64 0) (.slice none 0 0))
              obtain ⟨Y, hY⟩ : ∃ Y, Y = put11 w5 w.heap.size (.int .i64 0) (.int .i64 0) (.int .i64 0) (.int .i64 0) (.string ⟨#[]⟩) (.int .i64 0) (.slice none 0 0) (.int .i64 0) (.int .i64 0) (.int .i64 0) (.slice none 0 0) := ⟨_, rfl⟩
              rw [← hY] at HX7 HB7
              unfold put11 at hY
              rw [← hY]
              clear hY
              obtain ⟨x0, x1, x2, x3, x4, x5, x6, x7, x8, x9, x10⟩ := HX7.out.c11
              refine bodyPost_ret (v := .tuple #[.agg #[.int .i64 0, .int .i64 0, .int .i64 0, .int .i64 0, .string ⟨#[]⟩, .int .i64 0, .slice none 0 0, .int .i64 0, .int .i64 0, .int .i64 0, .slice none 0 0], .int .i64 4]) (by simp [results, Try.results18, go_sem, x0, x1, x2, x3, x4, x5, x6, x7, x8, x9, x10]) rfl ?_
              unfold RNPost
              rw [HNO.out]
              exact ⟨rfl, HB7.out⟩
        · have hki : ¬ (k : Int) < 20 := by omega
          clear hgo kb
          go_upto_region 36 with fail
          obtain ⟨av9, mv9, HT⟩ : ∃ av9 mv9, Hid (RS w (wr) a l c bs q0 d0 ⟨10, x2, 0, x1, x3, x4, la, 0, 0, 0, []⟩ (bstr x3) av9 mv9) := ⟨av, (.slice none 0 0), HS⟩
          generalize wr = X at HT ⊢
          obtain ⟨n, hnn⟩ : ∃ n : No, n = ⟨10, x2, 0, x1, x3, x4, la, 0, 0, 0, []⟩ := ⟨_, rfl⟩
          rw [← hnn] at HT HRN
          clear hnn
          obtain ⟨s9, hs9⟩ : ∃ s9 : ByteArray, s9 = (bstr x3) := ⟨_, rfl⟩
          rw [← hs9] at HT
          clear hs9
          have HIN := hide (rdNote_in bs)
          rw [HRN.out] at HIN
          have hNM9 := HT.out.nm
          obtain ⟨-, -, -, -, ⟨aa, al, ac, rfl, -⟩, ⟨ma, ml, mc, rfl, -⟩⟩ := hNM9
          have HNM := hide HT.out.nm
          have HNM3 := hide (HT.out.nm3)
          obtain ⟨k0, k1, k2, k3, k4, k5, k6, k7, k8, k9, k10⟩ := (show BoxL X (w.heap.size + 2) [.int .i64 n.kind, .int .i64 n.node, .int .i64 n.life, .int .i64 n.epoch, .string s9, .int .i64 n.func, .slice aa al ac, .int .i64 n.err, .int .i64 n.val, .int .i64 n.vep, .slice ma ml mc] from HT.out.box).c11
          by_cases hm : mayN (clearN n) = true
          · have C12 := hide (rpackQ n s9 _ _ _ X HNM.out HIN.out hm)
            simp only [Nv] at C12
            unfold RP at C12
            have hBy := nm_byt HNM.out HIN.out
            have HE1 := hide (bstr_eq hBy HSA.out.byt)
            cases hbb : d0 with
            | true =>
              have HNO := hide (okR_no HRN.out (.inl hbb))
              go_upto_region 37 with (go_at_call 12; go_must ((with_reducible refine C12.out.mono ?_); rintro e w5 ⟨a5, m5, c5, rfl, hm5, -, -, hr5, hb5⟩))
              have HR5 := hide (HT.out.res.below hb5)
              have HN5 := hide ((show BoxL X (w.heap.size + 2) [.int .i64 n.kind, .int .i64 n.node, .int .i64 n.life, .int .i64 n.epoch, .string s9, .int .i64 n.func, .slice aa al ac, .int .i64 n.err, .int .i64 n.val, .int .i64 n.vep, .slice ma ml mc] from HT.out.box).below hb5)
              have HL5 := hide (HT.out.low.trans (hb5.mono HT.out.low.size))
              have HM5 := hide (HNM3.out.below hb5)
              have kb := keep_cell HT.out.cur.bad hb5
              clear k0 k1 k2 k3 k4 k5 k6 k7 k8 k9 k10
              rw [hbb] at kb
              clear hbb
              obtain ⟨q0, q1, q2, q3, q4, q5, q6, q7, q8, q9, q10⟩ := HR5.out.c11
              obtain ⟨v0, v1, v2, v3, v4, v5, v6, v7, v8, v9, v10⟩ := HR5.out.f11
              go_wp2
              have HX7 := hide (put11_box HR5.out (.int .i64 0) (.int .i64 0) (.int .i64 0) (.int .i64 0) (.string ⟨#[]⟩) (.int .i64 0) (.slice none 0 0) (.int .i64 0) (.int .i64 0) (.int .i64 0) (.slice none 0 0))
              have HB7 := hide (put11_below (g := w.heap.size) HL5.out (Nat.le_refl _) (.int .i64 0) (.int .i64 0) (.int .i64 0) (.int .i64 0) (.string ⟨#[]⟩) (.int .i64 0) (.slice none 0 0) (.int .i64 0) (.int .i64 0) (.int .i64 0) (.slice none 0 0))
              obtain ⟨Y, hY⟩ : ∃ Y, Y = put11 w5 w.heap.size (.int .i64 0) (.int .i64 0) (.int .i64 0) (.int .i64 0) (.string ⟨#[]⟩) (.int .i64 0) (.slice none 0 0) (.int .i64 0) (.int .i64 0) (.int .i64 0) (.slice none 0 0) := ⟨_, rfl⟩
              rw [← hY] at HX7 HB7
              unfold put11 at hY
              rw [← hY]
              clear hY
              obtain ⟨x0, x1, x2, x3, x4, x5, x6, x7, x8, x9, x10⟩ := HX7.out.c11
              refine bodyPost_ret (v := .tuple #[.agg #[.int .i64 0, .int .i64 0, .int .i64 0, .int .i64 0, .string ⟨#[]⟩, .int .i64 0, .slice none 0 0, .int .i64 0, .int .i64 0, .int .i64 0, .slice none 0 0], .int .i64 4]) (by simp [results, Try.results18, go_sem, x0, x1, x2, x3, x4, x5, x6, x7, x8, x9, x10]) rfl ?_
              unfold RNPost
              rw [HNO.out]
              exact ⟨rfl, HB7.out⟩
            | false =>
              by_cases he : encN (clearN n) = bs
              · have HYES := hide (okR_yes (by rw [HRN.out, hbb]) hm he)
                rw [decide_eq_true he] at HE1
                go_upto_region 37 with (go_at_call 12; go_must ((with_reducible refine C12.out.mono ?_); rintro e w5 ⟨a5, m5, c5, rfl, hm5, -, -, hr5, hb5⟩))
                have HR5 := hide (HT.out.res.below hb5)
                have HN5 := hide ((show BoxL X (w.heap.size + 2) [.int .i64 n.kind, .int .i64 n.node, .int .i64 n.life, .int .i64 n.epoch, .string s9, .int .i64 n.func, .slice aa al ac, .int .i64 n.err, .int .i64 n.val, .int .i64 n.vep, .slice ma ml mc] from HT.out.box).below hb5)
                have HL5 := hide (HT.out.low.trans (hb5.mono HT.out.low.size))
                have HM5 := hide (HNM3.out.below hb5)
                have kb := keep_cell HT.out.cur.bad hb5
                clear k0 k1 k2 k3 k4 k5 k6 k7 k8 k9 k10
                rw [hbb] at kb
                clear hbb
                have kcw := run_str (S := bstr (encN (clearN n))) rfl hm5.out hr5.out c5
                have kcb := run_str (S := bstr bs) rfl HSA.out.len (HSA.out.reads.below HL5.out) c
                generalize bstr (encN (clearN n)) = S1 at kcw HE1
                generalize bstr bs = S2 at kcb HE1
                have hE1 := HE1.out
                obtain ⟨q0, q1, q2, q3, q4, q5, q6, q7, q8, q9, q10⟩ := HR5.out.c11
                obtain ⟨v0, v1, v2, v3, v4, v5, v6, v7, v8, v9, v10⟩ := HR5.out.f11
                obtain ⟨g0, g1, g2, g3, g4, g5, g6, g7, g8, g9, g10⟩ := HN5.out.c11
                go_wp2
                have HX7 := hide (put11_box HR5.out (.int .i64 n.kind) (.int .i64 n.node) (.int .i64 n.life) (.int .i64 n.epoch) (.string s9) (.int .i64 n.func) (.slice aa al ac) (.int .i64 n.err) (.int .i64 n.val) (.int .i64 n.vep) (.slice ma ml mc))
                have HB7 := hide (put11_below (g := w.heap.size) HL5.out (Nat.le_refl _) (.int .i64 n.kind) (.int .i64 n.node) (.int .i64 n.life) (.int .i64 n.epoch) (.string s9) (.int .i64 n.func) (.slice aa al ac) (.int .i64 n.err) (.int .i64 n.val) (.int .i64 n.vep) (.slice ma ml mc))
                have HM7 := hide (HM5.out.keep (w' := put11 w5 w.heap.size (.int .i64 n.kind) (.int .i64 n.node) (.int .i64 n.life) (.int .i64 n.epoch) (.string s9) (.int .i64 n.func) (.slice aa al ac) (.int .i64 n.err) (.int .i64 n.val) (.int .i64 n.vep) (.slice ma ml mc)) (fun k h1 _ => put11_keep (by omega) (.int .i64 n.kind) (.int .i64 n.node) (.int .i64 n.life) (.int .i64 n.epoch) (.string s9) (.int .i64 n.func) (.slice aa al ac) (.int .i64 n.err) (.int .i64 n.val) (.int .i64 n.vep) (.slice ma ml mc)))
                obtain ⟨Y, hY⟩ : ∃ Y, Y = put11 w5 w.heap.size (.int .i64 n.kind) (.int .i64 n.node) (.int .i64 n.life) (.int .i64 n.epoch) (.string s9) (.int .i64 n.func) (.slice aa al ac) (.int .i64 n.err) (.int .i64 n.val) (.int .i64 n.vep) (.slice ma ml mc) := ⟨_, rfl⟩
                rw [← hY] at HX7 HB7 HM7
                unfold put11 at hY
                rw [← hY]
                clear hY
                obtain ⟨x0, x1, x2, x3, x4, x5, x6, x7, x8, x9, x10⟩ := HX7.out.c11
                refine bodyPost_ret (v := .tuple #[.agg #[.int .i64 n.kind, .int .i64 n.node, .int .i64 n.life, .int .i64 n.epoch, .string s9, .int .i64 n.func, .slice aa al ac, .int .i64 n.err, .int .i64 n.val, .int .i64 n.vep, .slice ma ml mc], .int .i64 0]) (by simp [results, Try.results18, go_sem, x0, x1, x2, x3, x4, x5, x6, x7, x8, x9, x10]) rfl ?_
                unfold RNPost
                rw [HYES.out, if_pos rfl, HRN.out]
                exact ⟨s9, .slice aa al ac, .slice ma ml mc, rfl, HM7.out.mono (by omega), HB7.out⟩
              · have HNO := hide (okR_no HRN.out (.inr (.inr he)))
                rw [decide_eq_false he] at HE1
                go_upto_region 37 with (go_at_call 12; go_must ((with_reducible refine C12.out.mono ?_); rintro e w5 ⟨a5, m5, c5, rfl, hm5, -, -, hr5, hb5⟩))
                have HR5 := hide (HT.out.res.below hb5)
                have HN5 := hide ((show BoxL X (w.heap.size + 2) [.int .i64 n.kind, .int .i64 n.node, .int .i64 n.life, .int .i64 n.epoch, .string s9, .int .i64 n.func, .slice aa al ac, .int .i64 n.err, .int .i64 n.val, .int .i64 n.vep, .slice ma ml mc] from HT.out.box).below hb5)
                have HL5 := hide (HT.out.low.trans (hb5.mono HT.out.low.size))
                have HM5 := hide (HNM3.out.below hb5)
                have kb := keep_cell HT.out.cur.bad hb5
                clear k0 k1 k2 k3 k4 k5 k6 k7 k8 k9 k10
                rw [hbb] at kb
                clear hbb
                have kcw := run_str (S := bstr (encN (clearN n))) rfl hm5.out hr5.out c5
                have kcb := run_str (S := bstr bs) rfl HSA.out.len (HSA.out.reads.below HL5.out) c
                generalize bstr (encN (clearN n)) = S1 at kcw HE1
                generalize bstr bs = S2 at kcb HE1
                have hE1 := HE1.out
                obtain ⟨q0, q1, q2, q3, q4, q5, q6, q7, q8, q9, q10⟩ := HR5.out.c11
                obtain ⟨v0, v1, v2, v3, v4, v5, v6, v7, v8, v9, v10⟩ := HR5.out.f11
                go_wp2
                have HX7 := hide (put11_box HR5.out (.int .i64 0) (.int .i64 0) (.int .i64 0) (.int .i64 0) (.string ⟨#[]⟩) (.int .i64 0) (.slice none 0 0) (.int .i64 0) (.int .i64 0) (.int .i64 0) (.slice none 0 0))
                have HB7 := hide (put11_below (g := w.heap.size) HL5.out (Nat.le_refl _) (.int .i64 0) (.int .i64 0) (.int .i64 0) (.int .i64 0) (.string ⟨#[]⟩) (.int .i64 0) (.slice none 0 0) (.int .i64 0) (.int .i64 0) (.int .i64 0) (.slice none 0 0))
                obtain ⟨Y, hY⟩ : ∃ Y, Y = put11 w5 w.heap.size (.int .i64 0) (.int .i64 0) (.int .i64 0) (.int .i64 0) (.string ⟨#[]⟩) (.int .i64 0) (.slice none 0 0) (.int .i64 0) (.int .i64 0) (.int .i64 0) (.slice none 0 0) := ⟨_, rfl⟩
                rw [← hY] at HX7 HB7
                unfold put11 at hY
                rw [← hY]
                clear hY
                obtain ⟨x0, x1, x2, x3, x4, x5, x6, x7, x8, x9, x10⟩ := HX7.out.c11
                refine bodyPost_ret (v := .tuple #[.agg #[.int .i64 0, .int .i64 0, .int .i64 0, .int .i64 0, .string ⟨#[]⟩, .int .i64 0, .slice none 0 0, .int .i64 0, .int .i64 0, .int .i64 0, .slice none 0 0], .int .i64 4]) (by simp [results, Try.results18, go_sem, x0, x1, x2, x3, x4, x5, x6, x7, x8, x9, x10]) rfl ?_
                unfold RNPost
                rw [HNO.out]
                exact ⟨rfl, HB7.out⟩
          · have HNO := hide (okR_no HRN.out (.inr (.inl (by simpa using hm))))
            have C12 := hide (rpackN n s9 _ _ _ X HNM.out HIN.out (by simpa using hm))
            simp only [Nv] at C12
            go_upto_region 37 with (go_at_call 12; go_must ((with_reducible refine C12.out.mono ?_); rintro e w5 ⟨rfl, hb5⟩))
            have HR5 := hide (HT.out.res.below hb5)
            have HN5 := hide ((show BoxL X (w.heap.size + 2) [.int .i64 n.kind, .int .i64 n.node, .int .i64 n.life, .int .i64 n.epoch, .string s9, .int .i64 n.func, .slice aa al ac, .int .i64 n.err, .int .i64 n.val, .int .i64 n.vep, .slice ma ml mc] from HT.out.box).below hb5)
            have HL5 := hide (HT.out.low.trans (hb5.mono HT.out.low.size))
            have HM5 := hide (HNM3.out.below hb5)
            have kb := keep_cell HT.out.cur.bad hb5
            clear k0 k1 k2 k3 k4 k5 k6 k7 k8 k9 k10
            cases hbb : d0 with
            | true =>
              rw [hbb] at kb
              clear hbb
              obtain ⟨q0, q1, q2, q3, q4, q5, q6, q7, q8, q9, q10⟩ := HR5.out.c11
              obtain ⟨v0, v1, v2, v3, v4, v5, v6, v7, v8, v9, v10⟩ := HR5.out.f11
              go_wp2
              have HX7 := hide (put11_box HR5.out (.int .i64 0) (.int .i64 0) (.int .i64 0) (.int .i64 0) (.string ⟨#[]⟩) (.int .i64 0) (.slice none 0 0) (.int .i64 0) (.int .i64 0) (.int .i64 0) (.slice none 0 0))
              have HB7 := hide (put11_below (g := w.heap.size) HL5.out (Nat.le_refl _) (.int .i64 0) (.int .i64 0) (.int .i64 0) (.int .i64 0) (.string ⟨#[]⟩) (.int .i64 0) (.slice none 0 0) (.int .i64 0) (.int .i64 0) (.int .i64 0) (.slice none 0 0))
              obtain ⟨Y, hY⟩ : ∃ Y, Y = put11 w5 w.heap.size (.int .i64 0) (.int .i64 0) (.int .i64 0) (.int .i64 0) (.string ⟨#[]⟩) (.int .i64 0) (.slice none 0 0) (.int .i64 0) (.int .i64 0) (.int .i64 0) (.slice none 0 0) := ⟨_, rfl⟩
              rw [← hY] at HX7 HB7
              unfold put11 at hY
              rw [← hY]
              clear hY
              obtain ⟨x0, x1, x2, x3, x4, x5, x6, x7, x8, x9, x10⟩ := HX7.out.c11
              refine bodyPost_ret (v := .tuple #[.agg #[.int .i64 0, .int .i64 0, .int .i64 0, .int .i64 0, .string ⟨#[]⟩, .int .i64 0, .slice none 0 0, .int .i64 0, .int .i64 0, .int .i64 0, .slice none 0 0], .int .i64 4]) (by simp [results, Try.results18, go_sem, x0, x1, x2, x3, x4, x5, x6, x7, x8, x9, x10]) rfl ?_
              unfold RNPost
              rw [HNO.out]
              exact ⟨rfl, HB7.out⟩
            | false =>
              rw [hbb] at kb
              clear hbb
              obtain ⟨q0, q1, q2, q3, q4, q5, q6, q7, q8, q9, q10⟩ := HR5.out.c11
              obtain ⟨v0, v1, v2, v3, v4, v5, v6, v7, v8, v9, v10⟩ := HR5.out.f11
              go_wp2
              have HX7 := hide (put11_box HR5.out (.int .i64 0) (.int .i64 0) (.int .i64 0) (.int .i64 0) (.string ⟨#[]⟩) (.int .i64 0) (.slice none 0 0) (.int .i64 0) (.int .i64 0) (.int .i64 0) (.slice none 0 0))
              have HB7 := hide (put11_below (g := w.heap.size) HL5.out (Nat.le_refl _) (.int .i64 0) (.int .i64 0) (.int .i64 0) (.int .i64 0) (.string ⟨#[]⟩) (.int .i64 0) (.slice none 0 0) (.int .i64 0) (.int .i64 0) (.int .i64 0) (.slice none 0 0))
              obtain ⟨Y, hY⟩ : ∃ Y, Y = put11 w5 w.heap.size (.int .i64 0) (.int .i64 0) (.int .i64 0) (.int .i64 0) (.string ⟨#[]⟩) (.int .i64 0) (.slice none 0 0) (.int .i64 0) (.int .i64 0) (.int .i64 0) (.slice none 0 0) := ⟨_, rfl⟩
              rw [← hY] at HX7 HB7
              unfold put11 at hY
              rw [← hY]
              clear hY
              obtain ⟨x0, x1, x2, x3, x4, x5, x6, x7, x8, x9, x10⟩ := HX7.out.c11
              refine bodyPost_ret (v := .tuple #[.agg #[.int .i64 0, .int .i64 0, .int .i64 0, .int .i64 0, .string ⟨#[]⟩, .int .i64 0, .slice none 0 0, .int .i64 0, .int .i64 0, .int .i64 0, .slice none 0 0], .int .i64 4]) (by simp [results, Try.results18, go_sem, x0, x1, x2, x3, x4, x5, x6, x7, x8, x9, x10]) rfl ?_
              unfold RNPost
              rw [HNO.out]
              exact ⟨rfl, HB7.out⟩
      · clear hgo kb
        go_upto_region 36 with fail
        obtain ⟨av9, mv9, HT⟩ : ∃ av9 mv9, Hid (RS w (wr) a l c bs q0 d0 ⟨10, x2, 0, x1, x3, x4, la, 0, 0, 0, []⟩ (bstr x3) av9 mv9) := ⟨av, (.slice none 0 0), HS⟩
        generalize wr = X at HT ⊢
        obtain ⟨n, hnn⟩ : ∃ n : No, n = ⟨10, x2, 0, x1, x3, x4, la, 0, 0, 0, []⟩ := ⟨_, rfl⟩
        rw [← hnn] at HT HRN
        clear hnn
        obtain ⟨s9, hs9⟩ : ∃ s9 : ByteArray, s9 = (bstr x3) := ⟨_, rfl⟩
        rw [← hs9] at HT
        clear hs9
        have HIN := hide (rdNote_in bs)
        rw [HRN.out] at HIN
        have hNM9 := HT.out.nm
        obtain ⟨-, -, -, -, ⟨aa, al, ac, rfl, -⟩, ⟨ma, ml, mc, rfl, -⟩⟩ := hNM9
        have HNM := hide HT.out.nm
        have HNM3 := hide (HT.out.nm3)
        obtain ⟨k0, k1, k2, k3, k4, k5, k6, k7, k8, k9, k10⟩ := (show BoxL X (w.heap.size + 2) [.int .i64 n.kind, .int .i64 n.node, .int .i64 n.life, .int .i64 n.epoch, .string s9, .int .i64 n.func, .slice aa al ac, .int .i64 n.err, .int .i64 n.val, .int .i64 n.vep, .slice ma ml mc] from HT.out.box).c11
        by_cases hm : mayN (clearN n) = true
        · have C12 := hide (rpackQ n s9 _ _ _ X HNM.out HIN.out hm)
          simp only [Nv] at C12
          unfold RP at C12
          have hBy := nm_byt HNM.out HIN.out
          have HE1 := hide (bstr_eq hBy HSA.out.byt)
          cases hbb : d0 with
          | true =>
            have HNO := hide (okR_no HRN.out (.inl hbb))
            go_upto_region 37 with (go_at_call 12; go_must ((with_reducible refine C12.out.mono ?_); rintro e w5 ⟨a5, m5, c5, rfl, hm5, -, -, hr5, hb5⟩))
            have HR5 := hide (HT.out.res.below hb5)
            have HN5 := hide ((show BoxL X (w.heap.size + 2) [.int .i64 n.kind, .int .i64 n.node, .int .i64 n.life, .int .i64 n.epoch, .string s9, .int .i64 n.func, .slice aa al ac, .int .i64 n.err, .int .i64 n.val, .int .i64 n.vep, .slice ma ml mc] from HT.out.box).below hb5)
            have HL5 := hide (HT.out.low.trans (hb5.mono HT.out.low.size))
            have HM5 := hide (HNM3.out.below hb5)
            have kb := keep_cell HT.out.cur.bad hb5
            clear k0 k1 k2 k3 k4 k5 k6 k7 k8 k9 k10
            rw [hbb] at kb
            clear hbb
            obtain ⟨q0, q1, q2, q3, q4, q5, q6, q7, q8, q9, q10⟩ := HR5.out.c11
            obtain ⟨v0, v1, v2, v3, v4, v5, v6, v7, v8, v9, v10⟩ := HR5.out.f11
            go_wp2
            have HX7 := hide (put11_box HR5.out (.int .i64 0) (.int .i64 0) (.int .i64 0) (.int .i64 0) (.string ⟨#[]⟩) (.int .i64 0) (.slice none 0 0) (.int .i64 0) (.int .i64 0) (.int .i64 0) (.slice none 0 0))
            have HB7 := hide (put11_below (g := w.heap.size) HL5.out (Nat.le_refl _) (.int .i64 0) (.int .i64 0) (.int .i64 0) (.int .i64 0) (.string ⟨#[]⟩) (.int .i64 0) (.slice none 0 0) (.int .i64 0) (.int .i64 0) (.int .i64 0) (.slice none 0 0))
            obtain ⟨Y, hY⟩ : ∃ Y, Y = put11 w5 w.heap.size (.int .i64 0) (.int .i64 0) (.int .i64 0) (.int .i64 0) (.string ⟨#[]⟩) (.int .i64 0) (.slice none 0 0) (.int .i64 0) (.int .i64 0) (.int .i64 0) (.slice none 0 0) := ⟨_, rfl⟩
            rw [← hY] at HX7 HB7
            unfold put11 at hY
            rw [← hY]
            clear hY
            obtain ⟨x0, x1, x2, x3, x4, x5, x6, x7, x8, x9, x10⟩ := HX7.out.c11
            refine bodyPost_ret (v := .tuple #[.agg #[.int .i64 0, .int .i64 0, .int .i64 0, .int .i64 0, .string ⟨#[]⟩, .int .i64 0, .slice none 0 0, .int .i64 0, .int .i64 0, .int .i64 0, .slice none 0 0], .int .i64 4]) (by simp [results, Try.results18, go_sem, x0, x1, x2, x3, x4, x5, x6, x7, x8, x9, x10]) rfl ?_
            unfold RNPost
            rw [HNO.out]
            exact ⟨rfl, HB7.out⟩
          | false =>
            by_cases he : encN (clearN n) = bs
            · have HYES := hide (okR_yes (by rw [HRN.out, hbb]) hm he)
              rw [decide_eq_true he] at HE1
              go_upto_region 37 with (go_at_call 12; go_must ((with_reducible refine C12.out.mono ?_); rintro e w5 ⟨a5, m5, c5, rfl, hm5, -, -, hr5, hb5⟩))
              have HR5 := hide (HT.out.res.below hb5)
              have HN5 := hide ((show BoxL X (w.heap.size + 2) [.int .i64 n.kind, .int .i64 n.node, .int .i64 n.life, .int .i64 n.epoch, .string s9, .int .i64 n.func, .slice aa al ac, .int .i64 n.err, .int .i64 n.val, .int .i64 n.vep, .slice ma ml mc] from HT.out.box).below hb5)
              have HL5 := hide (HT.out.low.trans (hb5.mono HT.out.low.size))
              have HM5 := hide (HNM3.out.below hb5)
              have kb := keep_cell HT.out.cur.bad hb5
              clear k0 k1 k2 k3 k4 k5 k6 k7 k8 k9 k10
              rw [hbb] at kb
              clear hbb
              have kcw := run_str (S := bstr (encN (clearN n))) rfl hm5.out hr5.out c5
              have kcb := run_str (S := bstr bs) rfl HSA.out.len (HSA.out.reads.below HL5.out) c
              generalize bstr (encN (clearN n)) = S1 at kcw HE1
              generalize bstr bs = S2 at kcb HE1
              have hE1 := HE1.out
              obtain ⟨q0, q1, q2, q3, q4, q5, q6, q7, q8, q9, q10⟩ := HR5.out.c11
              obtain ⟨v0, v1, v2, v3, v4, v5, v6, v7, v8, v9, v10⟩ := HR5.out.f11
              obtain ⟨g0, g1, g2, g3, g4, g5, g6, g7, g8, g9, g10⟩ := HN5.out.c11
              go_wp2
              have HX7 := hide (put11_box HR5.out (.int .i64 n.kind) (.int .i64 n.node) (.int .i64 n.life) (.int .i64 n.epoch) (.string s9) (.int .i64 n.func) (.slice aa al ac) (.int .i64 n.err) (.int .i64 n.val) (.int .i64 n.vep) (.slice ma ml mc))
              have HB7 := hide (put11_below (g := w.heap.size) HL5.out (Nat.le_refl _) (.int .i64 n.kind) (.int .i64 n.node) (.int .i64 n.life) (.int .i64 n.epoch) (.string s9) (.int .i64 n.func) (.slice aa al ac) (.int .i64 n.err) (.int .i64 n.val) (.int .i64 n.vep) (.slice ma ml mc))
              have HM7 := hide (HM5.out.keep (w' := put11 w5 w.heap.size (.int .i64 n.kind) (.int .i64 n.node) (.int .i64 n.life) (.int .i64 n.epoch) (.string s9) (.int .i64 n.func) (.slice aa al ac) (.int .i64 n.err) (.int .i64 n.val) (.int .i64 n.vep) (.slice ma ml mc)) (fun k h1 _ => put11_keep (by omega) (.int .i64 n.kind) (.int .i64 n.node) (.int .i64 n.life) (.int .i64 n.epoch) (.string s9) (.int .i64 n.func) (.slice aa al ac) (.int .i64 n.err) (.int .i64 n.val) (.int .i64 n.vep) (.slice ma ml mc)))
              obtain ⟨Y, hY⟩ : ∃ Y, Y = put11 w5 w.heap.size (.int .i64 n.kind) (.int .i64 n.node) (.int .i64 n.life) (.int .i64 n.epoch) (.string s9) (.int .i64 n.func) (.slice aa al ac) (.int .i64 n.err) (.int .i64 n.val) (.int .i64 n.vep) (.slice ma ml mc) := ⟨_, rfl⟩
              rw [← hY] at HX7 HB7 HM7
              unfold put11 at hY
              rw [← hY]
              clear hY
              obtain ⟨x0, x1, x2, x3, x4, x5, x6, x7, x8, x9, x10⟩ := HX7.out.c11
              refine bodyPost_ret (v := .tuple #[.agg #[.int .i64 n.kind, .int .i64 n.node, .int .i64 n.life, .int .i64 n.epoch, .string s9, .int .i64 n.func, .slice aa al ac, .int .i64 n.err, .int .i64 n.val, .int .i64 n.vep, .slice ma ml mc], .int .i64 0]) (by simp [results, Try.results18, go_sem, x0, x1, x2, x3, x4, x5, x6, x7, x8, x9, x10]) rfl ?_
              unfold RNPost
              rw [HYES.out, if_pos rfl, HRN.out]
              exact ⟨s9, .slice aa al ac, .slice ma ml mc, rfl, HM7.out.mono (by omega), HB7.out⟩
            · have HNO := hide (okR_no HRN.out (.inr (.inr he)))
              rw [decide_eq_false he] at HE1
              go_upto_region 37 with (go_at_call 12; go_must ((with_reducible refine C12.out.mono ?_); rintro e w5 ⟨a5, m5, c5, rfl, hm5, -, -, hr5, hb5⟩))
              have HR5 := hide (HT.out.res.below hb5)
              have HN5 := hide ((show BoxL X (w.heap.size + 2) [.int .i64 n.kind, .int .i64 n.node, .int .i64 n.life, .int .i64 n.epoch, .string s9, .int .i64 n.func, .slice aa al ac, .int .i64 n.err, .int .i64 n.val, .int .i64 n.vep, .slice ma ml mc] from HT.out.box).below hb5)
              have HL5 := hide (HT.out.low.trans (hb5.mono HT.out.low.size))
              have HM5 := hide (HNM3.out.below hb5)
              have kb := keep_cell HT.out.cur.bad hb5
              clear k0 k1 k2 k3 k4 k5 k6 k7 k8 k9 k10
              rw [hbb] at kb
              clear hbb
              have kcw := run_str (S := bstr (encN (clearN n))) rfl hm5.out hr5.out c5
              have kcb := run_str (S := bstr bs) rfl HSA.out.len (HSA.out.reads.below HL5.out) c
              generalize bstr (encN (clearN n)) = S1 at kcw HE1
              generalize bstr bs = S2 at kcb HE1
              have hE1 := HE1.out
              obtain ⟨q0, q1, q2, q3, q4, q5, q6, q7, q8, q9, q10⟩ := HR5.out.c11
              obtain ⟨v0, v1, v2, v3, v4, v5, v6, v7, v8, v9, v10⟩ := HR5.out.f11
              go_wp2
              have HX7 := hide (put11_box HR5.out (.int .i64 0) (.int .i64 0) (.int .i64 0) (.int .i64 0) (.string ⟨#[]⟩) (.int .i64 0) (.slice none 0 0) (.int .i64 0) (.int .i64 0) (.int .i64 0) (.slice none 0 0))
              have HB7 := hide (put11_below (g := w.heap.size) HL5.out (Nat.le_refl _) (.int .i64 0) (.int .i64 0) (.int .i64 0) (.int .i64 0) (.string ⟨#[]⟩) (.int .i64 0) (.slice none 0 0) (.int .i64 0) (.int .i64 0) (.int .i64 0) (.slice none 0 0))
              obtain ⟨Y, hY⟩ : ∃ Y, Y = put11 w5 w.heap.size (.int .i64 0) (.int .i64 0) (.int .i64 0) (.int .i64 0) (.string ⟨#[]⟩) (.int .i64 0) (.slice none 0 0) (.int .i64 0) (.int .i64 0) (.int .i64 0) (.slice none 0 0) := ⟨_, rfl⟩
              rw [← hY] at HX7 HB7
              unfold put11 at hY
              rw [← hY]
              clear hY
              obtain ⟨x0, x1, x2, x3, x4, x5, x6, x7, x8, x9, x10⟩ := HX7.out.c11
              refine bodyPost_ret (v := .tuple #[.agg #[.int .i64 0, .int .i64 0, .int .i64 0, .int .i64 0, .string ⟨#[]⟩, .int .i64 0, .slice none 0 0, .int .i64 0, .int .i64 0, .int .i64 0, .slice none 0 0], .int .i64 4]) (by simp [results, Try.results18, go_sem, x0, x1, x2, x3, x4, x5, x6, x7, x8, x9, x10]) rfl ?_
              unfold RNPost
              rw [HNO.out]
              exact ⟨rfl, HB7.out⟩
        · have HNO := hide (okR_no HRN.out (.inr (.inl (by simpa using hm))))
          have C12 := hide (rpackN n s9 _ _ _ X HNM.out HIN.out (by simpa using hm))
          simp only [Nv] at C12
          go_upto_region 37 with (go_at_call 12; go_must ((with_reducible refine C12.out.mono ?_); rintro e w5 ⟨rfl, hb5⟩))
          have HR5 := hide (HT.out.res.below hb5)
          have HN5 := hide ((show BoxL X (w.heap.size + 2) [.int .i64 n.kind, .int .i64 n.node, .int .i64 n.life, .int .i64 n.epoch, .string s9, .int .i64 n.func, .slice aa al ac, .int .i64 n.err, .int .i64 n.val, .int .i64 n.vep, .slice ma ml mc] from HT.out.box).below hb5)
          have HL5 := hide (HT.out.low.trans (hb5.mono HT.out.low.size))
          have HM5 := hide (HNM3.out.below hb5)
          have kb := keep_cell HT.out.cur.bad hb5
          clear k0 k1 k2 k3 k4 k5 k6 k7 k8 k9 k10
          cases hbb : d0 with
          | true =>
            rw [hbb] at kb
            clear hbb
            obtain ⟨q0, q1, q2, q3, q4, q5, q6, q7, q8, q9, q10⟩ := HR5.out.c11
            obtain ⟨v0, v1, v2, v3, v4, v5, v6, v7, v8, v9, v10⟩ := HR5.out.f11
            go_wp2
            have HX7 := hide (put11_box HR5.out (.int .i64 0) (.int .i64 0) (.int .i64 0) (.int .i64 0) (.string ⟨#[]⟩) (.int .i64 0) (.slice none 0 0) (.int .i64 0) (.int .i64 0) (.int .i64 0) (.slice none 0 0))
            have HB7 := hide (put11_below (g := w.heap.size) HL5.out (Nat.le_refl _) (.int .i64 0) (.int .i64 0) (.int .i64 0) (.int .i64 0) (.string ⟨#[]⟩) (.int .i64 0) (.slice none 0 0) (.int .i64 0) (.int .i64 0) (.int .i64 0) (.slice none 0 0))
            obtain ⟨Y, hY⟩ : ∃ Y, Y = put11 w5 w.heap.size (.int .i64 0) (.int .i64 0) (.int .i64 0) (.int .i64 0) (.string ⟨#[]⟩) (.int .i64 0) (.slice none 0 0) (.int .i64 0) (.int .i64 0) (.int .i64 0) (.slice none 0 0) := ⟨_, rfl⟩
            rw [← hY] at HX7 HB7
            unfold put11 at hY
            rw [← hY]
            clear hY
            obtain ⟨x0, x1, x2, x3, x4, x5, x6, x7, x8, x9, x10⟩ := HX7.out.c11
            refine bodyPost_ret (v := .tuple #[.agg #[.int .i64 0, .int .i64 0, .int .i64 0, .int .i64 0, .string ⟨#[]⟩, .int .i64 0, .slice none 0 0, .int .i64 0, .int .i64 0, .int .i64 0, .slice none 0 0], .int .i64 4]) (by simp [results, Try.results18, go_sem, x0, x1, x2, x3, x4, x5, x6, x7, x8, x9, x10]) rfl ?_
            unfold RNPost
            rw [HNO.out]
            exact ⟨rfl, HB7.out⟩
          | false =>
            rw [hbb] at kb
            clear hbb
            obtain ⟨q0, q1, q2, q3, q4, q5, q6, q7, q8, q9, q10⟩ := HR5.out.c11
            obtain ⟨v0, v1, v2, v3, v4, v5, v6, v7, v8, v9, v10⟩ := HR5.out.f11
            go_wp2
            have HX7 := hide (put11_box HR5.out (.int .i64 0) (.int .i64 0) (.int .i64 0) (.int .i64 0) (.string ⟨#[]⟩) (.int .i64 0) (.slice none 0 0) (.int .i64 0) (.int .i64 0) (.int .i64 0) (.slice none 0 0))
            have HB7 := hide (put11_below (g := w.heap.size) HL5.out (Nat.le_refl _) (.int .i64 0) (.int .i64 0) (.int .i64 0) (.int .i64 0) (.string ⟨#[]⟩) (.int .i64 0) (.slice none 0 0) (.int .i64 0) (.int .i64 0) (.int .i64 0) (.slice none 0 0))
            obtain ⟨Y, hY⟩ : ∃ Y, Y = put11 w5 w.heap.size (.int .i64 0) (.int .i64 0) (.int .i64 0) (.int .i64 0) (.string ⟨#[]⟩) (.int .i64 0) (.slice none 0 0) (.int .i64 0) (.int .i64 0) (.int .i64 0) (.slice none 0 0) := ⟨_, rfl⟩
            rw [← hY] at HX7 HB7
            unfold put11 at hY
            rw [← hY]
            clear hY
            obtain ⟨x0, x1, x2, x3, x4, x5, x6, x7, x8, x9, x10⟩ := HX7.out.c11
            refine bodyPost_ret (v := .tuple #[.agg #[.int .i64 0, .int .i64 0, .int .i64 0, .int .i64 0, .string ⟨#[]⟩, .int .i64 0, .slice none 0 0, .int .i64 0, .int .i64 0, .int .i64 0, .slice none 0 0], .int .i64 4]) (by simp [results, Try.results18, go_sem, x0, x1, x2, x3, x4, x5, x6, x7, x8, x9, x10]) rfl ?_
            unfold RNPost
            rw [HNO.out]
            exact ⟨rfl, HB7.out⟩

end Go.Proofs.Ytgkpioleipefmaa
