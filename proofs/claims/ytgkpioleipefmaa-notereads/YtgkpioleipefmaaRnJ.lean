/- The document's reader, kind by kind. -/
import Derived.Test.YtgkpioleipefmaaRdn
namespace Go.Proofs.Ytgkpioleipefmaa
open Go.RowKit Go.ChangeShapes Go.WideShapes Go.ChangeAt Go.Deep
set_option linter.unusedSimpArgs false

set_option maxRecDepth 100000 in
set_option maxHeartbeats 16000000 in
theorem rn_1 (a : Option Addr) (l c : Nat) (bs : List Nat) (w : World) (hs : SrcA w a l c bs) (r0 : List Nat) (b0 : Bool) (e0 : rdInt bs false = (1, r0, b0)) : Calls Try.prog 18 #[.slice a l c] w (RNPost bs w) := by
  have hy0 : Byt r0 ∧ r0.length ≤ 20000 := ⟨rdInt_byt hs.byt e0, by have h1 := rdInt_len bs false; rw [e0] at h1; simp only at h1; have h2 := hs.len; have h3 := hs.few; omega⟩
  obtain ⟨⟨x1, r1, b1⟩, e1⟩ : ∃ z, rdInt r0 b0 = z := ⟨_, rfl⟩
  have hy1 : Byt r1 ∧ r1.length ≤ 20000 := ⟨rdInt_byt hy0.1 e1, by have h1 := rdInt_len r0 b0; rw [e1] at h1; simp only at h1; have h2 := hy0.2; omega⟩
  obtain ⟨⟨x2, r2, b2⟩, e2⟩ : ∃ z, rdInt r1 b1 = z := ⟨_, rfl⟩
  have hy2 : Byt r2 ∧ r2.length ≤ 20000 := ⟨rdInt_byt hy1.1 e2, by have h1 := rdInt_len r1 b1; rw [e2] at h1; simp only at h1; have h2 := hy1.2; omega⟩
  have HRN := hide (show rdNote 20 bs = (⟨1, x1, x2, 0, [], 0, [], 0, 0, 0, []⟩, r2, b2) by
    simp [rdNote, hasView, hasEpoch, hasLife, hasNode, hasId, hasRes, hasFunc, rdI, rdB, rdMem, rdMany, e0, e1, e2])
  have K0 := hide (fun W (h : RS w W a l c bs bs false no0 ⟨#[]⟩ (.slice none 0 0) (.slice none 0 0)) => h.int hs)
  simp only [e0] at K0
  have K1 := hide (fun W n s av mv (h : RS w W a l c bs r0 b0 n s av mv) => h.int hs)
  simp only [e1] at K1
  have K2 := hide (fun W n s av mv (h : RS w W a l c bs r1 b1 n s av mv) => h.int hs)
  simp only [e2] at K2
  have H0 := hide (rs_start (w := w) (a := a) (l := l) (c := c) (bs := bs))
  obtain ⟨V, hV⟩ : ∃ V, V = ((w.alloc (.cells #[.int .i64 0, .int .i64 0, .int .i64 0, .int .i64 0, .string ⟨#[]⟩, .int .i64 0, .slice none 0 0, .int .i64 0, .int .i64 0, .int .i64 0, .slice none 0 0] 31)).alloc (.cells #[.slice a l c, .int .i64 0, .bool false] 73)).alloc (.cells #[.int .i64 0, .int .i64 0, .int .i64 0, .int .i64 0, .string ⟨#[]⟩, .int .i64 0, .slice none 0 0, .int .i64 0, .int .i64 0, .int .i64 0, .slice none 0 0] 31) := ⟨_, rfl⟩
  rw [← hV] at H0
  have HV := hide hV
  have HSA := hide hs
  clear hV e0 e1 e2 hs
  go_enter Try.func18, Try.ntmps18
  go_upto_region 36 with (first
    | (go_at_call 32; ((rw [← HV.out]; (with_reducible refine (K0.out V H0.out).mono ?_)); rintro e w0 ⟨rfl, h0⟩; have kc0 := (h0.box.2 0 (by simp [Nc])).1; have kf0 := (h0.box.2 0 (by simp [Nc])).2; have HS0 := hide (h0.put0 1); clear h0))
    | (go_at_call 32; ((with_reducible refine (K1.out _ _ _ _ _ HS0.out).mono ?_); rintro e w1 ⟨rfl, h1⟩; have kc1 := (h1.box.2 1 (by simp [Nc])).1; have kf1 := (h1.box.2 1 (by simp [Nc])).2; have HS1 := hide (h1.put1 x1); clear h1))
    | (go_at_call 32; ((with_reducible refine (K2.out _ _ _ _ _ HS1.out).mono ?_); rintro e w2 ⟨rfl, h2⟩; have kc2 := (h2.box.2 2 (by simp [Nc])).1; have kf2 := (h2.box.2 2 (by simp [Nc])).2; have HS2 := hide (h2.put2 x2); clear h2)))
  obtain ⟨av9, mv9, HT⟩ : ∃ av9 mv9, Hid (RS w (w2.setCell ⟨w.heap.size + 2, 2, none⟩ (.int .i64 x2)) a l c bs r2 b2 ⟨1, x1, x2, 0, [], 0, [], 0, 0, 0, []⟩ ⟨#[]⟩ av9 mv9) := ⟨(.slice none 0 0), (.slice none 0 0), HS2⟩
  generalize w2.setCell ⟨w.heap.size + 2, 2, none⟩ (.int .i64 x2) = X at HT ⊢
  obtain ⟨n, hnn⟩ : ∃ n : No, n = ⟨1, x1, x2, 0, [], 0, [], 0, 0, 0, []⟩ := ⟨_, rfl⟩
  rw [← hnn] at HT HRN
  clear hnn
  obtain ⟨s9, hs9⟩ : ∃ s9 : ByteArray, s9 = ⟨#[]⟩ := ⟨_, rfl⟩
  rw [← hs9] at HT
  clear hs9
  have HIN := hide (rdNote_in bs)
  rw [HRN.out] at HIN
  have hNM9 := HT.out.nm
  obtain ⟨-, -, -, -, ⟨aa, al, ac, rfl, -⟩, ⟨ma, ml, mc, rfl, -⟩⟩ := hNM9
  have HNM := hide HT.out.nm
  have HNM3 := hide (HT.out.nm3)
  obtain ⟨k0, k1, k2, k3, k4, k5, k6, k7, k8, k9, k10⟩ := (show BoxL X (w.heap.size + 2) [.int .i64 n.kind, .int .i64 n.node, .int .i64 n.life, .int .i64 n.epoch, .string s9, .int .i64 n.func, .slice aa al ac, .int .i64 n.err, .int .i64 n.val, .int .i64 n.vep, .slice ma ml mc] from HT.out.box).c11
  by_cases hm : mayN (clearN n) = true
  · have C12 := hide (rpackQ n s9 _ _ _ X HNM.out HIN.out hm)
    simp only [Nv] at C12
    unfold RP at C12
    have hBy := nm_byt HNM.out HIN.out
    have HE1 := hide (bstr_eq hBy HSA.out.byt)
    cases hbb : b2 with
    | true =>
      have HNO := hide (okR_no HRN.out (.inl hbb))
      go_upto_region 37 with (go_at_call 12; go_must ((with_reducible refine C12.out.mono ?_); rintro e w5 ⟨a5, m5, c5, rfl, hm5, -, -, hr5, hb5⟩))
      have HR5 := hide (HT.out.res.below hb5)
      have HN5 := hide ((show BoxL X (w.heap.size + 2) [.int .i64 n.kind, .int .i64 n.node, .int .i64 n.life, .int .i64 n.epoch, .string s9, .int .i64 n.func, .slice aa al ac, .int .i64 n.err, .int .i64 n.val, .int .i64 n.vep, .slice ma ml mc] from HT.out.box).below hb5)
      have HL5 := hide (HT.out.low.trans (hb5.mono HT.out.low.size))
      have HM5 := hide (HNM3.out.below hb5)
      have kb := keep_cell HT.out.cur.bad hb5
      clear k0 k1 k2 k3 k4 k5 k6 k7 k8 k9 k10
      rw [hbb] at kb
      clear hbb
      obtain ⟨q0, q1, q2, q3, q4, q5, q6, q7, q8, q9, q10⟩ := HR5.out.c11
      obtain ⟨v0, v1, v2, v3, v4, v5, v6, v7, v8, v9, v10⟩ := HR5.out.f11
      go_wp2
      have HX7 := hide (put11_box HR5.out (.int .i64 0) (.int .i64 0) (.int .i64 0) (.int .i64 0) (.string ⟨#[]⟩) (.int .i64 0) (.slice none 0 0) (.int .i64 0) (.int .i64 0) (.int .i64 0) (.slice none 0 0))
      have HB7 := hide (put11_below (g := w.heap.size) HL5.out (Nat.le_refl _) (.int .i64 0) (.int .i64 0) (.int .i64 0) (.int .i64 0) (.string ⟨#[]⟩) (.int .i64 0) (.slice none 0 0) (.int .i64 0) (.int .i64 0) (.int .i64 0) (.slice none 0 0))
      obtain ⟨Y, hY⟩ : ∃ Y, Y = put11 w5 w.heap.size (.int .i64 0) (.int .i64 0) (.int .i64 0) (.int .i64 0) (.string ⟨#[]⟩) (.int .i64 0) (.slice none 0 0) (.int .i64 0) (.int .i64 0) (.int .i64 0) (.slice none 0 0) := ⟨_, rfl⟩
      rw [← hY] at HX7 HB7
      unfold put11 at hY
      rw [← hY]
      clear hY
      obtain ⟨x0, x1, x2, x3, x4, x5, x6, x7, x8, x9, x10⟩ := HX7.out.c11
      refine bodyPost_ret (v := .tuple #[.agg #[.int .i64 0, .int .i64 0, .int .i64 0, .int .i64 0, .string ⟨#[]⟩, .int .i64 0, .slice none 0 0, .int .i64 0, .int .i64 0, .int .i64 0, .slice none 0 0], .int .i64 4]) (by simp [results, Try.results18, go_sem, x0, x1, x2, x3, x4, x5, x6, x7, x8, x9, x10]) rfl ?_
      unfold RNPost
      rw [HNO.out]
      exact ⟨rfl, HB7.out⟩
    | false =>
      by_cases he : encN (clearN n) = bs
      · have HYES := hide (okR_yes (by rw [HRN.out, hbb]) hm he)
        rw [decide_eq_true he] at HE1
        go_upto_region 37 with (go_at_call 12; go_must ((with_reducible refine C12.out.mono ?_); rintro e w5 ⟨a5, m5, c5, rfl, hm5, -, -, hr5, hb5⟩))
        have HR5 := hide (HT.out.res.below hb5)
        have HN5 := hide ((show BoxL X (w.heap.size + 2) [.int .i64 n.kind, .int .i64 n.node, .int .i64 n.life, .int .i64 n.epoch, .string s9, .int .i64 n.func, .slice aa al ac, .int .i64 n.err, .int .i64 n.val, .int .i64 n.vep, .slice ma ml mc] from HT.out.box).below hb5)
        have HL5 := hide (HT.out.low.trans (hb5.mono HT.out.low.size))
        have HM5 := hide (HNM3.out.below hb5)
        have kb := keep_cell HT.out.cur.bad hb5
        clear k0 k1 k2 k3 k4 k5 k6 k7 k8 k9 k10
        rw [hbb] at kb
        clear hbb
        have kcw := run_str (S := bstr (encN (clearN n))) rfl hm5.out hr5.out c5
        have kcb := run_str (S := bstr bs) rfl HSA.out.len (HSA.out.reads.below HL5.out) c
        generalize bstr (encN (clearN n)) = S1 at kcw HE1
        generalize bstr bs = S2 at kcb HE1
        have hE1 := HE1.out
        obtain ⟨q0, q1, q2, q3, q4, q5, q6, q7, q8, q9, q10⟩ := HR5.out.c11
        obtain ⟨v0, v1, v2, v3, v4, v5, v6, v7, v8, v9, v10⟩ := HR5.out.f11
        obtain ⟨g0, g1, g2, g3, g4, g5, g6, g7, g8, g9, g10⟩ := HN5.out.c11
        go_wp2
        have HX7 := hide (put11_box HR5.out (.int .i64 n.kind) (.int .i64 n.node) (.int .i64 n.life) (.int .i64 n.epoch) (.string s9) (.int .i64 n.func) (.slice aa al ac) (.int .i64 n.err) (.int .i64 n.val) (.int .i64 n.vep) (.slice ma ml mc))
        have HB7 := hide (put11_below (g := w.heap.size) HL5.out (Nat.le_refl _) (.int .i64 n.kind) (.int .i64 n.node) (.int .i64 n.life) (.int .i64 n.epoch) (.string s9) (.int .i64 n.func) (.slice aa al ac) (.int .i64 n.err) (.int .i64 n.val) (.int .i64 n.vep) (.slice ma ml mc))
        have HM7 := hide (HM5.out.keep (w' := put11 w5 w.heap.size (.int .i64 n.kind) (.int .i64 n.node) (.int .i64 n.life) (.int .i64 n.epoch) (.string s9) (.int .i64 n.func) (.slice aa al ac) (.int .i64 n.err) (.int .i64 n.val) (.int .i64 n.vep) (.slice ma ml mc)) (fun k h1 _ => put11_keep (by omega) (.int .i64 n.kind) (.int .i64 n.node) (.int .i64 n.life) (.int .i64 n.epoch) (.string s9) (.int .i64 n.func) (.slice aa al ac) (.int .i64 n.err) (.int .i64 n.val) (.int .i64 n.vep) (.slice ma ml mc)))
        obtain ⟨Y, hY⟩ : ∃ Y, Y = put11 w5 w.heap.size (.int .i64 n.kind) (.int .i64 n.node) (.int .i64 n.life) (.int .i64 n.epoch) (.string s9) (.int .i64 n.func) (.slice aa al ac) (.int .i64 n.err) (.int .i64 n.val) (.int .i64 n.vep) (.slice ma ml mc) := ⟨_, rfl⟩
        rw [← hY] at HX7 HB7 HM7
        unfold put11 at hY
        rw [← hY]
        clear hY
        obtain ⟨x0, x1, x2, x3, x4, x5, x6, x7, x8, x9, x10⟩ := HX7.out.c11
        refine bodyPost_ret (v := .tuple #[.agg #[.int .i64 n.kind, .int .i64 n.node, .int .i64 n.life, .int .i64 n.epoch, .string s9, .int .i64 n.func, .slice aa al ac, .int .i64 n.err, .int .i64 n.val, .int .i64 n.vep, .slice ma ml mc], .int .i64 0]) (by simp [results, Try.results18, go_sem, x0, x1, x2, x3, x4, x5, x6, x7, x8, x9, x10]) rfl ?_
        unfold RNPost
        rw [HYES.out, if_pos rfl, HRN.out]
        exact ⟨s9, .slice aa al ac, .slice ma ml mc, rfl, HM7.out.mono (by omega), HB7.out⟩
      · have HNO := hide (okR_no HRN.out (.inr (.inr he)))
        rw [decide_eq_false he] at HE1
        go_upto_region 37 with (go_at_call 12; go_must ((with_reducible refine C12.out.mono ?_); rintro e w5 ⟨a5, m5, c5, rfl, hm5, -, -, hr5, hb5⟩))
        have HR5 := hide (HT.out.res.below hb5)
        have HN5 := hide ((show BoxL X (w.heap.size + 2) [.int .i64 n.kind, .int .i64 n.node, .int .i64 n.life, .int .i64 n.epoch, .string s9, .int .i64 n.func, .slice aa al ac, .int .i64 n.err, .int .i64 n.val, .int .i64 n.vep, .slice ma ml mc] from HT.out.box).below hb5)
        have HL5 := hide (HT.out.low.trans (hb5.mono HT.out.low.size))
        have HM5 := hide (HNM3.out.below hb5)
        have kb := keep_cell HT.out.cur.bad hb5
        clear k0 k1 k2 k3 k4 k5 k6 k7 k8 k9 k10
        rw [hbb] at kb
        clear hbb
        have kcw := run_str (S := bstr (encN (clearN n))) rfl hm5.out hr5.out c5
        have kcb := run_str (S := bstr bs) rfl HSA.out.len (HSA.out.reads.below HL5.out) c
        generalize bstr (encN (clearN n)) = S1 at kcw HE1
        generalize bstr bs = S2 at kcb HE1
        have hE1 := HE1.out
        obtain ⟨q0, q1, q2, q3, q4, q5, q6, q7, q8, q9, q10⟩ := HR5.out.c11
        obtain ⟨v0, v1, v2, v3, v4, v5, v6, v7, v8, v9, v10⟩ := HR5.out.f11
        go_wp2
        have HX7 := hide (put11_box HR5.out (.int .i64 0) (.int .i64 0) (.int .i64 0) (.int .i64 0) (.string ⟨#[]⟩) (.int .i64 0) (.slice none 0 0) (.int .i64 0) (.int .i64 0) (.int .i64 0) (.slice none 0 0))
        have HB7 := hide (put11_below (g := w.heap.size) HL5.out (Nat.le_refl _) (.int .i64 0) (.int .i64 0) (.int .i64 0) (.int .i64 0) (.string ⟨#[]⟩) (.int .i64 0) (.slice none 0 0) (.int .i64 0) (.int .i64 0) (.int .i64 0) (.slice none 0 0))
        obtain ⟨Y, hY⟩ : ∃ Y, Y = put11 w5 w.heap.size (.int .i64 0) (.int .i64 0) (.int .i64 0) (.int .i64 0) (.string ⟨#[]⟩) (.int .i64 0) (.slice none 0 0) (.int .i64 0) (.int .i64 0) (.int .i64 0) (.slice none 0 0) := ⟨_, rfl⟩
        rw [← hY] at HX7 HB7
        unfold put11 at hY
        rw [← hY]
        clear hY
        obtain ⟨x0, x1, x2, x3, x4, x5, x6, x7, x8, x9, x10⟩ := HX7.out.c11
        refine bodyPost_ret (v := .tuple #[.agg #[.int .i64 0, .int .i64 0, .int .i64 0, .int .i64 0, .string ⟨#[]⟩, .int .i64 0, .slice none 0 0, .int .i64 0, .int .i64 0, .int .i64 0, .slice none 0 0], .int .i64 4]) (by simp [results, Try.results18, go_sem, x0, x1, x2, x3, x4, x5, x6, x7, x8, x9, x10]) rfl ?_
        unfold RNPost
        rw [HNO.out]
        exact ⟨rfl, HB7.out⟩
  · have HNO := hide (okR_no HRN.out (.inr (.inl (by simpa using hm))))
    have C12 := hide (rpackN n s9 _ _ _ X HNM.out HIN.out (by simpa using hm))
    simp only [Nv] at C12
    go_upto_region 37 with (go_at_call 12; go_must ((with_reducible refine C12.out.mono ?_); rintro e w5 ⟨rfl, hb5⟩))
    have HR5 := hide (HT.out.res.below hb5)
    have HN5 := hide ((show BoxL X (w.heap.size + 2) [.int .i64 n.kind, .int .i64 n.node, .int .i64 n.life, .int .i64 n.epoch, .string s9, .int .i64 n.func, .slice aa al ac, .int .i64 n.err, .int .i64 n.val, .int .i64 n.vep, .slice ma ml mc] from HT.out.box).below hb5)
    have HL5 := hide (HT.out.low.trans (hb5.mono HT.out.low.size))
    have HM5 := hide (HNM3.out.below hb5)
    have kb := keep_cell HT.out.cur.bad hb5
    clear k0 k1 k2 k3 k4 k5 k6 k7 k8 k9 k10
    cases hbb : b2 with
    | true =>
      rw [hbb] at kb
      clear hbb
      obtain ⟨q0, q1, q2, q3, q4, q5, q6, q7, q8, q9, q10⟩ := HR5.out.c11
      obtain ⟨v0, v1, v2, v3, v4, v5, v6, v7, v8, v9, v10⟩ := HR5.out.f11
      go_wp2
      have HX7 := hide (put11_box HR5.out (.int .i64 0) (.int .i64 0) (.int .i64 0) (.int .i64 0) (.string ⟨#[]⟩) (.int .i64 0) (.slice none 0 0) (.int .i64 0) (.int .i64 0) (.int .i64 0) (.slice none 0 0))
      have HB7 := hide (put11_below (g := w.heap.size) HL5.out (Nat.le_refl _) (.int .i64 0) (.int .i64 0) (.int .i64 0) (.int .i64 0) (.string ⟨#[]⟩) (.int .i64 0) (.slice none 0 0) (.int .i64 0) (.int .i64 0) (.int .i64 0) (.slice none 0 0))
      obtain ⟨Y, hY⟩ : ∃ Y, Y = put11 w5 w.heap.size (.int .i64 0) (.int .i64 0) (.int .i64 0) (.int .i64 0) (.string ⟨#[]⟩) (.int .i64 0) (.slice none 0 0) (.int .i64 0) (.int .i64 0) (.int .i64 0) (.slice none 0 0) := ⟨_, rfl⟩
      rw [← hY] at HX7 HB7
      unfold put11 at hY
      rw [← hY]
      clear hY
      obtain ⟨x0, x1, x2, x3, x4, x5, x6, x7, x8, x9, x10⟩ := HX7.out.c11
      refine bodyPost_ret (v := .tuple #[.agg #[.int .i64 0, .int .i64 0, .int .i64 0, .int .i64 0, .string ⟨#[]⟩, .int .i64 0, .slice none 0 0, .int .i64 0, .int .i64 0, .int .i64 0, .slice none 0 0], .int .i64 4]) (by simp [results, Try.results18, go_sem, x0, x1, x2, x3, x4, x5, x6, x7, x8, x9, x10]) rfl ?_
      unfold RNPost
      rw [HNO.out]
      exact ⟨rfl, HB7.out⟩
    | false =>
      rw [hbb] at kb
      clear hbb
      obtain ⟨q0, q1, q2, q3, q4, q5, q6, q7, q8, q9, q10⟩ := HR5.out.c11
      obtain ⟨v0, v1, v2, v3, v4, v5, v6, v7, v8, v9, v10⟩ := HR5.out.f11
      go_wp2
      have HX7 := hide (put11_box HR5.out (.int .i64 0) (.int .i64 0) (.int .i64 0) (.int .i64 0) (.string ⟨#[]⟩) (.int .i64 0) (.slice none 0 0) (.int .i64 0) (.int .i64 0) (.int .i64 0) (.slice none 0 0))
      have HB7 := hide (put11_below (g := w.heap.size) HL5.out (Nat.le_refl _) (.int .i64 0) (.int .i64 0) (.int .i64 0) (.int .i64 0) (.string ⟨#[]⟩) (.int .i64 0) (.slice none 0 0) (.int .i64 0) (.int .i64 0) (.int .i64 0) (.slice none 0 0))
      obtain ⟨Y, hY⟩ : ∃ Y, Y = put11 w5 w.heap.size (.int .i64 0) (.int .i64 0) (.int .i64 0) (.int .i64 0) (.string ⟨#[]⟩) (.int .i64 0) (.slice none 0 0) (.int .i64 0) (.int .i64 0) (.int .i64 0) (.slice none 0 0) := ⟨_, rfl⟩
      rw [← hY] at HX7 HB7
      unfold put11 at hY
      rw [← hY]
      clear hY
      obtain ⟨x0, x1, x2, x3, x4, x5, x6, x7, x8, x9, x10⟩ := HX7.out.c11
      refine bodyPost_ret (v := .tuple #[.agg #[.int .i64 0, .int .i64 0, .int .i64 0, .int .i64 0, .string ⟨#[]⟩, .int .i64 0, .slice none 0 0, .int .i64 0, .int .i64 0, .int .i64 0, .slice none 0 0], .int .i64 4]) (by simp [results, Try.results18, go_sem, x0, x1, x2, x3, x4, x5, x6, x7, x8, x9, x10]) rfl ?_
      unfold RNPost
      rw [HNO.out]
      exact ⟨rfl, HB7.out⟩

set_option maxRecDepth 100000 in
set_option maxHeartbeats 16000000 in
theorem rn_3 (a : Option Addr) (l c : Nat) (bs : List Nat) (w : World) (hs : SrcA w a l c bs) (r0 : List Nat) (b0 : Bool) (e0 : rdInt bs false = (3, r0, b0)) : Calls Try.prog 18 #[.slice a l c] w (RNPost bs w) := by
  have hy0 : Byt r0 ∧ r0.length ≤ 20000 := ⟨rdInt_byt hs.byt e0, by have h1 := rdInt_len bs false; rw [e0] at h1; simp only at h1; have h2 := hs.len; have h3 := hs.few; omega⟩
  obtain ⟨⟨x1, r1, b1⟩, e1⟩ : ∃ z, rdInt r0 b0 = z := ⟨_, rfl⟩
  have hy1 : Byt r1 ∧ r1.length ≤ 20000 := ⟨rdInt_byt hy0.1 e1, by have h1 := rdInt_len r0 b0; rw [e1] at h1; simp only at h1; have h2 := hy0.2; omega⟩
  obtain ⟨⟨x2, r2, b2⟩, e2⟩ : ∃ z, rdInt r1 b1 = z := ⟨_, rfl⟩
  have hy2 : Byt r2 ∧ r2.length ≤ 20000 := ⟨rdInt_byt hy1.1 e2, by have h1 := rdInt_len r1 b1; rw [e2] at h1; simp only at h1; have h2 := hy1.2; omega⟩
  have HRN := hide (show rdNote 20 bs = (⟨3, x2, 0, x1, [], 0, [], 0, 0, 0, []⟩, r2, b2) by
    simp [rdNote, hasView, hasEpoch, hasLife, hasNode, hasId, hasRes, hasFunc, rdI, rdB, rdMem, rdMany, e0, e1, e2])
  have K0 := hide (fun W (h : RS w W a l c bs bs false no0 ⟨#[]⟩ (.slice none 0 0) (.slice none 0 0)) => h.int hs)
  simp only [e0] at K0
  have K1 := hide (fun W n s av mv (h : RS w W a l c bs r0 b0 n s av mv) => h.int hs)
  simp only [e1] at K1
  have K2 := hide (fun W n s av mv (h : RS w W a l c bs r1 b1 n s av mv) => h.int hs)
  simp only [e2] at K2
  have H0 := hide (rs_start (w := w) (a := a) (l := l) (c := c) (bs := bs))
  obtain ⟨V, hV⟩ : ∃ V, V = ((w.alloc (.cells #[.int .i64 0, .int .i64 0, .int .i64 0, .int .i64 0, .string ⟨#[]⟩, .int .i64 0, .slice none 0 0, .int .i64 0, .int .i64 0, .int .i64 0, .slice none 0 0] 31)).alloc (.cells #[.slice a l c, .int .i64 0, .bool false] 73)).alloc (.cells #[.int .i64 0, .int .i64 0, .int .i64 0, .int .i64 0, .string ⟨#[]⟩, .int .i64 0, .slice none 0 0, .int .i64 0, .int .i64 0, .int .i64 0, .slice none 0 0] 31) := ⟨_, rfl⟩
  rw [← hV] at H0
  have HV := hide hV
  have HSA := hide hs
  clear hV e0 e1 e2 hs
  go_enter Try.func18, Try.ntmps18
  go_upto_region 36 with (first
    | (go_at_call 32; ((rw [← HV.out]; (with_reducible refine (K0.out V H0.out).mono ?_)); rintro e w0 ⟨rfl, h0⟩; have kc0 := (h0.box.2 0 (by simp [Nc])).1; have kf0 := (h0.box.2 0 (by simp [Nc])).2; have HS0 := hide (h0.put0 3); clear h0))
    | (go_at_call 32; ((with_reducible refine (K1.out _ _ _ _ _ HS0.out).mono ?_); rintro e w1 ⟨rfl, h1⟩; have kc1 := (h1.box.2 3 (by simp [Nc])).1; have kf1 := (h1.box.2 3 (by simp [Nc])).2; have HS1 := hide (h1.put3 x1); clear h1))
    | (go_at_call 32; ((with_reducible refine (K2.out _ _ _ _ _ HS1.out).mono ?_); rintro e w2 ⟨rfl, h2⟩; have kc2 := (h2.box.2 1 (by simp [Nc])).1; have kf2 := (h2.box.2 1 (by simp [Nc])).2; have HS2 := hide (h2.put1 x2); clear h2)))
  obtain ⟨av9, mv9, HT⟩ : ∃ av9 mv9, Hid (RS w (w2.setCell ⟨w.heap.size + 2, 1, none⟩ (.int .i64 x2)) a l c bs r2 b2 ⟨3, x2, 0, x1, [], 0, [], 0, 0, 0, []⟩ ⟨#[]⟩ av9 mv9) := ⟨(.slice none 0 0), (.slice none 0 0), HS2⟩
  generalize w2.setCell ⟨w.heap.size + 2, 1, none⟩ (.int .i64 x2) = X at HT ⊢
  obtain ⟨n, hnn⟩ : ∃ n : No, n = ⟨3, x2, 0, x1, [], 0, [], 0, 0, 0, []⟩ := ⟨_, rfl⟩
  rw [← hnn] at HT HRN
  clear hnn
  obtain ⟨s9, hs9⟩ : ∃ s9 : ByteArray, s9 = ⟨#[]⟩ := ⟨_, rfl⟩
  rw [← hs9] at HT
  clear hs9
  have HIN := hide (rdNote_in bs)
  rw [HRN.out] at HIN
  have hNM9 := HT.out.nm
  obtain ⟨-, -, -, -, ⟨aa, al, ac, rfl, -⟩, ⟨ma, ml, mc, rfl, -⟩⟩ := hNM9
  have HNM := hide HT.out.nm
  have HNM3 := hide (HT.out.nm3)
  obtain ⟨k0, k1, k2, k3, k4, k5, k6, k7, k8, k9, k10⟩ := (show BoxL X (w.heap.size + 2) [.int .i64 n.kind, .int .i64 n.node, .int .i64 n.life, .int .i64 n.epoch, .string s9, .int .i64 n.func, .slice aa al ac, .int .i64 n.err, .int .i64 n.val, .int .i64 n.vep, .slice ma ml mc] from HT.out.box).c11
  by_cases hm : mayN (clearN n) = true
  · have C12 := hide (rpackQ n s9 _ _ _ X HNM.out HIN.out hm)
    simp only [Nv] at C12
    unfold RP at C12
    have hBy := nm_byt HNM.out HIN.out
    have HE1 := hide (bstr_eq hBy HSA.out.byt)
    cases hbb : b2 with
    | true =>
      have HNO := hide (okR_no HRN.out (.inl hbb))
      go_upto_region 37 with (go_at_call 12; go_must ((with_reducible refine C12.out.mono ?_); rintro e w5 ⟨a5, m5, c5, rfl, hm5, -, -, hr5, hb5⟩))
      have HR5 := hide (HT.out.res.below hb5)
      have HN5 := hide ((show BoxL X (w.heap.size + 2) [.int .i64 n.kind, .int .i64 n.node, .int .i64 n.life, .int .i64 n.epoch, .string s9, .int .i64 n.func, .slice aa al ac, .int .i64 n.err, .int .i64 n.val, .int .i64 n.vep, .slice ma ml mc] from HT.out.box).below hb5)
      have HL5 := hide (HT.out.low.trans (hb5.mono HT.out.low.size))
      have HM5 := hide (HNM3.out.below hb5)
      have kb := keep_cell HT.out.cur.bad hb5
      clear k0 k1 k2 k3 k4 k5 k6 k7 k8 k9 k10
      rw [hbb] at kb
      clear hbb
      obtain ⟨q0, q1, q2, q3, q4, q5, q6, q7, q8, q9, q10⟩ := HR5.out.c11
      obtain ⟨v0, v1, v2, v3, v4, v5, v6, v7, v8, v9, v10⟩ := HR5.out.f11
      go_wp2
      have HX7 := hide (put11_box HR5.out (.int .i64 0) (.int .i64 0) (.int .i64 0) (.int .i64 0) (.string ⟨#[]⟩) (.int .i64 0) (.slice none 0 0) (.int .i64 0) (.int .i64 0) (.int .i64 0) (.slice none 0 0))
      have HB7 := hide (put11_below (g := w.heap.size) HL5.out (Nat.le_refl _) (.int .i64 0) (.int .i64 0) (.int .i64 0) (.int .i64 0) (.string ⟨#[]⟩) (.int .i64 0) (.slice none 0 0) (.int .i64 0) (.int .i64 0) (.int .i64 0) (.slice none 0 0))
      obtain ⟨Y, hY⟩ : ∃ Y, Y = put11 w5 w.heap.size (.int .i64 0) (.int .i64 0) (.int .i64 0) (.int .i64 0) (.string ⟨#[]⟩) (.int .i64 0) (.slice none 0 0) (.int .i64 0) (.int .i64 0) (.int .i64 0) (.slice none 0 0) := ⟨_, rfl⟩
      rw [← hY] at HX7 HB7
      unfold put11 at hY
      rw [← hY]
      clear hY
      obtain ⟨x0, x1, x2, x3, x4, x5, x6, x7, x8, x9, x10⟩ := HX7.out.c11
      refine bodyPost_ret (v := .tuple #[.agg #[.int .i64 0, .int .i64 0, .int .i64 0, .int .i64 0, .string ⟨#[]⟩, .int .i64 0, .slice none 0 0, .int .i64 0, .int .i64 0, .int .i64 0, .slice none 0 0], .int .i64 4]) (by simp [results, Try.results18, go_sem, x0, x1, x2, x3, x4, x5, x6, x7, x8, x9, x10]) rfl ?_
      unfold RNPost
      rw [HNO.out]
      exact ⟨rfl, HB7.out⟩
    | false =>
      by_cases he : encN (clearN n) = bs
      · have HYES := hide (okR_yes (by rw [HRN.out, hbb]) hm he)
        rw [decide_eq_true he] at HE1
        go_upto_region 37 with (go_at_call 12; go_must ((with_reducible refine C12.out.mono ?_); rintro e w5 ⟨a5, m5, c5, rfl, hm5, -, -, hr5, hb5⟩))
        have HR5 := hide (HT.out.res.below hb5)
        have HN5 := hide ((show BoxL X (w.heap.size + 2) [.int .i64 n.kind, .int .i64 n.node, .int .i64 n.life, .int .i64 n.epoch, .string s9, .int .i64 n.func, .slice aa al ac, .int .i64 n.err, .int .i64 n.val, .int .i64 n.vep, .slice ma ml mc] from HT.out.box).below hb5)
        have HL5 := hide (HT.out.low.trans (hb5.mono HT.out.low.size))
        have HM5 := hide (HNM3.out.below hb5)
        have kb := keep_cell HT.out.cur.bad hb5
        clear k0 k1 k2 k3 k4 k5 k6 k7 k8 k9 k10
        rw [hbb] at kb
        clear hbb
        have kcw := run_str (S := bstr (encN (clearN n))) rfl hm5.out hr5.out c5
        have kcb := run_str (S := bstr bs) rfl HSA.out.len (HSA.out.reads.below HL5.out) c
        generalize bstr (encN (clearN n)) = S1 at kcw HE1
        generalize bstr bs = S2 at kcb HE1
        have hE1 := HE1.out
        obtain ⟨q0, q1, q2, q3, q4, q5, q6, q7, q8, q9, q10⟩ := HR5.out.c11
        obtain ⟨v0, v1, v2, v3, v4, v5, v6, v7, v8, v9, v10⟩ := HR5.out.f11
        obtain ⟨g0, g1, g2, g3, g4, g5, g6, g7, g8, g9, g10⟩ := HN5.out.c11
        go_wp2
        have HX7 := hide (put11_box HR5.out (.int .i64 n.kind) (.int .i64 n.node) (.int .i64 n.life) (.int .i64 n.epoch) (.string s9) (.int .i64 n.func) (.slice aa al ac) (.int .i64 n.err) (.int .i64 n.val) (.int .i64 n.vep) (.slice ma ml mc))
        have HB7 := hide (put11_below (g := w.heap.size) HL5.out (Nat.le_refl _) (.int .i64 n.kind) (.int .i64 n.node) (.int .i64 n.life) (.int .i64 n.epoch) (.string s9) (.int .i64 n.func) (.slice aa al ac) (.int .i64 n.err) (.int .i64 n.val) (.int .i64 n.vep) (.slice ma ml mc))
        have HM7 := hide (HM5.out.keep (w' := put11 w5 w.heap.size (.int .i64 n.kind) (.int .i64 n.node) (.int .i64 n.life) (.int .i64 n.epoch) (.string s9) (.int .i64 n.func) (.slice aa al ac) (.int .i64 n.err) (.int .i64 n.val) (.int .i64 n.vep) (.slice ma ml mc)) (fun k h1 _ => put11_keep (by omega) (.int .i64 n.kind) (.int .i64 n.node) (.int .i64 n.life) (.int .i64 n.epoch) (.string s9) (.int .i64 n.func) (.slice aa al ac) (.int .i64 n.err) (.int .i64 n.val) (.int .i64 n.vep) (.slice ma ml mc)))
        obtain ⟨Y, hY⟩ : ∃ Y, Y = put11 w5 w.heap.size (.int .i64 n.kind) (.int .i64 n.node) (.int .i64 n.life) (.int .i64 n.epoch) (.string s9) (.int .i64 n.func) (.slice aa al ac) (.int .i64 n.err) (.int .i64 n.val) (.int .i64 n.vep) (.slice ma ml mc) := ⟨_, rfl⟩
        rw [← hY] at HX7 HB7 HM7
        unfold put11 at hY
        rw [← hY]
        clear hY
        obtain ⟨x0, x1, x2, x3, x4, x5, x6, x7, x8, x9, x10⟩ := HX7.out.c11
        refine bodyPost_ret (v := .tuple #[.agg #[.int .i64 n.kind, .int .i64 n.node, .int .i64 n.life, .int .i64 n.epoch, .string s9, .int .i64 n.func, .slice aa al ac, .int .i64 n.err, .int .i64 n.val, .int .i64 n.vep, .slice ma ml mc], .int .i64 0]) (by simp [results, Try.results18, go_sem, x0, x1, x2, x3, x4, x5, x6, x7, x8, x9, x10]) rfl ?_
        unfold RNPost
        rw [HYES.out, if_pos rfl, HRN.out]
        exact ⟨s9, .slice aa al ac, .slice ma ml mc, rfl, HM7.out.mono (by omega), HB7.out⟩
      · have HNO := hide (okR_no HRN.out (.inr (.inr he)))
        rw [decide_eq_false he] at HE1
        go_upto_region 37 with (go_at_call 12; go_must ((with_reducible refine C12.out.mono ?_); rintro e w5 ⟨a5, m5, c5, rfl, hm5, -, -, hr5, hb5⟩))
        have HR5 := hide (HT.out.res.below hb5)
        have HN5 := hide ((show BoxL X (w.heap.size + 2) [.int .i64 n.kind, .int .i64 n.node, .int .i64 n.life, .int .i64 n.epoch, .string s9, .int .i64 n.func, .slice aa al ac, .int .i64 n.err, .int .i64 n.val, .int .i64 n.vep, .slice ma ml mc] from HT.out.box).below hb5)
        have HL5 := hide (HT.out.low.trans (hb5.mono HT.out.low.size))
        have HM5 := hide (HNM3.out.below hb5)
        have kb := keep_cell HT.out.cur.bad hb5
        clear k0 k1 k2 k3 k4 k5 k6 k7 k8 k9 k10
        rw [hbb] at kb
        clear hbb
        have kcw := run_str (S := bstr (encN (clearN n))) rfl hm5.out hr5.out c5
        have kcb := run_str (S := bstr bs) rfl HSA.out.len (HSA.out.reads.below HL5.out) c
        generalize bstr (encN (clearN n)) = S1 at kcw HE1
        generalize bstr bs = S2 at kcb HE1
        have hE1 := HE1.out
        obtain ⟨q0, q1, q2, q3, q4, q5, q6, q7, q8, q9, q10⟩ := HR5.out.c11
        obtain ⟨v0, v1, v2, v3, v4, v5, v6, v7, v8, v9, v10⟩ := HR5.out.f11
        go_wp2
        have HX7 := hide (put11_box HR5.out (.int .i64 0) (.int .i64 0) (.int .i64 0) (.int .i64 0) (.string ⟨#[]⟩) (.int .i64 0) (.slice none 0 0) (.int .i64 0) (.int .i64 0) (.int .i64 0) (.slice none 0 0))
        have HB7 := hide (put11_below (g := w.heap.size) HL5.out (Nat.le_refl _) (.int .i64 0) (.int .i64 0) (.int .i64 0) (.int .i64 0) (.string ⟨#[]⟩) (.int .i64 0) (.slice none 0 0) (.int .i64 0) (.int .i64 0) (.int .i64 0) (.slice none 0 0))
        obtain ⟨Y, hY⟩ : ∃ Y, Y = put11 w5 w.heap.size (.int .i64 0) (.int .i64 0) (.int .i64 0) (.int .i64 0) (.string ⟨#[]⟩) (.int .i64 0) (.slice none 0 0) (.int .i64 0) (.int .i64 0) (.int .i64 0) (.slice none 0 0) := ⟨_, rfl⟩
        rw [← hY] at HX7 HB7
        unfold put11 at hY
        rw [← hY]
        clear hY
        obtain ⟨x0, x1, x2, x3, x4, x5, x6, x7, x8, x9, x10⟩ := HX7.out.c11
        refine bodyPost_ret (v := .tuple #[.agg #[.int .i64 0, .int .i64 0, .int .i64 0, .int .i64 0, .string ⟨#[]⟩, .int .i64 0, .slice none 0 0, .int .i64 0, .int .i64 0, .int .i64 0, .slice none 0 0], .int .i64 4]) (by simp [results, Try.results18, go_sem, x0, x1, x2, x3, x4, x5, x6, x7, x8, x9, x10]) rfl ?_
        unfold RNPost
        rw [HNO.out]
        exact ⟨rfl, HB7.out⟩
  · have HNO := hide (okR_no HRN.out (.inr (.inl (by simpa using hm))))
    have C12 := hide (rpackN n s9 _ _ _ X HNM.out HIN.out (by simpa using hm))
    simp only [Nv] at C12
    go_upto_region 37 with (go_at_call 12; go_must ((with_reducible refine C12.out.mono ?_); rintro e w5 ⟨rfl, hb5⟩))
    have HR5 := hide (HT.out.res.below hb5)
    have HN5 := hide ((show BoxL X (w.heap.size + 2) [.int .i64 n.kind, .int .i64 n.node, .int .i64 n.life, .int .i64 n.epoch, .string s9, .int .i64 n.func, .slice aa al ac, .int .i64 n.err, .int .i64 n.val, .int .i64 n.vep, .slice ma ml mc] from HT.out.box).below hb5)
    have HL5 := hide (HT.out.low.trans (hb5.mono HT.out.low.size))
    have HM5 := hide (HNM3.out.below hb5)
    have kb := keep_cell HT.out.cur.bad hb5
    clear k0 k1 k2 k3 k4 k5 k6 k7 k8 k9 k10
    cases hbb : b2 with
    | true =>
      rw [hbb] at kb
      clear hbb
      obtain ⟨q0, q1, q2, q3, q4, q5, q6, q7, q8, q9, q10⟩ := HR5.out.c11
      obtain ⟨v0, v1, v2, v3, v4, v5, v6, v7, v8, v9, v10⟩ := HR5.out.f11
      go_wp2
      have HX7 := hide (put11_box HR5.out (.int .i64 0) (.int .i64 0) (.int .i64 0) (.int .i64 0) (.string ⟨#[]⟩) (.int .i64 0) (.slice none 0 0) (.int .i64 0) (.int .i64 0) (.int .i64 0) (.slice none 0 0))
      have HB7 := hide (put11_below (g := w.heap.size) HL5.out (Nat.le_refl _) (.int .i64 0) (.int .i64 0) (.int .i64 0) (.int .i64 0) (.string ⟨#[]⟩) (.int .i64 0) (.slice none 0 0) (.int .i64 0) (.int .i64 0) (.int .i64 0) (.slice none 0 0))
      obtain ⟨Y, hY⟩ : ∃ Y, Y = put11 w5 w.heap.size (.int .i64 0) (.int .i64 0) (.int .i64 0) (.int .i64 0) (.string ⟨#[]⟩) (.int .i64 0) (.slice none 0 0) (.int .i64 0) (.int .i64 0) (.int .i64 0) (.slice none 0 0) := ⟨_, rfl⟩
      rw [← hY] at HX7 HB7
      unfold put11 at hY
      rw [← hY]
      clear hY
      obtain ⟨x0, x1, x2, x3, x4, x5, x6, x7, x8, x9, x10⟩ := HX7.out.c11
      refine bodyPost_ret (v := .tuple #[.agg #[.int .i64 0, .int .i64 0, .int .i64 0, .int .i64 0, .string ⟨#[]⟩, .int .i64 0, .slice none 0 0, .int .i64 0, .int .i64 0, .int .i64 0, .slice none 0 0], .int .i64 4]) (by simp [results, Try.results18, go_sem, x0, x1, x2, x3, x4, x5, x6, x7, x8, x9, x10]) rfl ?_
      unfold RNPost
      rw [HNO.out]
      exact ⟨rfl, HB7.out⟩
    | false =>
      rw [hbb] at kb
      clear hbb
      obtain ⟨q0, q1, q2, q3, q4, q5, q6, q7, q8, q9, q10⟩ := HR5.out.c11
      obtain ⟨v0, v1, v2, v3, v4, v5, v6, v7, v8, v9, v10⟩ := HR5.out.f11
      go_wp2
      have HX7 := hide (put11_box HR5.out (.int .i64 0) (.int .i64 0) (.int .i64 0) (.int .i64 0) (.string ⟨#[]⟩) (.int .i64 0) (.slice none 0 0) (.int .i64 0) (.int .i64 0) (.int .i64 0) (.slice none 0 0))
      have HB7 := hide (put11_below (g := w.heap.size) HL5.out (Nat.le_refl _) (.int .i64 0) (.int .i64 0) (.int .i64 0) (.int .i64 0) (.string ⟨#[]⟩) (.int .i64 0) (.slice none 0 0) (.int .i64 0) (.int .i64 0) (.int .i64 0) (.slice none 0 0))
      obtain ⟨Y, hY⟩ : ∃ Y, Y = put11 w5 w.heap.size (.int .i64 0) (.int .i64 0) (.int .i64 0) (.int .i64 0) (.string ⟨#[]⟩) (.int .i64 0) (.slice none 0 0) (.int .i64 0) (.int .i64 0) (.int .i64 0) (.slice none 0 0) := ⟨_, rfl⟩
      rw [← hY] at HX7 HB7
      unfold put11 at hY
      rw [← hY]
      clear hY
      obtain ⟨x0, x1, x2, x3, x4, x5, x6, x7, x8, x9, x10⟩ := HX7.out.c11
      refine bodyPost_ret (v := .tuple #[.agg #[.int .i64 0, .int .i64 0, .int .i64 0, .int .i64 0, .string ⟨#[]⟩, .int .i64 0, .slice none 0 0, .int .i64 0, .int .i64 0, .int .i64 0, .slice none 0 0], .int .i64 4]) (by simp [results, Try.results18, go_sem, x0, x1, x2, x3, x4, x5, x6, x7, x8, x9, x10]) rfl ?_
      unfold RNPost
      rw [HNO.out]
      exact ⟨rfl, HB7.out⟩

set_option maxRecDepth 100000 in
set_option maxHeartbeats 16000000 in
theorem rn_9 (a : Option Addr) (l c : Nat) (bs : List Nat) (w : World) (hs : SrcA w a l c bs) (r0 : List Nat) (b0 : Bool) (e0 : rdInt bs false = (9, r0, b0)) : Calls Try.prog 18 #[.slice a l c] w (RNPost bs w) := by
  have hy0 : Byt r0 ∧ r0.length ≤ 20000 := ⟨rdInt_byt hs.byt e0, by have h1 := rdInt_len bs false; rw [e0] at h1; simp only at h1; have h2 := hs.len; have h3 := hs.few; omega⟩
  obtain ⟨⟨x1, r1, b1⟩, e1⟩ : ∃ z, rdInt r0 b0 = z := ⟨_, rfl⟩
  have hy1 : Byt r1 ∧ r1.length ≤ 20000 := ⟨rdInt_byt hy0.1 e1, by have h1 := rdInt_len r0 b0; rw [e1] at h1; simp only at h1; have h2 := hy0.2; omega⟩
  have hbl2 := rdBytes_len r1 b1
  obtain ⟨⟨x2, r2, b2⟩, e2⟩ : ∃ z, rdBytes r1 b1 = z := ⟨_, rfl⟩
  rw [e2] at hbl2
  have hbt2 : Byt x2 ∧ x2.length ≤ 20000 := ⟨rdBytes_byt hy1.1 e2, by have h2 := hy1.2; simp only at hbl2; omega⟩
  clear hbl2
  have hy2 : Byt r2 ∧ r2.length ≤ 20000 := rdBytes_rest hy1.1 hy1.2 e2
  have HRN := hide (show rdNote 20 bs = (⟨9, x1, 0, 0, x2, 0, [], 0, 0, 0, []⟩, r2, b2) by
    simp [rdNote, hasView, hasEpoch, hasLife, hasNode, hasId, hasRes, hasFunc, rdI, rdB, rdMem, rdMany, e0, e1, e2])
  have K0 := hide (fun W (h : RS w W a l c bs bs false no0 ⟨#[]⟩ (.slice none 0 0) (.slice none 0 0)) => h.int hs)
  simp only [e0] at K0
  have K1 := hide (fun W n s av mv (h : RS w W a l c bs r0 b0 n s av mv) => h.int hs)
  simp only [e1] at K1
  have K2 := hide (fun W n s av mv (h : RS w W a l c bs r1 b1 n s av mv) => h.bytes hs)
  simp only [e2] at K2
  have H0 := hide (rs_start (w := w) (a := a) (l := l) (c := c) (bs := bs))
  obtain ⟨V, hV⟩ : ∃ V, V = ((w.alloc (.cells #[.int .i64 0, .int .i64 0, .int .i64 0, .int .i64 0, .string ⟨#[]⟩, .int .i64 0, .slice none 0 0, .int .i64 0, .int .i64 0, .int .i64 0, .slice none 0 0] 31)).alloc (.cells #[.slice a l c, .int .i64 0, .bool false] 73)).alloc (.cells #[.int .i64 0, .int .i64 0, .int .i64 0, .int .i64 0, .string ⟨#[]⟩, .int .i64 0, .slice none 0 0, .int .i64 0, .int .i64 0, .int .i64 0, .slice none 0 0] 31) := ⟨_, rfl⟩
  rw [← hV] at H0
  have HV := hide hV
  have HSA := hide hs
  clear hV e0 e1 e2 hs
  go_enter Try.func18, Try.ntmps18
  go_upto_region 36 with (first
    | (go_at_call 32; ((rw [← HV.out]; (with_reducible refine (K0.out V H0.out).mono ?_)); rintro e w0 ⟨rfl, h0⟩; have kc0 := (h0.box.2 0 (by simp [Nc])).1; have kf0 := (h0.box.2 0 (by simp [Nc])).2; have HS0 := hide (h0.put0 9); clear h0))
    | (go_at_call 32; ((with_reducible refine (K1.out _ _ _ _ _ HS0.out).mono ?_); rintro e w1 ⟨rfl, h1⟩; have kc1 := (h1.box.2 1 (by simp [Nc])).1; have kf1 := (h1.box.2 1 (by simp [Nc])).2; have HS1 := hide (h1.put1 x1); clear h1))
    | (go_at_call 33; ((with_reducible refine (K2.out _ _ _ _ _ HS1.out).mono ?_); rintro e w2 ⟨ta2, tm2, tc2, rfl, hcv2, h2⟩; have kc2 := (h2.box.2 4 (by simp [Nc])).1; have kf2 := (h2.box.2 4 (by simp [Nc])).2; have HS2 := hide (h2.put4 x2 hbt2.1 hbt2.2); clear h2)))
  obtain ⟨av9, mv9, HT⟩ : ∃ av9 mv9, Hid (RS w (w2.setCell ⟨w.heap.size + 2, 4, none⟩ (.string (bstr x2))) a l c bs r2 b2 ⟨9, x1, 0, 0, x2, 0, [], 0, 0, 0, []⟩ (bstr x2) av9 mv9) := ⟨(.slice none 0 0), (.slice none 0 0), HS2⟩
  generalize w2.setCell ⟨w.heap.size + 2, 4, none⟩ (.string (bstr x2)) = X at HT ⊢
  obtain ⟨n, hnn⟩ : ∃ n : No, n = ⟨9, x1, 0, 0, x2, 0, [], 0, 0, 0, []⟩ := ⟨_, rfl⟩
  rw [← hnn] at HT HRN
  clear hnn
  obtain ⟨s9, hs9⟩ : ∃ s9 : ByteArray, s9 = (bstr x2) := ⟨_, rfl⟩
  rw [← hs9] at HT
  clear hs9
  have HIN := hide (rdNote_in bs)
  rw [HRN.out] at HIN
  have hNM9 := HT.out.nm
  obtain ⟨-, -, -, -, ⟨aa, al, ac, rfl, -⟩, ⟨ma, ml, mc, rfl, -⟩⟩ := hNM9
  have HNM := hide HT.out.nm
  have HNM3 := hide (HT.out.nm3)
  obtain ⟨k0, k1, k2, k3, k4, k5, k6, k7, k8, k9, k10⟩ := (show BoxL X (w.heap.size + 2) [.int .i64 n.kind, .int .i64 n.node, .int .i64 n.life, .int .i64 n.epoch, .string s9, .int .i64 n.func, .slice aa al ac, .int .i64 n.err, .int .i64 n.val, .int .i64 n.vep, .slice ma ml mc] from HT.out.box).c11
  by_cases hm : mayN (clearN n) = true
  · have C12 := hide (rpackQ n s9 _ _ _ X HNM.out HIN.out hm)
    simp only [Nv] at C12
    unfold RP at C12
    have hBy := nm_byt HNM.out HIN.out
    have HE1 := hide (bstr_eq hBy HSA.out.byt)
    cases hbb : b2 with
    | true =>
      have HNO := hide (okR_no HRN.out (.inl hbb))
      go_upto_region 37 with (go_at_call 12; go_must ((with_reducible refine C12.out.mono ?_); rintro e w5 ⟨a5, m5, c5, rfl, hm5, -, -, hr5, hb5⟩))
      have HR5 := hide (HT.out.res.below hb5)
      have HN5 := hide ((show BoxL X (w.heap.size + 2) [.int .i64 n.kind, .int .i64 n.node, .int .i64 n.life, .int .i64 n.epoch, .string s9, .int .i64 n.func, .slice aa al ac, .int .i64 n.err, .int .i64 n.val, .int .i64 n.vep, .slice ma ml mc] from HT.out.box).below hb5)
      have HL5 := hide (HT.out.low.trans (hb5.mono HT.out.low.size))
      have HM5 := hide (HNM3.out.below hb5)
      have kb := keep_cell HT.out.cur.bad hb5
      clear k0 k1 k2 k3 k4 k5 k6 k7 k8 k9 k10
      rw [hbb] at kb
      clear hbb
      obtain ⟨q0, q1, q2, q3, q4, q5, q6, q7, q8, q9, q10⟩ := HR5.out.c11
      obtain ⟨v0, v1, v2, v3, v4, v5, v6, v7, v8, v9, v10⟩ := HR5.out.f11
      go_wp2
      have HX7 := hide (put11_box HR5.out (.int .i64 0) (.int .i64 0) (.int .i64 0) (.int .i64 0) (.string ⟨#[]⟩) (.int .i64 0) (.slice none 0 0) (.int .i64 0) (.int .i64 0) (.int .i64 0) (.slice none 0 0))
      have HB7 := hide (put11_below (g := w.heap.size) HL5.out (Nat.le_refl _) (.int .i64 0) (.int .i64 0) (.int .i64 0) (.int .i64 0) (.string ⟨#[]⟩) (.int .i64 0) (.slice none 0 0) (.int .i64 0) (.int .i64 0) (.int .i64 0) (.slice none 0 0))
      obtain ⟨Y, hY⟩ : ∃ Y, Y = put11 w5 w.heap.size (.int .i64 0) (.int .i64 0) (.int .i64 0) (.int .i64 0) (.string ⟨#[]⟩) (.int .i64 0) (.slice none 0 0) (.int .i64 0) (.int .i64 0) (.int .i64 0) (.slice none 0 0) := ⟨_, rfl⟩
      rw [← hY] at HX7 HB7
      unfold put11 at hY
      rw [← hY]
      clear hY
      obtain ⟨x0, x1, x2, x3, x4, x5, x6, x7, x8, x9, x10⟩ := HX7.out.c11
      refine bodyPost_ret (v := .tuple #[.agg #[.int .i64 0, .int .i64 0, .int .i64 0, .int .i64 0, .string ⟨#[]⟩, .int .i64 0, .slice none 0 0, .int .i64 0, .int .i64 0, .int .i64 0, .slice none 0 0], .int .i64 4]) (by simp [results, Try.results18, go_sem, x0, x1, x2, x3, x4, x5, x6, x7, x8, x9, x10]) rfl ?_
      unfold RNPost
      rw [HNO.out]
      exact ⟨rfl, HB7.out⟩
    | false =>
      by_cases he : encN (clearN n) = bs
      · have HYES := hide (okR_yes (by rw [HRN.out, hbb]) hm he)
        rw [decide_eq_true he] at HE1
        go_upto_region 37 with (go_at_call 12; go_must ((with_reducible refine C12.out.mono ?_); rintro e w5 ⟨a5, m5, c5, rfl, hm5, -, -, hr5, hb5⟩))
        have HR5 := hide (HT.out.res.below hb5)
        have HN5 := hide ((show BoxL X (w.heap.size + 2) [.int .i64 n.kind, .int .i64 n.node, .int .i64 n.life, .int .i64 n.epoch, .string s9, .int .i64 n.func, .slice aa al ac, .int .i64 n.err, .int .i64 n.val, .int .i64 n.vep, .slice ma ml mc] from HT.out.box).below hb5)
        have HL5 := hide (HT.out.low.trans (hb5.mono HT.out.low.size))
        have HM5 := hide (HNM3.out.below hb5)
        have kb := keep_cell HT.out.cur.bad hb5
        clear k0 k1 k2 k3 k4 k5 k6 k7 k8 k9 k10
        rw [hbb] at kb
        clear hbb
        have kcw := run_str (S := bstr (encN (clearN n))) rfl hm5.out hr5.out c5
        have kcb := run_str (S := bstr bs) rfl HSA.out.len (HSA.out.reads.below HL5.out) c
        generalize bstr (encN (clearN n)) = S1 at kcw HE1
        generalize bstr bs = S2 at kcb HE1
        have hE1 := HE1.out
        obtain ⟨q0, q1, q2, q3, q4, q5, q6, q7, q8, q9, q10⟩ := HR5.out.c11
        obtain ⟨v0, v1, v2, v3, v4, v5, v6, v7, v8, v9, v10⟩ := HR5.out.f11
        obtain ⟨g0, g1, g2, g3, g4, g5, g6, g7, g8, g9, g10⟩ := HN5.out.c11
        go_wp2
        have HX7 := hide (put11_box HR5.out (.int .i64 n.kind) (.int .i64 n.node) (.int .i64 n.life) (.int .i64 n.epoch) (.string s9) (.int .i64 n.func) (.slice aa al ac) (.int .i64 n.err) (.int .i64 n.val) (.int .i64 n.vep) (.slice ma ml mc))
        have HB7 := hide (put11_below (g := w.heap.size) HL5.out (Nat.le_refl _) (.int .i64 n.kind) (.int .i64 n.node) (.int .i64 n.life) (.int .i64 n.epoch) (.string s9) (.int .i64 n.func) (.slice aa al ac) (.int .i64 n.err) (.int .i64 n.val) (.int .i64 n.vep) (.slice ma ml mc))
        have HM7 := hide (HM5.out.keep (w' := put11 w5 w.heap.size (.int .i64 n.kind) (.int .i64 n.node) (.int .i64 n.life) (.int .i64 n.epoch) (.string s9) (.int .i64 n.func) (.slice aa al ac) (.int .i64 n.err) (.int .i64 n.val) (.int .i64 n.vep) (.slice ma ml mc)) (fun k h1 _ => put11_keep (by omega) (.int .i64 n.kind) (.int .i64 n.node) (.int .i64 n.life) (.int .i64 n.epoch) (.string s9) (.int .i64 n.func) (.slice aa al ac) (.int .i64 n.err) (.int .i64 n.val) (.int .i64 n.vep) (.slice ma ml mc)))
        obtain ⟨Y, hY⟩ : ∃ Y, Y = put11 w5 w.heap.size (.int .i64 n.kind) (.int .i64 n.node) (.int .i64 n.life) (.int .i64 n.epoch) (.string s9) (.int .i64 n.func) (.slice aa al ac) (.int .i64 n.err) (.int .i64 n.val) (.int .i64 n.vep) (.slice ma ml mc) := ⟨_, rfl⟩
        rw [← hY] at HX7 HB7 HM7
        unfold put11 at hY
        rw [← hY]
        clear hY
        obtain ⟨x0, x1, x2, x3, x4, x5, x6, x7, x8, x9, x10⟩ := HX7.out.c11
        refine bodyPost_ret (v := .tuple #[.agg #[.int .i64 n.kind, .int .i64 n.node, .int .i64 n.life, .int .i64 n.epoch, .string s9, .int .i64 n.func, .slice aa al ac, .int .i64 n.err, .int .i64 n.val, .int .i64 n.vep, .slice ma ml mc], .int .i64 0]) (by simp [results, Try.results18, go_sem, x0, x1, x2, x3, x4, x5, x6, x7, x8, x9, x10]) rfl ?_
        unfold RNPost
        rw [HYES.out, if_pos rfl, HRN.out]
        exact ⟨s9, .slice aa al ac, .slice ma ml mc, rfl, HM7.out.mono (by omega), HB7.out⟩
      · have HNO := hide (okR_no HRN.out (.inr (.inr he)))
        rw [decide_eq_false he] at HE1
        go_upto_region 37 with (go_at_call 12; go_must ((with_reducible refine C12.out.mono ?_); rintro e w5 ⟨a5, m5, c5, rfl, hm5, -, -, hr5, hb5⟩))
        have HR5 := hide (HT.out.res.below hb5)
        have HN5 := hide ((show BoxL X (w.heap.size + 2) [.int .i64 n.kind, .int .i64 n.node, .int .i64 n.life, .int .i64 n.epoch, .string s9, .int .i64 n.func, .slice aa al ac, .int .i64 n.err, .int .i64 n.val, .int .i64 n.vep, .slice ma ml mc] from HT.out.box).below hb5)
        have HL5 := hide (HT.out.low.trans (hb5.mono HT.out.low.size))
        have HM5 := hide (HNM3.out.below hb5)
        have kb := keep_cell HT.out.cur.bad hb5
        clear k0 k1 k2 k3 k4 k5 k6 k7 k8 k9 k10
        rw [hbb] at kb
        clear hbb
        have kcw := run_str (S := bstr (encN (clearN n))) rfl hm5.out hr5.out c5
        have kcb := run_str (S := bstr bs) rfl HSA.out.len (HSA.out.reads.below HL5.out) c
        generalize bstr (encN (clearN n)) = S1 at kcw HE1
        generalize bstr bs = S2 at kcb HE1
        have hE1 := HE1.out
        obtain ⟨q0, q1, q2, q3, q4, q5, q6, q7, q8, q9, q10⟩ := HR5.out.c11
        obtain ⟨v0, v1, v2, v3, v4, v5, v6, v7, v8, v9, v10⟩ := HR5.out.f11
        go_wp2
        have HX7 := hide (put11_box HR5.out (.int .i64 0) (.int .i64 0) (.int .i64 0) (.int .i64 0) (.string ⟨#[]⟩) (.int .i64 0) (.slice none 0 0) (.int .i64 0) (.int .i64 0) (.int .i64 0) (.slice none 0 0))
        have HB7 := hide (put11_below (g := w.heap.size) HL5.out (Nat.le_refl _) (.int .i64 0) (.int .i64 0) (.int .i64 0) (.int .i64 0) (.string ⟨#[]⟩) (.int .i64 0) (.slice none 0 0) (.int .i64 0) (.int .i64 0) (.int .i64 0) (.slice none 0 0))
        obtain ⟨Y, hY⟩ : ∃ Y, Y = put11 w5 w.heap.size (.int .i64 0) (.int .i64 0) (.int .i64 0) (.int .i64 0) (.string ⟨#[]⟩) (.int .i64 0) (.slice none 0 0) (.int .i64 0) (.int .i64 0) (.int .i64 0) (.slice none 0 0) := ⟨_, rfl⟩
        rw [← hY] at HX7 HB7
        unfold put11 at hY
        rw [← hY]
        clear hY
        obtain ⟨x0, x1, x2, x3, x4, x5, x6, x7, x8, x9, x10⟩ := HX7.out.c11
        refine bodyPost_ret (v := .tuple #[.agg #[.int .i64 0, .int .i64 0, .int .i64 0, .int .i64 0, .string ⟨#[]⟩, .int .i64 0, .slice none 0 0, .int .i64 0, .int .i64 0, .int .i64 0, .slice none 0 0], .int .i64 4]) (by simp [results, Try.results18, go_sem, x0, x1, x2, x3, x4, x5, x6, x7, x8, x9, x10]) rfl ?_
        unfold RNPost
        rw [HNO.out]
        exact ⟨rfl, HB7.out⟩
  · have HNO := hide (okR_no HRN.out (.inr (.inl (by simpa using hm))))
    have C12 := hide (rpackN n s9 _ _ _ X HNM.out HIN.out (by simpa using hm))
    simp only [Nv] at C12
    go_upto_region 37 with (go_at_call 12; go_must ((with_reducible refine C12.out.mono ?_); rintro e w5 ⟨rfl, hb5⟩))
    have HR5 := hide (HT.out.res.below hb5)
    have HN5 := hide ((show BoxL X (w.heap.size + 2) [.int .i64 n.kind, .int .i64 n.node, .int .i64 n.life, .int .i64 n.epoch, .string s9, .int .i64 n.func, .slice aa al ac, .int .i64 n.err, .int .i64 n.val, .int .i64 n.vep, .slice ma ml mc] from HT.out.box).below hb5)
    have HL5 := hide (HT.out.low.trans (hb5.mono HT.out.low.size))
    have HM5 := hide (HNM3.out.below hb5)
    have kb := keep_cell HT.out.cur.bad hb5
    clear k0 k1 k2 k3 k4 k5 k6 k7 k8 k9 k10
    cases hbb : b2 with
    | true =>
      rw [hbb] at kb
      clear hbb
      obtain ⟨q0, q1, q2, q3, q4, q5, q6, q7, q8, q9, q10⟩ := HR5.out.c11
      obtain ⟨v0, v1, v2, v3, v4, v5, v6, v7, v8, v9, v10⟩ := HR5.out.f11
      go_wp2
      have HX7 := hide (put11_box HR5.out (.int .i64 0) (.int .i64 0) (.int .i64 0) (.int .i64 0) (.string ⟨#[]⟩) (.int .i64 0) (.slice none 0 0) (.int .i64 0) (.int .i64 0) (.int .i64 0) (.slice none 0 0))
      have HB7 := hide (put11_below (g := w.heap.size) HL5.out (Nat.le_refl _) (.int .i64 0) (.int .i64 0) (.int .i64 0) (.int .i64 0) (.string ⟨#[]⟩) (.int .i64 0) (.slice none 0 0) (.int .i64 0) (.int .i64 0) (.int .i64 0) (.slice none 0 0))
      obtain ⟨Y, hY⟩ : ∃ Y, Y = put11 w5 w.heap.size (.int .i64 0) (.int .i64 0) (.int .i64 0) (.int .i64 0) (.string ⟨#[]⟩) (.int .i64 0) (.slice none 0 0) (.int .i64 0) (.int .i64 0) (.int .i64 0) (.slice none 0 0) := ⟨_, rfl⟩
      rw [← hY] at HX7 HB7
      unfold put11 at hY
      rw [← hY]
      clear hY
      obtain ⟨x0, x1, x2, x3, x4, x5, x6, x7, x8, x9, x10⟩ := HX7.out.c11
      refine bodyPost_ret (v := .tuple #[.agg #[.int .i64 0, .int .i64 0, .int .i64 0, .int .i64 0, .string ⟨#[]⟩, .int .i64 0, .slice none 0 0, .int .i64 0, .int .i64 0, .int .i64 0, .slice none 0 0], .int .i64 4]) (by simp [results, Try.results18, go_sem, x0, x1, x2, x3, x4, x5, x6, x7, x8, x9, x10]) rfl ?_
      unfold RNPost
      rw [HNO.out]
      exact ⟨rfl, HB7.out⟩
    | false =>
      rw [hbb] at kb
      clear hbb
      obtain ⟨q0, q1, q2, q3, q4, q5, q6, q7, q8, q9, q10⟩ := HR5.out.c11
      obtain ⟨v0, v1, v2, v3, v4, v5, v6, v7, v8, v9, v10⟩ := HR5.out.f11
      go_wp2
      have HX7 := hide (put11_box HR5.out (.int .i64 0) (.int .i64 0) (.int .i64 0) (.int .i64 0) (.string ⟨#[]⟩) (.int .i64 0) (.slice none 0 0) (.int .i64 0) (.int .i64 0) (.int .i64 0) (.slice none 0 0))
      have HB7 := hide (put11_below (g := w.heap.size) HL5.out (Nat.le_refl _) (.int .i64 0) (.int .i64 0) (.int .i64 0) (.int .i64 0) (.string ⟨#[]⟩) (.int .i64 0) (.slice none 0 0) (.int .i64 0) (.int .i64 0) (.int .i64 0) (.slice none 0 0))
      obtain ⟨Y, hY⟩ : ∃ Y, Y = put11 w5 w.heap.size (.int .i64 0) (.int .i64 0) (.int .i64 0) (.int .i64 0) (.string ⟨#[]⟩) (.int .i64 0) (.slice none 0 0) (.int .i64 0) (.int .i64 0) (.int .i64 0) (.slice none 0 0) := ⟨_, rfl⟩
      rw [← hY] at HX7 HB7
      unfold put11 at hY
      rw [← hY]
      clear hY
      obtain ⟨x0, x1, x2, x3, x4, x5, x6, x7, x8, x9, x10⟩ := HX7.out.c11
      refine bodyPost_ret (v := .tuple #[.agg #[.int .i64 0, .int .i64 0, .int .i64 0, .int .i64 0, .string ⟨#[]⟩, .int .i64 0, .slice none 0 0, .int .i64 0, .int .i64 0, .int .i64 0, .slice none 0 0], .int .i64 4]) (by simp [results, Try.results18, go_sem, x0, x1, x2, x3, x4, x5, x6, x7, x8, x9, x10]) rfl ?_
      unfold RNPost
      rw [HNO.out]
      exact ⟨rfl, HB7.out⟩


set_option maxRecDepth 100000 in
set_option maxHeartbeats 16000000 in
theorem rn_5 (a : Option Addr) (l c : Nat) (bs : List Nat) (w : World) (hs : SrcA w a l c bs) (r0 : List Nat) (b0 : Bool) (e0 : rdInt bs false = (5, r0, b0)) : Calls Try.prog 18 #[.slice a l c] w (RNPost bs w) := by
  have hy0 : Byt r0 ∧ r0.length ≤ 20000 := ⟨rdInt_byt hs.byt e0, by have h1 := rdInt_len bs false; rw [e0] at h1; simp only at h1; have h2 := hs.len; have h3 := hs.few; omega⟩
  obtain ⟨⟨x1, r1, b1⟩, e1⟩ : ∃ z, rdInt r0 b0 = z := ⟨_, rfl⟩
  have hy1 : Byt r1 ∧ r1.length ≤ 20000 := ⟨rdInt_byt hy0.1 e1, by have h1 := rdInt_len r0 b0; rw [e1] at h1; simp only at h1; have h2 := hy0.2; omega⟩
  obtain ⟨⟨x2, r2, b2⟩, e2⟩ : ∃ z, rdInt r1 b1 = z := ⟨_, rfl⟩
  have hy2 : Byt r2 ∧ r2.length ≤ 20000 := ⟨rdInt_byt hy1.1 e2, by have h1 := rdInt_len r1 b1; rw [e2] at h1; simp only at h1; have h2 := hy1.2; omega⟩
  obtain ⟨⟨x3, r3, b3⟩, e3⟩ : ∃ z, rdInt r2 b2 = z := ⟨_, rfl⟩
  have hy3 : Byt r3 ∧ r3.length ≤ 20000 := ⟨rdInt_byt hy2.1 e3, by have h1 := rdInt_len r2 b2; rw [e3] at h1; simp only at h1; have h2 := hy2.2; omega⟩
  have hbl4 := rdBytes_len r3 b3
  obtain ⟨⟨x4, r4, b4⟩, e4⟩ : ∃ z, rdBytes r3 b3 = z := ⟨_, rfl⟩
  rw [e4] at hbl4
  have hbt4 : Byt x4 ∧ x4.length ≤ 20000 := ⟨rdBytes_byt hy3.1 e4, by have h2 := hy3.2; simp only at hbl4; omega⟩
  clear hbl4
  have hy4 : Byt r4 ∧ r4.length ≤ 20000 := rdBytes_rest hy3.1 hy3.2 e4
  have HRN := hide (show rdNote 20 bs = (⟨5, x3, x2, x1, x4, 0, [], 0, 0, 0, []⟩, r4, b4) by
    simp [rdNote, hasView, hasEpoch, hasLife, hasNode, hasId, hasRes, hasFunc, rdI, rdB, rdMem, rdMany, e0, e1, e2, e3, e4])
  have K0 := hide (fun W (h : RS w W a l c bs bs false no0 ⟨#[]⟩ (.slice none 0 0) (.slice none 0 0)) => h.int hs)
  simp only [e0] at K0
  have K1 := hide (fun W n s av mv (h : RS w W a l c bs r0 b0 n s av mv) => h.int hs)
  simp only [e1] at K1
  have K2 := hide (fun W n s av mv (h : RS w W a l c bs r1 b1 n s av mv) => h.int hs)
  simp only [e2] at K2
  have K3 := hide (fun W n s av mv (h : RS w W a l c bs r2 b2 n s av mv) => h.int hs)
  simp only [e3] at K3
  have K4 := hide (fun W n s av mv (h : RS w W a l c bs r3 b3 n s av mv) => h.bytes hs)
  simp only [e4] at K4
  have H0 := hide (rs_start (w := w) (a := a) (l := l) (c := c) (bs := bs))
  obtain ⟨V, hV⟩ : ∃ V, V = ((w.alloc (.cells #[.int .i64 0, .int .i64 0, .int .i64 0, .int .i64 0, .string ⟨#[]⟩, .int .i64 0, .slice none 0 0, .int .i64 0, .int .i64 0, .int .i64 0, .slice none 0 0] 31)).alloc (.cells #[.slice a l c, .int .i64 0, .bool false] 73)).alloc (.cells #[.int .i64 0, .int .i64 0, .int .i64 0, .int .i64 0, .string ⟨#[]⟩, .int .i64 0, .slice none 0 0, .int .i64 0, .int .i64 0, .int .i64 0, .slice none 0 0] 31) := ⟨_, rfl⟩
  rw [← hV] at H0
  have HV := hide hV
  have HSA := hide hs
  clear hV e0 e1 e2 e3 e4 hs
  go_enter Try.func18, Try.ntmps18
  go_upto_region 36 with (first
    | (go_at_call 32; ((rw [← HV.out]; (with_reducible refine (K0.out V H0.out).mono ?_)); rintro e w0 ⟨rfl, h0⟩; have kc0 := (h0.box.2 0 (by simp [Nc])).1; have kf0 := (h0.box.2 0 (by simp [Nc])).2; have HS0 := hide (h0.put0 5); clear h0))
    | (go_at_call 32; ((with_reducible refine (K1.out _ _ _ _ _ HS0.out).mono ?_); rintro e w1 ⟨rfl, h1⟩; have kc1 := (h1.box.2 3 (by simp [Nc])).1; have kf1 := (h1.box.2 3 (by simp [Nc])).2; have HS1 := hide (h1.put3 x1); clear h1))
    | (go_at_call 32; ((with_reducible refine (K2.out _ _ _ _ _ HS1.out).mono ?_); rintro e w2 ⟨rfl, h2⟩; have kc2 := (h2.box.2 2 (by simp [Nc])).1; have kf2 := (h2.box.2 2 (by simp [Nc])).2; have HS2 := hide (h2.put2 x2); clear h2))
    | (go_at_call 32; ((with_reducible refine (K3.out _ _ _ _ _ HS2.out).mono ?_); rintro e w3 ⟨rfl, h3⟩; have kc3 := (h3.box.2 1 (by simp [Nc])).1; have kf3 := (h3.box.2 1 (by simp [Nc])).2; have HS3 := hide (h3.put1 x3); clear h3))
    | (go_at_call 33; ((with_reducible refine (K4.out _ _ _ _ _ HS3.out).mono ?_); rintro e w4 ⟨ta4, tm4, tc4, rfl, hcv4, h4⟩; have kc4 := (h4.box.2 4 (by simp [Nc])).1; have kf4 := (h4.box.2 4 (by simp [Nc])).2; have HS4 := hide (h4.put4 x4 hbt4.1 hbt4.2); clear h4)))
  obtain ⟨av9, mv9, HT⟩ : ∃ av9 mv9, Hid (RS w (w4.setCell ⟨w.heap.size + 2, 4, none⟩ (.string (bstr x4))) a l c bs r4 b4 ⟨5, x3, x2, x1, x4, 0, [], 0, 0, 0, []⟩ (bstr x4) av9 mv9) := ⟨(.slice none 0 0), (.slice none 0 0), HS4⟩
  generalize w4.setCell ⟨w.heap.size + 2, 4, none⟩ (.string (bstr x4)) = X at HT ⊢
  obtain ⟨n, hnn⟩ : ∃ n : No, n = ⟨5, x3, x2, x1, x4, 0, [], 0, 0, 0, []⟩ := ⟨_, rfl⟩
  rw [← hnn] at HT HRN
  clear hnn
  obtain ⟨s9, hs9⟩ : ∃ s9 : ByteArray, s9 = (bstr x4) := ⟨_, rfl⟩
  rw [← hs9] at HT
  clear hs9
  have HIN := hide (rdNote_in bs)
  rw [HRN.out] at HIN
  have hNM9 := HT.out.nm
  obtain ⟨-, -, -, -, ⟨aa, al, ac, rfl, -⟩, ⟨ma, ml, mc, rfl, -⟩⟩ := hNM9
  have HNM := hide HT.out.nm
  have HNM3 := hide (HT.out.nm3)
  obtain ⟨k0, k1, k2, k3, k4, k5, k6, k7, k8, k9, k10⟩ := (show BoxL X (w.heap.size + 2) [.int .i64 n.kind, .int .i64 n.node, .int .i64 n.life, .int .i64 n.epoch, .string s9, .int .i64 n.func, .slice aa al ac, .int .i64 n.err, .int .i64 n.val, .int .i64 n.vep, .slice ma ml mc] from HT.out.box).c11
  by_cases hm : mayN (clearN n) = true
  · have C12 := hide (rpackQ n s9 _ _ _ X HNM.out HIN.out hm)
    simp only [Nv] at C12
    unfold RP at C12
    have hBy := nm_byt HNM.out HIN.out
    have HE1 := hide (bstr_eq hBy HSA.out.byt)
    cases hbb : b4 with
    | true =>
      have HNO := hide (okR_no HRN.out (.inl hbb))
      go_upto_region 37 with (go_at_call 12; go_must ((with_reducible refine C12.out.mono ?_); rintro e w5 ⟨a5, m5, c5, rfl, hm5, -, -, hr5, hb5⟩))
      have HR5 := hide (HT.out.res.below hb5)
      have HN5 := hide ((show BoxL X (w.heap.size + 2) [.int .i64 n.kind, .int .i64 n.node, .int .i64 n.life, .int .i64 n.epoch, .string s9, .int .i64 n.func, .slice aa al ac, .int .i64 n.err, .int .i64 n.val, .int .i64 n.vep, .slice ma ml mc] from HT.out.box).below hb5)
      have HL5 := hide (HT.out.low.trans (hb5.mono HT.out.low.size))
      have HM5 := hide (HNM3.out.below hb5)
      have kb := keep_cell HT.out.cur.bad hb5
      clear k0 k1 k2 k3 k4 k5 k6 k7 k8 k9 k10
      rw [hbb] at kb
      clear hbb
      obtain ⟨q0, q1, q2, q3, q4, q5, q6, q7, q8, q9, q10⟩ := HR5.out.c11
      obtain ⟨v0, v1, v2, v3, v4, v5, v6, v7, v8, v9, v10⟩ := HR5.out.f11
      go_wp2
      have HX7 := hide (put11_box HR5.out (.int .i64 0) (.int .i64 0) (.int .i64 0) (.int .i64 0) (.string ⟨#[]⟩) (.int .i64 0) (.slice none 0 0) (.int .i64 0) (.int .i64 0) (.int .i64 0) (.slice none 0 0))
      have HB7 := hide (put11_below (g := w.heap.size) HL5.out (Nat.le_refl _) (.int .i64 0) (.int .i64 0) (.int .i64 0) (.int .i64 0) (.string ⟨#[]⟩) (.int .i64 0) (.slice none 0 0) (.int .i64 0) (.int .i64 0) (.int .i64 0) (.slice none 0 0))
      obtain ⟨Y, hY⟩ : ∃ Y, Y = put11 w5 w.heap.size (.int .i64 0) (.int .i64 0) (.int .i64 0) (.int .i64 0) (.string ⟨#[]⟩) (.int .i64 0) (.slice none 0 0) (.int .i64 0) (.int .i64 0) (.int .i64 0) (.slice none 0 0) := ⟨_, rfl⟩
      rw [← hY] at HX7 HB7
      unfold put11 at hY
      rw [← hY]
      clear hY
      obtain ⟨x0, x1, x2, x3, x4, x5, x6, x7, x8, x9, x10⟩ := HX7.out.c11
      refine bodyPost_ret (v := .tuple #[.agg #[.int .i64 0, .int .i64 0, .int .i64 0, .int .i64 0, .string ⟨#[]⟩, .int .i64 0, .slice none 0 0, .int .i64 0, .int .i64 0, .int .i64 0, .slice none 0 0], .int .i64 4]) (by simp [results, Try.results18, go_sem, x0, x1, x2, x3, x4, x5, x6, x7, x8, x9, x10]) rfl ?_
      unfold RNPost
      rw [HNO.out]
      exact ⟨rfl, HB7.out⟩
    | false =>
      by_cases he : encN (clearN n) = bs
      · have HYES := hide (okR_yes (by rw [HRN.out, hbb]) hm he)
        rw [decide_eq_true he] at HE1
        go_upto_region 37 with (go_at_call 12; go_must ((with_reducible refine C12.out.mono ?_); rintro e w5 ⟨a5, m5, c5, rfl, hm5, -, -, hr5, hb5⟩))
        have HR5 := hide (HT.out.res.below hb5)
        have HN5 := hide ((show BoxL X (w.heap.size + 2) [.int .i64 n.kind, .int .i64 n.node, .int .i64 n.life, .int .i64 n.epoch, .string s9, .int .i64 n.func, .slice aa al ac, .int .i64 n.err, .int .i64 n.val, .int .i64 n.vep, .slice ma ml mc] from HT.out.box).below hb5)
        have HL5 := hide (HT.out.low.trans (hb5.mono HT.out.low.size))
        have HM5 := hide (HNM3.out.below hb5)
        have kb := keep_cell HT.out.cur.bad hb5
        clear k0 k1 k2 k3 k4 k5 k6 k7 k8 k9 k10
        rw [hbb] at kb
        clear hbb
        have kcw := run_str (S := bstr (encN (clearN n))) rfl hm5.out hr5.out c5
        have kcb := run_str (S := bstr bs) rfl HSA.out.len (HSA.out.reads.below HL5.out) c
        generalize bstr (encN (clearN n)) = S1 at kcw HE1
        generalize bstr bs = S2 at kcb HE1
        have hE1 := HE1.out
        obtain ⟨q0, q1, q2, q3, q4, q5, q6, q7, q8, q9, q10⟩ := HR5.out.c11
        obtain ⟨v0, v1, v2, v3, v4, v5, v6, v7, v8, v9, v10⟩ := HR5.out.f11
        obtain ⟨g0, g1, g2, g3, g4, g5, g6, g7, g8, g9, g10⟩ := HN5.out.c11
        go_wp2
        have HX7 := hide (put11_box HR5.out (.int .i64 n.kind) (.int .i64 n.node) (.int .i64 n.life) (.int .i64 n.epoch) (.string s9) (.int .i64 n.func) (.slice aa al ac) (.int .i64 n.err) (.int .i64 n.val) (.int .i64 n.vep) (.slice ma ml mc))
        have HB7 := hide (put11_below (g := w.heap.size) HL5.out (Nat.le_refl _) (.int .i64 n.kind) (.int .i64 n.node) (.int .i64 n.life) (.int .i64 n.epoch) (.string s9) (.int .i64 n.func) (.slice aa al ac) (.int .i64 n.err) (.int .i64 n.val) (.int .i64 n.vep) (.slice ma ml mc))
        have HM7 := hide (HM5.out.keep (w' := put11 w5 w.heap.size (.int .i64 n.kind) (.int .i64 n.node) (.int .i64 n.life) (.int .i64 n.epoch) (.string s9) (.int .i64 n.func) (.slice aa al ac) (.int .i64 n.err) (.int .i64 n.val) (.int .i64 n.vep) (.slice ma ml mc)) (fun k h1 _ => put11_keep (by omega) (.int .i64 n.kind) (.int .i64 n.node) (.int .i64 n.life) (.int .i64 n.epoch) (.string s9) (.int .i64 n.func) (.slice aa al ac) (.int .i64 n.err) (.int .i64 n.val) (.int .i64 n.vep) (.slice ma ml mc)))
        obtain ⟨Y, hY⟩ : ∃ Y, Y = put11 w5 w.heap.size (.int .i64 n.kind) (.int .i64 n.node) (.int .i64 n.life) (.int .i64 n.epoch) (.string s9) (.int .i64 n.func) (.slice aa al ac) (.int .i64 n.err) (.int .i64 n.val) (.int .i64 n.vep) (.slice ma ml mc) := ⟨_, rfl⟩
        rw [← hY] at HX7 HB7 HM7
        unfold put11 at hY
        rw [← hY]
        clear hY
        obtain ⟨x0, x1, x2, x3, x4, x5, x6, x7, x8, x9, x10⟩ := HX7.out.c11
        refine bodyPost_ret (v := .tuple #[.agg #[.int .i64 n.kind, .int .i64 n.node, .int .i64 n.life, .int .i64 n.epoch, .string s9, .int .i64 n.func, .slice aa al ac, .int .i64 n.err, .int .i64 n.val, .int .i64 n.vep, .slice ma ml mc], .int .i64 0]) (by simp [results, Try.results18, go_sem, x0, x1, x2, x3, x4, x5, x6, x7, x8, x9, x10]) rfl ?_
        unfold RNPost
        rw [HYES.out, if_pos rfl, HRN.out]
        exact ⟨s9, .slice aa al ac, .slice ma ml mc, rfl, HM7.out.mono (by omega), HB7.out⟩
      · have HNO := hide (okR_no HRN.out (.inr (.inr he)))
        rw [decide_eq_false he] at HE1
        go_upto_region 37 with (go_at_call 12; go_must ((with_reducible refine C12.out.mono ?_); rintro e w5 ⟨a5, m5, c5, rfl, hm5, -, -, hr5, hb5⟩))
        have HR5 := hide (HT.out.res.below hb5)
        have HN5 := hide ((show BoxL X (w.heap.size + 2) [.int .i64 n.kind, .int .i64 n.node, .int .i64 n.life, .int .i64 n.epoch, .string s9, .int .i64 n.func, .slice aa al ac, .int .i64 n.err, .int .i64 n.val, .int .i64 n.vep, .slice ma ml mc] from HT.out.box).below hb5)
        have HL5 := hide (HT.out.low.trans (hb5.mono HT.out.low.size))
        have HM5 := hide (HNM3.out.below hb5)
        have kb := keep_cell HT.out.cur.bad hb5
        clear k0 k1 k2 k3 k4 k5 k6 k7 k8 k9 k10
        rw [hbb] at kb
        clear hbb
        have kcw := run_str (S := bstr (encN (clearN n))) rfl hm5.out hr5.out c5
        have kcb := run_str (S := bstr bs) rfl HSA.out.len (HSA.out.reads.below HL5.out) c
        generalize bstr (encN (clearN n)) = S1 at kcw HE1
        generalize bstr bs = S2 at kcb HE1
        have hE1 := HE1.out
        obtain ⟨q0, q1, q2, q3, q4, q5, q6, q7, q8, q9, q10⟩ := HR5.out.c11
        obtain ⟨v0, v1, v2, v3, v4, v5, v6, v7, v8, v9, v10⟩ := HR5.out.f11
        go_wp2
        have HX7 := hide (put11_box HR5.out (.int .i64 0) (.int .i64 0) (.int .i64 0) (.int .i64 0) (.string ⟨#[]⟩) (.int .i64 0) (.slice none 0 0) (.int .i64 0) (.int .i64 0) (.int .i64 0) (.slice none 0 0))
        have HB7 := hide (put11_below (g := w.heap.size) HL5.out (Nat.le_refl _) (.int .i64 0) (.int .i64 0) (.int .i64 0) (.int .i64 0) (.string ⟨#[]⟩) (.int .i64 0) (.slice none 0 0) (.int .i64 0) (.int .i64 0) (.int .i64 0) (.slice none 0 0))
        obtain ⟨Y, hY⟩ : ∃ Y, Y = put11 w5 w.heap.size (.int .i64 0) (.int .i64 0) (.int .i64 0) (.int .i64 0) (.string ⟨#[]⟩) (.int .i64 0) (.slice none 0 0) (.int .i64 0) (.int .i64 0) (.int .i64 0) (.slice none 0 0) := ⟨_, rfl⟩
        rw [← hY] at HX7 HB7
        unfold put11 at hY
        rw [← hY]
        clear hY
        obtain ⟨x0, x1, x2, x3, x4, x5, x6, x7, x8, x9, x10⟩ := HX7.out.c11
        refine bodyPost_ret (v := .tuple #[.agg #[.int .i64 0, .int .i64 0, .int .i64 0, .int .i64 0, .string ⟨#[]⟩, .int .i64 0, .slice none 0 0, .int .i64 0, .int .i64 0, .int .i64 0, .slice none 0 0], .int .i64 4]) (by simp [results, Try.results18, go_sem, x0, x1, x2, x3, x4, x5, x6, x7, x8, x9, x10]) rfl ?_
        unfold RNPost
        rw [HNO.out]
        exact ⟨rfl, HB7.out⟩
  · have HNO := hide (okR_no HRN.out (.inr (.inl (by simpa using hm))))
    have C12 := hide (rpackN n s9 _ _ _ X HNM.out HIN.out (by simpa using hm))
    simp only [Nv] at C12
    go_upto_region 37 with (go_at_call 12; go_must ((with_reducible refine C12.out.mono ?_); rintro e w5 ⟨rfl, hb5⟩))
    have HR5 := hide (HT.out.res.below hb5)
    have HN5 := hide ((show BoxL X (w.heap.size + 2) [.int .i64 n.kind, .int .i64 n.node, .int .i64 n.life, .int .i64 n.epoch, .string s9, .int .i64 n.func, .slice aa al ac, .int .i64 n.err, .int .i64 n.val, .int .i64 n.vep, .slice ma ml mc] from HT.out.box).below hb5)
    have HL5 := hide (HT.out.low.trans (hb5.mono HT.out.low.size))
    have HM5 := hide (HNM3.out.below hb5)
    have kb := keep_cell HT.out.cur.bad hb5
    clear k0 k1 k2 k3 k4 k5 k6 k7 k8 k9 k10
    cases hbb : b4 with
    | true =>
      rw [hbb] at kb
      clear hbb
      obtain ⟨q0, q1, q2, q3, q4, q5, q6, q7, q8, q9, q10⟩ := HR5.out.c11
      obtain ⟨v0, v1, v2, v3, v4, v5, v6, v7, v8, v9, v10⟩ := HR5.out.f11
      go_wp2
      have HX7 := hide (put11_box HR5.out (.int .i64 0) (.int .i64 0) (.int .i64 0) (.int .i64 0) (.string ⟨#[]⟩) (.int .i64 0) (.slice none 0 0) (.int .i64 0) (.int .i64 0) (.int .i64 0) (.slice none 0 0))
      have HB7 := hide (put11_below (g := w.heap.size) HL5.out (Nat.le_refl _) (.int .i64 0) (.int .i64 0) (.int .i64 0) (.int .i64 0) (.string ⟨#[]⟩) (.int .i64 0) (.slice none 0 0) (.int .i64 0) (.int .i64 0) (.int .i64 0) (.slice none 0 0))
      obtain ⟨Y, hY⟩ : ∃ Y, Y = put11 w5 w.heap.size (.int .i64 0) (.int .i64 0) (.int .i64 0) (.int .i64 0) (.string ⟨#[]⟩) (.int .i64 0) (.slice none 0 0) (.int .i64 0) (.int .i64 0) (.int .i64 0) (.slice none 0 0) := ⟨_, rfl⟩
      rw [← hY] at HX7 HB7
      unfold put11 at hY
      rw [← hY]
      clear hY
      obtain ⟨x0, x1, x2, x3, x4, x5, x6, x7, x8, x9, x10⟩ := HX7.out.c11
      refine bodyPost_ret (v := .tuple #[.agg #[.int .i64 0, .int .i64 0, .int .i64 0, .int .i64 0, .string ⟨#[]⟩, .int .i64 0, .slice none 0 0, .int .i64 0, .int .i64 0, .int .i64 0, .slice none 0 0], .int .i64 4]) (by simp [results, Try.results18, go_sem, x0, x1, x2, x3, x4, x5, x6, x7, x8, x9, x10]) rfl ?_
      unfold RNPost
      rw [HNO.out]
      exact ⟨rfl, HB7.out⟩
    | false =>
      rw [hbb] at kb
      clear hbb
      obtain ⟨q0, q1, q2, q3, q4, q5, q6, q7, q8, q9, q10⟩ := HR5.out.c11
      obtain ⟨v0, v1, v2, v3, v4, v5, v6, v7, v8, v9, v10⟩ := HR5.out.f11
      go_wp2
      have HX7 := hide (put11_box HR5.out (.int .i64 0) (.int .i64 0) (.int .i64 0) (.int .i64 0) (.string ⟨#[]⟩) (.int .i64 0) (.slice none 0 0) (.int .i64 0) (.int .i64 0) (.int .i64 0) (.slice none 0 0))
      have HB7 := hide (put11_below (g := w.heap.size) HL5.out (Nat.le_refl _) (.int .i64 0) (.int .i64 0) (.int .i64 0) (.int .i64 0) (.string ⟨#[]⟩) (.int .i64 0) (.slice none 0 0) (.int .i64 0) (.int .i64 0) (.int .i64 0) (.slice none 0 0))
      obtain ⟨Y, hY⟩ : ∃ Y, Y = put11 w5 w.heap.size (.int .i64 0) (.int .i64 0) (.int .i64 0) (.int .i64 0) (.string ⟨#[]⟩) (.int .i64 0) (.slice none 0 0) (.int .i64 0) (.int .i64 0) (.int .i64 0) (.slice none 0 0) := ⟨_, rfl⟩
      rw [← hY] at HX7 HB7
      unfold put11 at hY
      rw [← hY]
      clear hY
      obtain ⟨x0, x1, x2, x3, x4, x5, x6, x7, x8, x9, x10⟩ := HX7.out.c11
      refine bodyPost_ret (v := .tuple #[.agg #[.int .i64 0, .int .i64 0, .int .i64 0, .int .i64 0, .string ⟨#[]⟩, .int .i64 0, .slice none 0 0, .int .i64 0, .int .i64 0, .int .i64 0, .slice none 0 0], .int .i64 4]) (by simp [results, Try.results18, go_sem, x0, x1, x2, x3, x4, x5, x6, x7, x8, x9, x10]) rfl ?_
      unfold RNPost
      rw [HNO.out]
      exact ⟨rfl, HB7.out⟩

set_option maxRecDepth 100000 in
set_option maxHeartbeats 16000000 in
theorem rn_6 (a : Option Addr) (l c : Nat) (bs : List Nat) (w : World) (hs : SrcA w a l c bs) (r0 : List Nat) (b0 : Bool) (e0 : rdInt bs false = (6, r0, b0)) : Calls Try.prog 18 #[.slice a l c] w (RNPost bs w) := by
  have hy0 : Byt r0 ∧ r0.length ≤ 20000 := ⟨rdInt_byt hs.byt e0, by have h1 := rdInt_len bs false; rw [e0] at h1; simp only at h1; have h2 := hs.len; have h3 := hs.few; omega⟩
  obtain ⟨⟨x1, r1, b1⟩, e1⟩ : ∃ z, rdInt r0 b0 = z := ⟨_, rfl⟩
  have hy1 : Byt r1 ∧ r1.length ≤ 20000 := ⟨rdInt_byt hy0.1 e1, by have h1 := rdInt_len r0 b0; rw [e1] at h1; simp only at h1; have h2 := hy0.2; omega⟩
  obtain ⟨⟨x2, r2, b2⟩, e2⟩ : ∃ z, rdInt r1 b1 = z := ⟨_, rfl⟩
  have hy2 : Byt r2 ∧ r2.length ≤ 20000 := ⟨rdInt_byt hy1.1 e2, by have h1 := rdInt_len r1 b1; rw [e2] at h1; simp only at h1; have h2 := hy1.2; omega⟩
  obtain ⟨⟨x3, r3, b3⟩, e3⟩ : ∃ z, rdInt r2 b2 = z := ⟨_, rfl⟩
  have hy3 : Byt r3 ∧ r3.length ≤ 20000 := ⟨rdInt_byt hy2.1 e3, by have h1 := rdInt_len r2 b2; rw [e3] at h1; simp only at h1; have h2 := hy2.2; omega⟩
  have hbl4 := rdBytes_len r3 b3
  obtain ⟨⟨x4, r4, b4⟩, e4⟩ : ∃ z, rdBytes r3 b3 = z := ⟨_, rfl⟩
  rw [e4] at hbl4
  have hbt4 : Byt x4 ∧ x4.length ≤ 20000 := ⟨rdBytes_byt hy3.1 e4, by have h2 := hy3.2; simp only at hbl4; omega⟩
  clear hbl4
  have hy4 : Byt r4 ∧ r4.length ≤ 20000 := rdBytes_rest hy3.1 hy3.2 e4
  have HRN := hide (show rdNote 20 bs = (⟨6, x3, x2, x1, x4, 0, [], 0, 0, 0, []⟩, r4, b4) by
    simp [rdNote, hasView, hasEpoch, hasLife, hasNode, hasId, hasRes, hasFunc, rdI, rdB, rdMem, rdMany, e0, e1, e2, e3, e4])
  have K0 := hide (fun W (h : RS w W a l c bs bs false no0 ⟨#[]⟩ (.slice none 0 0) (.slice none 0 0)) => h.int hs)
  simp only [e0] at K0
  have K1 := hide (fun W n s av mv (h : RS w W a l c bs r0 b0 n s av mv) => h.int hs)
  simp only [e1] at K1
  have K2 := hide (fun W n s av mv (h : RS w W a l c bs r1 b1 n s av mv) => h.int hs)
  simp only [e2] at K2
  have K3 := hide (fun W n s av mv (h : RS w W a l c bs r2 b2 n s av mv) => h.int hs)
  simp only [e3] at K3
  have K4 := hide (fun W n s av mv (h : RS w W a l c bs r3 b3 n s av mv) => h.bytes hs)
  simp only [e4] at K4
  have H0 := hide (rs_start (w := w) (a := a) (l := l) (c := c) (bs := bs))
  obtain ⟨V, hV⟩ : ∃ V, V = ((w.alloc (.cells #[.int .i64 0, .int .i64 0, .int .i64 0, .int .i64 0, .string ⟨#[]⟩, .int .i64 0, .slice none 0 0, .int .i64 0, .int .i64 0, .int .i64 0, .slice none 0 0] 31)).alloc (.cells #[.slice a l c, .int .i64 0, .bool false] 73)).alloc (.cells #[.int .i64 0, .int .i64 0, .int .i64 0, .int .i64 0, .string ⟨#[]⟩, .int .i64 0, .slice none 0 0, .int .i64 0, .int .i64 0, .int .i64 0, .slice none 0 0] 31) := ⟨_, rfl⟩
  rw [← hV] at H0
  have HV := hide hV
  have HSA := hide hs
  clear hV e0 e1 e2 e3 e4 hs
  go_enter Try.func18, Try.ntmps18
  go_upto_region 36 with (first
    | (go_at_call 32; ((rw [← HV.out]; (with_reducible refine (K0.out V H0.out).mono ?_)); rintro e w0 ⟨rfl, h0⟩; have kc0 := (h0.box.2 0 (by simp [Nc])).1; have kf0 := (h0.box.2 0 (by simp [Nc])).2; have HS0 := hide (h0.put0 6); clear h0))
    | (go_at_call 32; ((with_reducible refine (K1.out _ _ _ _ _ HS0.out).mono ?_); rintro e w1 ⟨rfl, h1⟩; have kc1 := (h1.box.2 3 (by simp [Nc])).1; have kf1 := (h1.box.2 3 (by simp [Nc])).2; have HS1 := hide (h1.put3 x1); clear h1))
    | (go_at_call 32; ((with_reducible refine (K2.out _ _ _ _ _ HS1.out).mono ?_); rintro e w2 ⟨rfl, h2⟩; have kc2 := (h2.box.2 2 (by simp [Nc])).1; have kf2 := (h2.box.2 2 (by simp [Nc])).2; have HS2 := hide (h2.put2 x2); clear h2))
    | (go_at_call 32; ((with_reducible refine (K3.out _ _ _ _ _ HS2.out).mono ?_); rintro e w3 ⟨rfl, h3⟩; have kc3 := (h3.box.2 1 (by simp [Nc])).1; have kf3 := (h3.box.2 1 (by simp [Nc])).2; have HS3 := hide (h3.put1 x3); clear h3))
    | (go_at_call 33; ((with_reducible refine (K4.out _ _ _ _ _ HS3.out).mono ?_); rintro e w4 ⟨ta4, tm4, tc4, rfl, hcv4, h4⟩; have kc4 := (h4.box.2 4 (by simp [Nc])).1; have kf4 := (h4.box.2 4 (by simp [Nc])).2; have HS4 := hide (h4.put4 x4 hbt4.1 hbt4.2); clear h4)))
  obtain ⟨av9, mv9, HT⟩ : ∃ av9 mv9, Hid (RS w (w4.setCell ⟨w.heap.size + 2, 4, none⟩ (.string (bstr x4))) a l c bs r4 b4 ⟨6, x3, x2, x1, x4, 0, [], 0, 0, 0, []⟩ (bstr x4) av9 mv9) := ⟨(.slice none 0 0), (.slice none 0 0), HS4⟩
  generalize w4.setCell ⟨w.heap.size + 2, 4, none⟩ (.string (bstr x4)) = X at HT ⊢
  obtain ⟨n, hnn⟩ : ∃ n : No, n = ⟨6, x3, x2, x1, x4, 0, [], 0, 0, 0, []⟩ := ⟨_, rfl⟩
  rw [← hnn] at HT HRN
  clear hnn
  obtain ⟨s9, hs9⟩ : ∃ s9 : ByteArray, s9 = (bstr x4) := ⟨_, rfl⟩
  rw [← hs9] at HT
  clear hs9
  have HIN := hide (rdNote_in bs)
  rw [HRN.out] at HIN
  have hNM9 := HT.out.nm
  obtain ⟨-, -, -, -, ⟨aa, al, ac, rfl, -⟩, ⟨ma, ml, mc, rfl, -⟩⟩ := hNM9
  have HNM := hide HT.out.nm
  have HNM3 := hide (HT.out.nm3)
  obtain ⟨k0, k1, k2, k3, k4, k5, k6, k7, k8, k9, k10⟩ := (show BoxL X (w.heap.size + 2) [.int .i64 n.kind, .int .i64 n.node, .int .i64 n.life, .int .i64 n.epoch, .string s9, .int .i64 n.func, .slice aa al ac, .int .i64 n.err, .int .i64 n.val, .int .i64 n.vep, .slice ma ml mc] from HT.out.box).c11
  by_cases hm : mayN (clearN n) = true
  · have C12 := hide (rpackQ n s9 _ _ _ X HNM.out HIN.out hm)
    simp only [Nv] at C12
    unfold RP at C12
    have hBy := nm_byt HNM.out HIN.out
    have HE1 := hide (bstr_eq hBy HSA.out.byt)
    cases hbb : b4 with
    | true =>
      have HNO := hide (okR_no HRN.out (.inl hbb))
      go_upto_region 37 with (go_at_call 12; go_must ((with_reducible refine C12.out.mono ?_); rintro e w5 ⟨a5, m5, c5, rfl, hm5, -, -, hr5, hb5⟩))
      have HR5 := hide (HT.out.res.below hb5)
      have HN5 := hide ((show BoxL X (w.heap.size + 2) [.int .i64 n.kind, .int .i64 n.node, .int .i64 n.life, .int .i64 n.epoch, .string s9, .int .i64 n.func, .slice aa al ac, .int .i64 n.err, .int .i64 n.val, .int .i64 n.vep, .slice ma ml mc] from HT.out.box).below hb5)
      have HL5 := hide (HT.out.low.trans (hb5.mono HT.out.low.size))
      have HM5 := hide (HNM3.out.below hb5)
      have kb := keep_cell HT.out.cur.bad hb5
      clear k0 k1 k2 k3 k4 k5 k6 k7 k8 k9 k10
      rw [hbb] at kb
      clear hbb
      obtain ⟨q0, q1, q2, q3, q4, q5, q6, q7, q8, q9, q10⟩ := HR5.out.c11
      obtain ⟨v0, v1, v2, v3, v4, v5, v6, v7, v8, v9, v10⟩ := HR5.out.f11
      go_wp2
      have HX7 := hide (put11_box HR5.out (.int .i64 0) (.int .i64 0) (.int .i64 0) (.int .i64 0) (.string ⟨#[]⟩) (.int .i64 0) (.slice none 0 0) (.int .i64 0) (.int .i64 0) (.int .i64 0) (.slice none 0 0))
      have HB7 := hide (put11_below (g := w.heap.size) HL5.out (Nat.le_refl _) (.int .i64 0) (.int .i64 0) (.int .i64 0) (.int .i64 0) (.string ⟨#[]⟩) (.int .i64 0) (.slice none 0 0) (.int .i64 0) (.int .i64 0) (.int .i64 0) (.slice none 0 0))
      obtain ⟨Y, hY⟩ : ∃ Y, Y = put11 w5 w.heap.size (.int .i64 0) (.int .i64 0) (.int .i64 0) (.int .i64 0) (.string ⟨#[]⟩) (.int .i64 0) (.slice none 0 0) (.int .i64 0) (.int .i64 0) (.int .i64 0) (.slice none 0 0) := ⟨_, rfl⟩
      rw [← hY] at HX7 HB7
      unfold put11 at hY
      rw [← hY]
      clear hY
      obtain ⟨x0, x1, x2, x3, x4, x5, x6, x7, x8, x9, x10⟩ := HX7.out.c11
      refine bodyPost_ret (v := .tuple #[.agg #[.int .i64 0, .int .i64 0, .int .i64 0, .int .i64 0, .string ⟨#[]⟩, .int .i64 0, .slice none 0 0, .int .i64 0, .int .i64 0, .int .i64 0, .slice none 0 0], .int .i64 4]) (by simp [results, Try.results18, go_sem, x0, x1, x2, x3, x4, x5, x6, x7, x8, x9, x10]) rfl ?_
      unfold RNPost
      rw [HNO.out]
      exact ⟨rfl, HB7.out⟩
    | false =>
      by_cases he : encN (clearN n) = bs
      · have HYES := hide (okR_yes (by rw [HRN.out, hbb]) hm he)
        rw [decide_eq_true he] at HE1
        go_upto_region 37 with (go_at_call 12; go_must ((with_reducible refine C12.out.mono ?_); rintro e w5 ⟨a5, m5, c5, rfl, hm5, -, -, hr5, hb5⟩))
        have HR5 := hide (HT.out.res.below hb5)
        have HN5 := hide ((show BoxL X (w.heap.size + 2) [.int .i64 n.kind, .int .i64 n.node, .int .i64 n.life, .int .i64 n.epoch, .string s9, .int .i64 n.func, .slice aa al ac, .int .i64 n.err, .int .i64 n.val, .int .i64 n.vep, .slice ma ml mc] from HT.out.box).below hb5)
        have HL5 := hide (HT.out.low.trans (hb5.mono HT.out.low.size))
        have HM5 := hide (HNM3.out.below hb5)
        have kb := keep_cell HT.out.cur.bad hb5
        clear k0 k1 k2 k3 k4 k5 k6 k7 k8 k9 k10
        rw [hbb] at kb
        clear hbb
        have kcw := run_str (S := bstr (encN (clearN n))) rfl hm5.out hr5.out c5
        have kcb := run_str (S := bstr bs) rfl HSA.out.len (HSA.out.reads.below HL5.out) c
        generalize bstr (encN (clearN n)) = S1 at kcw HE1
        generalize bstr bs = S2 at kcb HE1
        have hE1 := HE1.out
        obtain ⟨q0, q1, q2, q3, q4, q5, q6, q7, q8, q9, q10⟩ := HR5.out.c11
        obtain ⟨v0, v1, v2, v3, v4, v5, v6, v7, v8, v9, v10⟩ := HR5.out.f11
        obtain ⟨g0, g1, g2, g3, g4, g5, g6, g7, g8, g9, g10⟩ := HN5.out.c11
        go_wp2
        have HX7 := hide (put11_box HR5.out (.int .i64 n.kind) (.int .i64 n.node) (.int .i64 n.life) (.int .i64 n.epoch) (.string s9) (.int .i64 n.func) (.slice aa al ac) (.int .i64 n.err) (.int .i64 n.val) (.int .i64 n.vep) (.slice ma ml mc))
        have HB7 := hide (put11_below (g := w.heap.size) HL5.out (Nat.le_refl _) (.int .i64 n.kind) (.int .i64 n.node) (.int .i64 n.life) (.int .i64 n.epoch) (.string s9) (.int .i64 n.func) (.slice aa al ac) (.int .i64 n.err) (.int .i64 n.val) (.int .i64 n.vep) (.slice ma ml mc))
        have HM7 := hide (HM5.out.keep (w' := put11 w5 w.heap.size (.int .i64 n.kind) (.int .i64 n.node) (.int .i64 n.life) (.int .i64 n.epoch) (.string s9) (.int .i64 n.func) (.slice aa al ac) (.int .i64 n.err) (.int .i64 n.val) (.int .i64 n.vep) (.slice ma ml mc)) (fun k h1 _ => put11_keep (by omega) (.int .i64 n.kind) (.int .i64 n.node) (.int .i64 n.life) (.int .i64 n.epoch) (.string s9) (.int .i64 n.func) (.slice aa al ac) (.int .i64 n.err) (.int .i64 n.val) (.int .i64 n.vep) (.slice ma ml mc)))
        obtain ⟨Y, hY⟩ : ∃ Y, Y = put11 w5 w.heap.size (.int .i64 n.kind) (.int .i64 n.node) (.int .i64 n.life) (.int .i64 n.epoch) (.string s9) (.int .i64 n.func) (.slice aa al ac) (.int .i64 n.err) (.int .i64 n.val) (.int .i64 n.vep) (.slice ma ml mc) := ⟨_, rfl⟩
        rw [← hY] at HX7 HB7 HM7
        unfold put11 at hY
        rw [← hY]
        clear hY
        obtain ⟨x0, x1, x2, x3, x4, x5, x6, x7, x8, x9, x10⟩ := HX7.out.c11
        refine bodyPost_ret (v := .tuple #[.agg #[.int .i64 n.kind, .int .i64 n.node, .int .i64 n.life, .int .i64 n.epoch, .string s9, .int .i64 n.func, .slice aa al ac, .int .i64 n.err, .int .i64 n.val, .int .i64 n.vep, .slice ma ml mc], .int .i64 0]) (by simp [results, Try.results18, go_sem, x0, x1, x2, x3, x4, x5, x6, x7, x8, x9, x10]) rfl ?_
        unfold RNPost
        rw [HYES.out, if_pos rfl, HRN.out]
        exact ⟨s9, .slice aa al ac, .slice ma ml mc, rfl, HM7.out.mono (by omega), HB7.out⟩
      · have HNO := hide (okR_no HRN.out (.inr (.inr he)))
        rw [decide_eq_false he] at HE1
        go_upto_region 37 with (go_at_call 12; go_must ((with_reducible refine C12.out.mono ?_); rintro e w5 ⟨a5, m5, c5, rfl, hm5, -, -, hr5, hb5⟩))
        have HR5 := hide (HT.out.res.below hb5)
        have HN5 := hide ((show BoxL X (w.heap.size + 2) [.int .i64 n.kind, .int .i64 n.node, .int .i64 n.life, .int .i64 n.epoch, .string s9, .int .i64 n.func, .slice aa al ac, .int .i64 n.err, .int .i64 n.val, .int .i64 n.vep, .slice ma ml mc] from HT.out.box).below hb5)
        have HL5 := hide (HT.out.low.trans (hb5.mono HT.out.low.size))
        have HM5 := hide (HNM3.out.below hb5)
        have kb := keep_cell HT.out.cur.bad hb5
        clear k0 k1 k2 k3 k4 k5 k6 k7 k8 k9 k10
        rw [hbb] at kb
        clear hbb
        have kcw := run_str (S := bstr (encN (clearN n))) rfl hm5.out hr5.out c5
        have kcb := run_str (S := bstr bs) rfl HSA.out.len (HSA.out.reads.below HL5.out) c
        generalize bstr (encN (clearN n)) = S1 at kcw HE1
        generalize bstr bs = S2 at kcb HE1
        have hE1 := HE1.out
        obtain ⟨q0, q1, q2, q3, q4, q5, q6, q7, q8, q9, q10⟩ := HR5.out.c11
        obtain ⟨v0, v1, v2, v3, v4, v5, v6, v7, v8, v9, v10⟩ := HR5.out.f11
        go_wp2
        have HX7 := hide (put11_box HR5.out (.int .i64 0) (.int .i64 0) (.int .i64 0) (.int .i64 0) (.string ⟨#[]⟩) (.int .i64 0) (.slice none 0 0) (.int .i64 0) (.int .i64 0) (.int .i64 0) (.slice none 0 0))
        have HB7 := hide (put11_below (g := w.heap.size) HL5.out (Nat.le_refl _) (.int .i64 0) (.int .i64 0) (.int .i64 0) (.int .i64 0) (.string ⟨#[]⟩) (.int .i64 0) (.slice none 0 0) (.int .i64 0) (.int .i64 0) (.int .i64 0) (.slice none 0 0))
        obtain ⟨Y, hY⟩ : ∃ Y, Y = put11 w5 w.heap.size (.int .i64 0) (.int .i64 0) (.int .i64 0) (.int .i64 0) (.string ⟨#[]⟩) (.int .i64 0) (.slice none 0 0) (.int .i64 0) (.int .i64 0) (.int .i64 0) (.slice none 0 0) := ⟨_, rfl⟩
        rw [← hY] at HX7 HB7
        unfold put11 at hY
        rw [← hY]
        clear hY
        obtain ⟨x0, x1, x2, x3, x4, x5, x6, x7, x8, x9, x10⟩ := HX7.out.c11
        refine bodyPost_ret (v := .tuple #[.agg #[.int .i64 0, .int .i64 0, .int .i64 0, .int .i64 0, .string ⟨#[]⟩, .int .i64 0, .slice none 0 0, .int .i64 0, .int .i64 0, .int .i64 0, .slice none 0 0], .int .i64 4]) (by simp [results, Try.results18, go_sem, x0, x1, x2, x3, x4, x5, x6, x7, x8, x9, x10]) rfl ?_
        unfold RNPost
        rw [HNO.out]
        exact ⟨rfl, HB7.out⟩
  · have HNO := hide (okR_no HRN.out (.inr (.inl (by simpa using hm))))
    have C12 := hide (rpackN n s9 _ _ _ X HNM.out HIN.out (by simpa using hm))
    simp only [Nv] at C12
    go_upto_region 37 with (go_at_call 12; go_must ((with_reducible refine C12.out.mono ?_); rintro e w5 ⟨rfl, hb5⟩))
    have HR5 := hide (HT.out.res.below hb5)
    have HN5 := hide ((show BoxL X (w.heap.size + 2) [.int .i64 n.kind, .int .i64 n.node, .int .i64 n.life, .int .i64 n.epoch, .string s9, .int .i64 n.func, .slice aa al ac, .int .i64 n.err, .int .i64 n.val, .int .i64 n.vep, .slice ma ml mc] from HT.out.box).below hb5)
    have HL5 := hide (HT.out.low.trans (hb5.mono HT.out.low.size))
    have HM5 := hide (HNM3.out.below hb5)
    have kb := keep_cell HT.out.cur.bad hb5
    clear k0 k1 k2 k3 k4 k5 k6 k7 k8 k9 k10
    cases hbb : b4 with
    | true =>
      rw [hbb] at kb
      clear hbb
      obtain ⟨q0, q1, q2, q3, q4, q5, q6, q7, q8, q9, q10⟩ := HR5.out.c11
      obtain ⟨v0, v1, v2, v3, v4, v5, v6, v7, v8, v9, v10⟩ := HR5.out.f11
      go_wp2
      have HX7 := hide (put11_box HR5.out (.int .i64 0) (.int .i64 0) (.int .i64 0) (.int .i64 0) (.string ⟨#[]⟩) (.int .i64 0) (.slice none 0 0) (.int .i64 0) (.int .i64 0) (.int .i64 0) (.slice none 0 0))
      have HB7 := hide (put11_below (g := w.heap.size) HL5.out (Nat.le_refl _) (.int .i64 0) (.int .i64 0) (.int .i64 0) (.int .i64 0) (.string ⟨#[]⟩) (.int .i64 0) (.slice none 0 0) (.int .i64 0) (.int .i64 0) (.int .i64 0) (.slice none 0 0))
      obtain ⟨Y, hY⟩ : ∃ Y, Y = put11 w5 w.heap.size (.int .i64 0) (.int .i64 0) (.int .i64 0) (.int .i64 0) (.string ⟨#[]⟩) (.int .i64 0) (.slice none 0 0) (.int .i64 0) (.int .i64 0) (.int .i64 0) (.slice none 0 0) := ⟨_, rfl⟩
      rw [← hY] at HX7 HB7
      unfold put11 at hY
      rw [← hY]
      clear hY
      obtain ⟨x0, x1, x2, x3, x4, x5, x6, x7, x8, x9, x10⟩ := HX7.out.c11
      refine bodyPost_ret (v := .tuple #[.agg #[.int .i64 0, .int .i64 0, .int .i64 0, .int .i64 0, .string ⟨#[]⟩, .int .i64 0, .slice none 0 0, .int .i64 0, .int .i64 0, .int .i64 0, .slice none 0 0], .int .i64 4]) (by simp [results, Try.results18, go_sem, x0, x1, x2, x3, x4, x5, x6, x7, x8, x9, x10]) rfl ?_
      unfold RNPost
      rw [HNO.out]
      exact ⟨rfl, HB7.out⟩
    | false =>
      rw [hbb] at kb
      clear hbb
      obtain ⟨q0, q1, q2, q3, q4, q5, q6, q7, q8, q9, q10⟩ := HR5.out.c11
      obtain ⟨v0, v1, v2, v3, v4, v5, v6, v7, v8, v9, v10⟩ := HR5.out.f11
      go_wp2
      have HX7 := hide (put11_box HR5.out (.int .i64 0) (.int .i64 0) (.int .i64 0) (.int .i64 0) (.string ⟨#[]⟩) (.int .i64 0) (.slice none 0 0) (.int .i64 0) (.int .i64 0) (.int .i64 0) (.slice none 0 0))
      have HB7 := hide (put11_below (g := w.heap.size) HL5.out (Nat.le_refl _) (.int .i64 0) (.int .i64 0) (.int .i64 0) (.int .i64 0) (.string ⟨#[]⟩) (.int .i64 0) (.slice none 0 0) (.int .i64 0) (.int .i64 0) (.int .i64 0) (.slice none 0 0))
      obtain ⟨Y, hY⟩ : ∃ Y, Y = put11 w5 w.heap.size (.int .i64 0) (.int .i64 0) (.int .i64 0) (.int .i64 0) (.string ⟨#[]⟩) (.int .i64 0) (.slice none 0 0) (.int .i64 0) (.int .i64 0) (.int .i64 0) (.slice none 0 0) := ⟨_, rfl⟩
      rw [← hY] at HX7 HB7
      unfold put11 at hY
      rw [← hY]
      clear hY
      obtain ⟨x0, x1, x2, x3, x4, x5, x6, x7, x8, x9, x10⟩ := HX7.out.c11
      refine bodyPost_ret (v := .tuple #[.agg #[.int .i64 0, .int .i64 0, .int .i64 0, .int .i64 0, .string ⟨#[]⟩, .int .i64 0, .slice none 0 0, .int .i64 0, .int .i64 0, .int .i64 0, .slice none 0 0], .int .i64 4]) (by simp [results, Try.results18, go_sem, x0, x1, x2, x3, x4, x5, x6, x7, x8, x9, x10]) rfl ?_
      unfold RNPost
      rw [HNO.out]
      exact ⟨rfl, HB7.out⟩


set_option maxRecDepth 100000 in
set_option maxHeartbeats 16000000 in
theorem rn_7 (a : Option Addr) (l c : Nat) (bs : List Nat) (w : World) (hs : SrcA w a l c bs) (r0 : List Nat) (b0 : Bool) (e0 : rdInt bs false = (7, r0, b0)) : Calls Try.prog 18 #[.slice a l c] w (RNPost bs w) := by
  have hy0 : Byt r0 ∧ r0.length ≤ 20000 := ⟨rdInt_byt hs.byt e0, by have h1 := rdInt_len bs false; rw [e0] at h1; simp only at h1; have h2 := hs.len; have h3 := hs.few; omega⟩
  obtain ⟨⟨x1, r1, b1⟩, e1⟩ : ∃ z, rdInt r0 b0 = z := ⟨_, rfl⟩
  have hy1 : Byt r1 ∧ r1.length ≤ 20000 := ⟨rdInt_byt hy0.1 e1, by have h1 := rdInt_len r0 b0; rw [e1] at h1; simp only at h1; have h2 := hy0.2; omega⟩
  obtain ⟨⟨x2, r2, b2⟩, e2⟩ : ∃ z, rdInt r1 b1 = z := ⟨_, rfl⟩
  have hy2 : Byt r2 ∧ r2.length ≤ 20000 := ⟨rdInt_byt hy1.1 e2, by have h1 := rdInt_len r1 b1; rw [e2] at h1; simp only at h1; have h2 := hy1.2; omega⟩
  have hbl3 := rdBytes_len r2 b2
  obtain ⟨⟨x3, r3, b3⟩, e3⟩ : ∃ z, rdBytes r2 b2 = z := ⟨_, rfl⟩
  rw [e3] at hbl3
  have hbt3 : Byt x3 ∧ x3.length ≤ 20000 := ⟨rdBytes_byt hy2.1 e3, by have h2 := hy2.2; simp only at hbl3; omega⟩
  clear hbl3
  have hy3 : Byt r3 ∧ r3.length ≤ 20000 := rdBytes_rest hy2.1 hy2.2 e3
  obtain ⟨⟨x4, r4, b4⟩, e4⟩ : ∃ z, rdInt r3 b3 = z := ⟨_, rfl⟩
  have hy4 : Byt r4 ∧ r4.length ≤ 20000 := ⟨rdInt_byt hy3.1 e4, by have h1 := rdInt_len r3 b3; rw [e4] at h1; simp only at h1; have h2 := hy3.2; omega⟩
  obtain ⟨⟨x5, r5, b5⟩, e5⟩ : ∃ z, rdInt r4 b4 = z := ⟨_, rfl⟩
  have hy5 : Byt r5 ∧ r5.length ≤ 20000 := ⟨rdInt_byt hy4.1 e5, by have h1 := rdInt_len r4 b4; rw [e5] at h1; simp only at h1; have h2 := hy4.2; omega⟩
  have HRN := hide (show rdNote 20 bs = (⟨7, x2, 0, x1, x3, 0, [], x4, x5, 0, []⟩, r5, b5) by
    simp [rdNote, hasView, hasEpoch, hasLife, hasNode, hasId, hasRes, hasFunc, rdI, rdB, rdMem, rdMany, e0, e1, e2, e3, e4, e5])
  have K0 := hide (fun W (h : RS w W a l c bs bs false no0 ⟨#[]⟩ (.slice none 0 0) (.slice none 0 0)) => h.int hs)
  simp only [e0] at K0
  have K1 := hide (fun W n s av mv (h : RS w W a l c bs r0 b0 n s av mv) => h.int hs)
  simp only [e1] at K1
  have K2 := hide (fun W n s av mv (h : RS w W a l c bs r1 b1 n s av mv) => h.int hs)
  simp only [e2] at K2
  have K3 := hide (fun W n s av mv (h : RS w W a l c bs r2 b2 n s av mv) => h.bytes hs)
  simp only [e3] at K3
  have K4 := hide (fun W n s av mv (h : RS w W a l c bs r3 b3 n s av mv) => h.int hs)
  simp only [e4] at K4
  have K5 := hide (fun W n s av mv (h : RS w W a l c bs r4 b4 n s av mv) => h.int hs)
  simp only [e5] at K5
  have H0 := hide (rs_start (w := w) (a := a) (l := l) (c := c) (bs := bs))
  obtain ⟨V, hV⟩ : ∃ V, V = ((w.alloc (.cells #[.int .i64 0, .int .i64 0, .int .i64 0, .int .i64 0, .string ⟨#[]⟩, .int .i64 0, .slice none 0 0, .int .i64 0, .int .i64 0, .int .i64 0, .slice none 0 0] 31)).alloc (.cells #[.slice a l c, .int .i64 0, .bool false] 73)).alloc (.cells #[.int .i64 0, .int .i64 0, .int .i64 0, .int .i64 0, .string ⟨#[]⟩, .int .i64 0, .slice none 0 0, .int .i64 0, .int .i64 0, .int .i64 0, .slice none 0 0] 31) := ⟨_, rfl⟩
  rw [← hV] at H0
  have HV := hide hV
  have HSA := hide hs
  clear hV e0 e1 e2 e3 e4 e5 hs
  go_enter Try.func18, Try.ntmps18
  go_upto_region 36 with (first
    | (go_at_call 32; ((rw [← HV.out]; (with_reducible refine (K0.out V H0.out).mono ?_)); rintro e w0 ⟨rfl, h0⟩; have kc0 := (h0.box.2 0 (by simp [Nc])).1; have kf0 := (h0.box.2 0 (by simp [Nc])).2; have HS0 := hide (h0.put0 7); clear h0))
    | (go_at_call 32; ((with_reducible refine (K1.out _ _ _ _ _ HS0.out).mono ?_); rintro e w1 ⟨rfl, h1⟩; have kc1 := (h1.box.2 3 (by simp [Nc])).1; have kf1 := (h1.box.2 3 (by simp [Nc])).2; have HS1 := hide (h1.put3 x1); clear h1))
    | (go_at_call 32; ((with_reducible refine (K2.out _ _ _ _ _ HS1.out).mono ?_); rintro e w2 ⟨rfl, h2⟩; have kc2 := (h2.box.2 1 (by simp [Nc])).1; have kf2 := (h2.box.2 1 (by simp [Nc])).2; have HS2 := hide (h2.put1 x2); clear h2))
    | (go_at_call 33; ((with_reducible refine (K3.out _ _ _ _ _ HS2.out).mono ?_); rintro e w3 ⟨ta3, tm3, tc3, rfl, hcv3, h3⟩; have kc3 := (h3.box.2 4 (by simp [Nc])).1; have kf3 := (h3.box.2 4 (by simp [Nc])).2; have HS3 := hide (h3.put4 x3 hbt3.1 hbt3.2); clear h3))
    | (go_at_call 32; ((with_reducible refine (K4.out _ _ _ _ _ HS3.out).mono ?_); rintro e w4 ⟨rfl, h4⟩; have kc4 := (h4.box.2 7 (by simp [Nc])).1; have kf4 := (h4.box.2 7 (by simp [Nc])).2; have HS4 := hide (h4.put7 x4); clear h4))
    | (go_at_call 32; ((with_reducible refine (K5.out _ _ _ _ _ HS4.out).mono ?_); rintro e w5 ⟨rfl, h5⟩; have kc5 := (h5.box.2 8 (by simp [Nc])).1; have kf5 := (h5.box.2 8 (by simp [Nc])).2; have HS5 := hide (h5.put8 x5); clear h5)))
  obtain ⟨av9, mv9, HT⟩ : ∃ av9 mv9, Hid (RS w (w5.setCell ⟨w.heap.size + 2, 8, none⟩ (.int .i64 x5)) a l c bs r5 b5 ⟨7, x2, 0, x1, x3, 0, [], x4, x5, 0, []⟩ (bstr x3) av9 mv9) := ⟨(.slice none 0 0), (.slice none 0 0), HS5⟩
  generalize w5.setCell ⟨w.heap.size + 2, 8, none⟩ (.int .i64 x5) = X at HT ⊢
  obtain ⟨n, hnn⟩ : ∃ n : No, n = ⟨7, x2, 0, x1, x3, 0, [], x4, x5, 0, []⟩ := ⟨_, rfl⟩
  rw [← hnn] at HT HRN
  clear hnn
  obtain ⟨s9, hs9⟩ : ∃ s9 : ByteArray, s9 = (bstr x3) := ⟨_, rfl⟩
  rw [← hs9] at HT
  clear hs9
  have HIN := hide (rdNote_in bs)
  rw [HRN.out] at HIN
  have hNM9 := HT.out.nm
  obtain ⟨-, -, -, -, ⟨aa, al, ac, rfl, -⟩, ⟨ma, ml, mc, rfl, -⟩⟩ := hNM9
  have HNM := hide HT.out.nm
  have HNM3 := hide (HT.out.nm3)
  obtain ⟨k0, k1, k2, k3, k4, k5, k6, k7, k8, k9, k10⟩ := (show BoxL X (w.heap.size + 2) [.int .i64 n.kind, .int .i64 n.node, .int .i64 n.life, .int .i64 n.epoch, .string s9, .int .i64 n.func, .slice aa al ac, .int .i64 n.err, .int .i64 n.val, .int .i64 n.vep, .slice ma ml mc] from HT.out.box).c11
  by_cases hm : mayN (clearN n) = true
  · have C12 := hide (rpackQ n s9 _ _ _ X HNM.out HIN.out hm)
    simp only [Nv] at C12
    unfold RP at C12
    have hBy := nm_byt HNM.out HIN.out
    have HE1 := hide (bstr_eq hBy HSA.out.byt)
    cases hbb : b5 with
    | true =>
      have HNO := hide (okR_no HRN.out (.inl hbb))
      go_upto_region 37 with (go_at_call 12; go_must ((with_reducible refine C12.out.mono ?_); rintro e w5 ⟨a5, m5, c5, rfl, hm5, -, -, hr5, hb5⟩))
      have HR5 := hide (HT.out.res.below hb5)
      have HN5 := hide ((show BoxL X (w.heap.size + 2) [.int .i64 n.kind, .int .i64 n.node, .int .i64 n.life, .int .i64 n.epoch, .string s9, .int .i64 n.func, .slice aa al ac, .int .i64 n.err, .int .i64 n.val, .int .i64 n.vep, .slice ma ml mc] from HT.out.box).below hb5)
      have HL5 := hide (HT.out.low.trans (hb5.mono HT.out.low.size))
      have HM5 := hide (HNM3.out.below hb5)
      have kb := keep_cell HT.out.cur.bad hb5
      clear k0 k1 k2 k3 k4 k5 k6 k7 k8 k9 k10
      rw [hbb] at kb
      clear hbb
      obtain ⟨q0, q1, q2, q3, q4, q5, q6, q7, q8, q9, q10⟩ := HR5.out.c11
      obtain ⟨v0, v1, v2, v3, v4, v5, v6, v7, v8, v9, v10⟩ := HR5.out.f11
      go_wp2
      have HX7 := hide (put11_box HR5.out (.int .i64 0) (.int .i64 0) (.int .i64 0) (.int .i64 0) (.string ⟨#[]⟩) (.int .i64 0) (.slice none 0 0) (.int .i64 0) (.int .i64 0) (.int .i64 0) (.slice none 0 0))
      have HB7 := hide (put11_below (g := w.heap.size) HL5.out (Nat.le_refl _) (.int .i64 0) (.int .i64 0) (.int .i64 0) (.int .i64 0) (.string ⟨#[]⟩) (.int .i64 0) (.slice none 0 0) (.int .i64 0) (.int .i64 0) (.int .i64 0) (.slice none 0 0))
      obtain ⟨Y, hY⟩ : ∃ Y, Y = put11 w5 w.heap.size (.int .i64 0) (.int .i64 0) (.int .i64 0) (.int .i64 0) (.string ⟨#[]⟩) (.int .i64 0) (.slice none 0 0) (.int .i64 0) (.int .i64 0) (.int .i64 0) (.slice none 0 0) := ⟨_, rfl⟩
      rw [← hY] at HX7 HB7
      unfold put11 at hY
      rw [← hY]
      clear hY
      obtain ⟨x0, x1, x2, x3, x4, x5, x6, x7, x8, x9, x10⟩ := HX7.out.c11
      refine bodyPost_ret (v := .tuple #[.agg #[.int .i64 0, .int .i64 0, .int .i64 0, .int .i64 0, .string ⟨#[]⟩, .int .i64 0, .slice none 0 0, .int .i64 0, .int .i64 0, .int .i64 0, .slice none 0 0], .int .i64 4]) (by simp [results, Try.results18, go_sem, x0, x1, x2, x3, x4, x5, x6, x7, x8, x9, x10]) rfl ?_
      unfold RNPost
      rw [HNO.out]
      exact ⟨rfl, HB7.out⟩
    | false =>
      by_cases he : encN (clearN n) = bs
      · have HYES := hide (okR_yes (by rw [HRN.out, hbb]) hm he)
        rw [decide_eq_true he] at HE1
        go_upto_region 37 with (go_at_call 12; go_must ((with_reducible refine C12.out.mono ?_); rintro e w5 ⟨a5, m5, c5, rfl, hm5, -, -, hr5, hb5⟩))
        have HR5 := hide (HT.out.res.below hb5)
        have HN5 := hide ((show BoxL X (w.heap.size + 2) [.int .i64 n.kind, .int .i64 n.node, .int .i64 n.life, .int .i64 n.epoch, .string s9, .int .i64 n.func, .slice aa al ac, .int .i64 n.err, .int .i64 n.val, .int .i64 n.vep, .slice ma ml mc] from HT.out.box).below hb5)
        have HL5 := hide (HT.out.low.trans (hb5.mono HT.out.low.size))
        have HM5 := hide (HNM3.out.below hb5)
        have kb := keep_cell HT.out.cur.bad hb5
        clear k0 k1 k2 k3 k4 k5 k6 k7 k8 k9 k10
        rw [hbb] at kb
        clear hbb
        have kcw := run_str (S := bstr (encN (clearN n))) rfl hm5.out hr5.out c5
        have kcb := run_str (S := bstr bs) rfl HSA.out.len (HSA.out.reads.below HL5.out) c
        generalize bstr (encN (clearN n)) = S1 at kcw HE1
        generalize bstr bs = S2 at kcb HE1
        have hE1 := HE1.out
        obtain ⟨q0, q1, q2, q3, q4, q5, q6, q7, q8, q9, q10⟩ := HR5.out.c11
        obtain ⟨v0, v1, v2, v3, v4, v5, v6, v7, v8, v9, v10⟩ := HR5.out.f11
        obtain ⟨g0, g1, g2, g3, g4, g5, g6, g7, g8, g9, g10⟩ := HN5.out.c11
        go_wp2
        have HX7 := hide (put11_box HR5.out (.int .i64 n.kind) (.int .i64 n.node) (.int .i64 n.life) (.int .i64 n.epoch) (.string s9) (.int .i64 n.func) (.slice aa al ac) (.int .i64 n.err) (.int .i64 n.val) (.int .i64 n.vep) (.slice ma ml mc))
        have HB7 := hide (put11_below (g := w.heap.size) HL5.out (Nat.le_refl _) (.int .i64 n.kind) (.int .i64 n.node) (.int .i64 n.life) (.int .i64 n.epoch) (.string s9) (.int .i64 n.func) (.slice aa al ac) (.int .i64 n.err) (.int .i64 n.val) (.int .i64 n.vep) (.slice ma ml mc))
        have HM7 := hide (HM5.out.keep (w' := put11 w5 w.heap.size (.int .i64 n.kind) (.int .i64 n.node) (.int .i64 n.life) (.int .i64 n.epoch) (.string s9) (.int .i64 n.func) (.slice aa al ac) (.int .i64 n.err) (.int .i64 n.val) (.int .i64 n.vep) (.slice ma ml mc)) (fun k h1 _ => put11_keep (by omega) (.int .i64 n.kind) (.int .i64 n.node) (.int .i64 n.life) (.int .i64 n.epoch) (.string s9) (.int .i64 n.func) (.slice aa al ac) (.int .i64 n.err) (.int .i64 n.val) (.int .i64 n.vep) (.slice ma ml mc)))
        obtain ⟨Y, hY⟩ : ∃ Y, Y = put11 w5 w.heap.size (.int .i64 n.kind) (.int .i64 n.node) (.int .i64 n.life) (.int .i64 n.epoch) (.string s9) (.int .i64 n.func) (.slice aa al ac) (.int .i64 n.err) (.int .i64 n.val) (.int .i64 n.vep) (.slice ma ml mc) := ⟨_, rfl⟩
        rw [← hY] at HX7 HB7 HM7
        unfold put11 at hY
        rw [← hY]
        clear hY
        obtain ⟨x0, x1, x2, x3, x4, x5, x6, x7, x8, x9, x10⟩ := HX7.out.c11
        refine bodyPost_ret (v := .tuple #[.agg #[.int .i64 n.kind, .int .i64 n.node, .int .i64 n.life, .int .i64 n.epoch, .string s9, .int .i64 n.func, .slice aa al ac, .int .i64 n.err, .int .i64 n.val, .int .i64 n.vep, .slice ma ml mc], .int .i64 0]) (by simp [results, Try.results18, go_sem, x0, x1, x2, x3, x4, x5, x6, x7, x8, x9, x10]) rfl ?_
        unfold RNPost
        rw [HYES.out, if_pos rfl, HRN.out]
        exact ⟨s9, .slice aa al ac, .slice ma ml mc, rfl, HM7.out.mono (by omega), HB7.out⟩
      · have HNO := hide (okR_no HRN.out (.inr (.inr he)))
        rw [decide_eq_false he] at HE1
        go_upto_region 37 with (go_at_call 12; go_must ((with_reducible refine C12.out.mono ?_); rintro e w5 ⟨a5, m5, c5, rfl, hm5, -, -, hr5, hb5⟩))
        have HR5 := hide (HT.out.res.below hb5)
        have HN5 := hide ((show BoxL X (w.heap.size + 2) [.int .i64 n.kind, .int .i64 n.node, .int .i64 n.life, .int .i64 n.epoch, .string s9, .int .i64 n.func, .slice aa al ac, .int .i64 n.err, .int .i64 n.val, .int .i64 n.vep, .slice ma ml mc] from HT.out.box).below hb5)
        have HL5 := hide (HT.out.low.trans (hb5.mono HT.out.low.size))
        have HM5 := hide (HNM3.out.below hb5)
        have kb := keep_cell HT.out.cur.bad hb5
        clear k0 k1 k2 k3 k4 k5 k6 k7 k8 k9 k10
        rw [hbb] at kb
        clear hbb
        have kcw := run_str (S := bstr (encN (clearN n))) rfl hm5.out hr5.out c5
        have kcb := run_str (S := bstr bs) rfl HSA.out.len (HSA.out.reads.below HL5.out) c
        generalize bstr (encN (clearN n)) = S1 at kcw HE1
        generalize bstr bs = S2 at kcb HE1
        have hE1 := HE1.out
        obtain ⟨q0, q1, q2, q3, q4, q5, q6, q7, q8, q9, q10⟩ := HR5.out.c11
        obtain ⟨v0, v1, v2, v3, v4, v5, v6, v7, v8, v9, v10⟩ := HR5.out.f11
        go_wp2
        have HX7 := hide (put11_box HR5.out (.int .i64 0) (.int .i64 0) (.int .i64 0) (.int .i64 0) (.string ⟨#[]⟩) (.int .i64 0) (.slice none 0 0) (.int .i64 0) (.int .i64 0) (.int .i64 0) (.slice none 0 0))
        have HB7 := hide (put11_below (g := w.heap.size) HL5.out (Nat.le_refl _) (.int .i64 0) (.int .i64 0) (.int .i64 0) (.int .i64 0) (.string ⟨#[]⟩) (.int .i64 0) (.slice none 0 0) (.int .i64 0) (.int .i64 0) (.int .i64 0) (.slice none 0 0))
        obtain ⟨Y, hY⟩ : ∃ Y, Y = put11 w5 w.heap.size (.int .i64 0) (.int .i64 0) (.int .i64 0) (.int .i64 0) (.string ⟨#[]⟩) (.int .i64 0) (.slice none 0 0) (.int .i64 0) (.int .i64 0) (.int .i64 0) (.slice none 0 0) := ⟨_, rfl⟩
        rw [← hY] at HX7 HB7
        unfold put11 at hY
        rw [← hY]
        clear hY
        obtain ⟨x0, x1, x2, x3, x4, x5, x6, x7, x8, x9, x10⟩ := HX7.out.c11
        refine bodyPost_ret (v := .tuple #[.agg #[.int .i64 0, .int .i64 0, .int .i64 0, .int .i64 0, .string ⟨#[]⟩, .int .i64 0, .slice none 0 0, .int .i64 0, .int .i64 0, .int .i64 0, .slice none 0 0], .int .i64 4]) (by simp [results, Try.results18, go_sem, x0, x1, x2, x3, x4, x5, x6, x7, x8, x9, x10]) rfl ?_
        unfold RNPost
        rw [HNO.out]
        exact ⟨rfl, HB7.out⟩
  · have HNO := hide (okR_no HRN.out (.inr (.inl (by simpa using hm))))
    have C12 := hide (rpackN n s9 _ _ _ X HNM.out HIN.out (by simpa using hm))
    simp only [Nv] at C12
    go_upto_region 37 with (go_at_call 12; go_must ((with_reducible refine C12.out.mono ?_); rintro e w5 ⟨rfl, hb5⟩))
    have HR5 := hide (HT.out.res.below hb5)
    have HN5 := hide ((show BoxL X (w.heap.size + 2) [.int .i64 n.kind, .int .i64 n.node, .int .i64 n.life, .int .i64 n.epoch, .string s9, .int .i64 n.func, .slice aa al ac, .int .i64 n.err, .int .i64 n.val, .int .i64 n.vep, .slice ma ml mc] from HT.out.box).below hb5)
    have HL5 := hide (HT.out.low.trans (hb5.mono HT.out.low.size))
    have HM5 := hide (HNM3.out.below hb5)
    have kb := keep_cell HT.out.cur.bad hb5
    clear k0 k1 k2 k3 k4 k5 k6 k7 k8 k9 k10
    cases hbb : b5 with
    | true =>
      rw [hbb] at kb
      clear hbb
      obtain ⟨q0, q1, q2, q3, q4, q5, q6, q7, q8, q9, q10⟩ := HR5.out.c11
      obtain ⟨v0, v1, v2, v3, v4, v5, v6, v7, v8, v9, v10⟩ := HR5.out.f11
      go_wp2
      have HX7 := hide (put11_box HR5.out (.int .i64 0) (.int .i64 0) (.int .i64 0) (.int .i64 0) (.string ⟨#[]⟩) (.int .i64 0) (.slice none 0 0) (.int .i64 0) (.int .i64 0) (.int .i64 0) (.slice none 0 0))
      have HB7 := hide (put11_below (g := w.heap.size) HL5.out (Nat.le_refl _) (.int .i64 0) (.int .i64 0) (.int .i64 0) (.int .i64 0) (.string ⟨#[]⟩) (.int .i64 0) (.slice none 0 0) (.int .i64 0) (.int .i64 0) (.int .i64 0) (.slice none 0 0))
      obtain ⟨Y, hY⟩ : ∃ Y, Y = put11 w5 w.heap.size (.int .i64 0) (.int .i64 0) (.int .i64 0) (.int .i64 0) (.string ⟨#[]⟩) (.int .i64 0) (.slice none 0 0) (.int .i64 0) (.int .i64 0) (.int .i64 0) (.slice none 0 0) := ⟨_, rfl⟩
      rw [← hY] at HX7 HB7
      unfold put11 at hY
      rw [← hY]
      clear hY
      obtain ⟨x0, x1, x2, x3, x4, x5, x6, x7, x8, x9, x10⟩ := HX7.out.c11
      refine bodyPost_ret (v := .tuple #[.agg #[.int .i64 0, .int .i64 0, .int .i64 0, .int .i64 0, .string ⟨#[]⟩, .int .i64 0, .slice none 0 0, .int .i64 0, .int .i64 0, .int .i64 0, .slice none 0 0], .int .i64 4]) (by simp [results, Try.results18, go_sem, x0, x1, x2, x3, x4, x5, x6, x7, x8, x9, x10]) rfl ?_
      unfold RNPost
      rw [HNO.out]
      exact ⟨rfl, HB7.out⟩
    | false =>
      rw [hbb] at kb
      clear hbb
      obtain ⟨q0, q1, q2, q3, q4, q5, q6, q7, q8, q9, q10⟩ := HR5.out.c11
      obtain ⟨v0, v1, v2, v3, v4, v5, v6, v7, v8, v9, v10⟩ := HR5.out.f11
      go_wp2
      have HX7 := hide (put11_box HR5.out (.int .i64 0) (.int .i64 0) (.int .i64 0) (.int .i64 0) (.string ⟨#[]⟩) (.int .i64 0) (.slice none 0 0) (.int .i64 0) (.int .i64 0) (.int .i64 0) (.slice none 0 0))
      have HB7 := hide (put11_below (g := w.heap.size) HL5.out (Nat.le_refl _) (.int .i64 0) (.int .i64 0) (.int .i64 0) (.int .i64 0) (.string ⟨#[]⟩) (.int .i64 0) (.slice none 0 0) (.int .i64 0) (.int .i64 0) (.int .i64 0) (.slice none 0 0))
      obtain ⟨Y, hY⟩ : ∃ Y, Y = put11 w5 w.heap.size (.int .i64 0) (.int .i64 0) (.int .i64 0) (.int .i64 0) (.string ⟨#[]⟩) (.int .i64 0) (.slice none 0 0) (.int .i64 0) (.int .i64 0) (.int .i64 0) (.slice none 0 0) := ⟨_, rfl⟩
      rw [← hY] at HX7 HB7
      unfold put11 at hY
      rw [← hY]
      clear hY
      obtain ⟨x0, x1, x2, x3, x4, x5, x6, x7, x8, x9, x10⟩ := HX7.out.c11
      refine bodyPost_ret (v := .tuple #[.agg #[.int .i64 0, .int .i64 0, .int .i64 0, .int .i64 0, .string ⟨#[]⟩, .int .i64 0, .slice none 0 0, .int .i64 0, .int .i64 0, .int .i64 0, .slice none 0 0], .int .i64 4]) (by simp [results, Try.results18, go_sem, x0, x1, x2, x3, x4, x5, x6, x7, x8, x9, x10]) rfl ?_
      unfold RNPost
      rw [HNO.out]
      exact ⟨rfl, HB7.out⟩

set_option maxRecDepth 100000 in
set_option maxHeartbeats 16000000 in
theorem rn_8 (a : Option Addr) (l c : Nat) (bs : List Nat) (w : World) (hs : SrcA w a l c bs) (r0 : List Nat) (b0 : Bool) (e0 : rdInt bs false = (8, r0, b0)) : Calls Try.prog 18 #[.slice a l c] w (RNPost bs w) := by
  have hy0 : Byt r0 ∧ r0.length ≤ 20000 := ⟨rdInt_byt hs.byt e0, by have h1 := rdInt_len bs false; rw [e0] at h1; simp only at h1; have h2 := hs.len; have h3 := hs.few; omega⟩
  have hbl1 := rdBytes_len r0 b0
  obtain ⟨⟨x1, r1, b1⟩, e1⟩ : ∃ z, rdBytes r0 b0 = z := ⟨_, rfl⟩
  rw [e1] at hbl1
  have hbt1 : Byt x1 ∧ x1.length ≤ 20000 := ⟨rdBytes_byt hy0.1 e1, by have h2 := hy0.2; simp only at hbl1; omega⟩
  clear hbl1
  have hy1 : Byt r1 ∧ r1.length ≤ 20000 := rdBytes_rest hy0.1 hy0.2 e1
  obtain ⟨⟨x2, r2, b2⟩, e2⟩ : ∃ z, rdInt r1 b1 = z := ⟨_, rfl⟩
  have hy2 : Byt r2 ∧ r2.length ≤ 20000 := ⟨rdInt_byt hy1.1 e2, by have h1 := rdInt_len r1 b1; rw [e2] at h1; simp only at h1; have h2 := hy1.2; omega⟩
  obtain ⟨⟨x3, r3, b3⟩, e3⟩ : ∃ z, rdInt r2 b2 = z := ⟨_, rfl⟩
  have hy3 : Byt r3 ∧ r3.length ≤ 20000 := ⟨rdInt_byt hy2.1 e3, by have h1 := rdInt_len r2 b2; rw [e3] at h1; simp only at h1; have h2 := hy2.2; omega⟩
  have HRN := hide (show rdNote 20 bs = (⟨8, 0, 0, 0, x1, 0, [], x2, x3, 0, []⟩, r3, b3) by
    simp [rdNote, hasView, hasEpoch, hasLife, hasNode, hasId, hasRes, hasFunc, rdI, rdB, rdMem, rdMany, e0, e1, e2, e3])
  have K0 := hide (fun W (h : RS w W a l c bs bs false no0 ⟨#[]⟩ (.slice none 0 0) (.slice none 0 0)) => h.int hs)
  simp only [e0] at K0
  have K1 := hide (fun W n s av mv (h : RS w W a l c bs r0 b0 n s av mv) => h.bytes hs)
  simp only [e1] at K1
  have K2 := hide (fun W n s av mv (h : RS w W a l c bs r1 b1 n s av mv) => h.int hs)
  simp only [e2] at K2
  have K3 := hide (fun W n s av mv (h : RS w W a l c bs r2 b2 n s av mv) => h.int hs)
  simp only [e3] at K3
  have H0 := hide (rs_start (w := w) (a := a) (l := l) (c := c) (bs := bs))
  obtain ⟨V, hV⟩ : ∃ V, V = ((w.alloc (.cells #[.int .i64 0, .int .i64 0, .int .i64 0, .int .i64 0, .string ⟨#[]⟩, .int .i64 0, .slice none 0 0, .int .i64 0, .int .i64 0, .int .i64 0, .slice none 0 0] 31)).alloc (.cells #[.slice a l c, .int .i64 0, .bool false] 73)).alloc (.cells #[.int .i64 0, .int .i64 0, .int .i64 0, .int .i64 0, .string ⟨#[]⟩, .int .i64 0, .slice none 0 0, .int .i64 0, .int .i64 0, .int .i64 0, .slice none 0 0] 31) := ⟨_, rfl⟩
  rw [← hV] at H0
  have HV := hide hV
  have HSA := hide hs
  clear hV e0 e1 e2 e3 hs
  go_enter Try.func18, Try.ntmps18
  go_upto_region 36 with (first
    | (go_at_call 32; ((rw [← HV.out]; (with_reducible refine (K0.out V H0.out).mono ?_)); rintro e w0 ⟨rfl, h0⟩; have kc0 := (h0.box.2 0 (by simp [Nc])).1; have kf0 := (h0.box.2 0 (by simp [Nc])).2; have HS0 := hide (h0.put0 8); clear h0))
    | (go_at_call 33; ((with_reducible refine (K1.out _ _ _ _ _ HS0.out).mono ?_); rintro e w1 ⟨ta1, tm1, tc1, rfl, hcv1, h1⟩; have kc1 := (h1.box.2 4 (by simp [Nc])).1; have kf1 := (h1.box.2 4 (by simp [Nc])).2; have HS1 := hide (h1.put4 x1 hbt1.1 hbt1.2); clear h1))
    | (go_at_call 32; ((with_reducible refine (K2.out _ _ _ _ _ HS1.out).mono ?_); rintro e w2 ⟨rfl, h2⟩; have kc2 := (h2.box.2 7 (by simp [Nc])).1; have kf2 := (h2.box.2 7 (by simp [Nc])).2; have HS2 := hide (h2.put7 x2); clear h2))
    | (go_at_call 32; ((with_reducible refine (K3.out _ _ _ _ _ HS2.out).mono ?_); rintro e w3 ⟨rfl, h3⟩; have kc3 := (h3.box.2 8 (by simp [Nc])).1; have kf3 := (h3.box.2 8 (by simp [Nc])).2; have HS3 := hide (h3.put8 x3); clear h3)))
  obtain ⟨av9, mv9, HT⟩ : ∃ av9 mv9, Hid (RS w (w3.setCell ⟨w.heap.size + 2, 8, none⟩ (.int .i64 x3)) a l c bs r3 b3 ⟨8, 0, 0, 0, x1, 0, [], x2, x3, 0, []⟩ (bstr x1) av9 mv9) := ⟨(.slice none 0 0), (.slice none 0 0), HS3⟩
  generalize w3.setCell ⟨w.heap.size + 2, 8, none⟩ (.int .i64 x3) = X at HT ⊢
  obtain ⟨n, hnn⟩ : ∃ n : No, n = ⟨8, 0, 0, 0, x1, 0, [], x2, x3, 0, []⟩ := ⟨_, rfl⟩
  rw [← hnn] at HT HRN
  clear hnn
  obtain ⟨s9, hs9⟩ : ∃ s9 : ByteArray, s9 = (bstr x1) := ⟨_, rfl⟩
  rw [← hs9] at HT
  clear hs9
  have HIN := hide (rdNote_in bs)
  rw [HRN.out] at HIN
  have hNM9 := HT.out.nm
  obtain ⟨-, -, -, -, ⟨aa, al, ac, rfl, -⟩, ⟨ma, ml, mc, rfl, -⟩⟩ := hNM9
  have HNM := hide HT.out.nm
  have HNM3 := hide (HT.out.nm3)
  obtain ⟨k0, k1, k2, k3, k4, k5, k6, k7, k8, k9, k10⟩ := (show BoxL X (w.heap.size + 2) [.int .i64 n.kind, .int .i64 n.node, .int .i64 n.life, .int .i64 n.epoch, .string s9, .int .i64 n.func, .slice aa al ac, .int .i64 n.err, .int .i64 n.val, .int .i64 n.vep, .slice ma ml mc] from HT.out.box).c11
  by_cases hm : mayN (clearN n) = true
  · have C12 := hide (rpackQ n s9 _ _ _ X HNM.out HIN.out hm)
    simp only [Nv] at C12
    unfold RP at C12
    have hBy := nm_byt HNM.out HIN.out
    have HE1 := hide (bstr_eq hBy HSA.out.byt)
    cases hbb : b3 with
    | true =>
      have HNO := hide (okR_no HRN.out (.inl hbb))
      go_upto_region 37 with (go_at_call 12; go_must ((with_reducible refine C12.out.mono ?_); rintro e w5 ⟨a5, m5, c5, rfl, hm5, -, -, hr5, hb5⟩))
      have HR5 := hide (HT.out.res.below hb5)
      have HN5 := hide ((show BoxL X (w.heap.size + 2) [.int .i64 n.kind, .int .i64 n.node, .int .i64 n.life, .int .i64 n.epoch, .string s9, .int .i64 n.func, .slice aa al ac, .int .i64 n.err, .int .i64 n.val, .int .i64 n.vep, .slice ma ml mc] from HT.out.box).below hb5)
      have HL5 := hide (HT.out.low.trans (hb5.mono HT.out.low.size))
      have HM5 := hide (HNM3.out.below hb5)
      have kb := keep_cell HT.out.cur.bad hb5
      clear k0 k1 k2 k3 k4 k5 k6 k7 k8 k9 k10
      rw [hbb] at kb
      clear hbb
      obtain ⟨q0, q1, q2, q3, q4, q5, q6, q7, q8, q9, q10⟩ := HR5.out.c11
      obtain ⟨v0, v1, v2, v3, v4, v5, v6, v7, v8, v9, v10⟩ := HR5.out.f11
      go_wp2
      have HX7 := hide (put11_box HR5.out (.int .i64 0) (.int .i64 0) (.int .i64 0) (.int .i64 0) (.string ⟨#[]⟩) (.int .i64 0) (.slice none 0 0) (.int .i64 0) (.int .i64 0) (.int .i64 0) (.slice none 0 0))
      have HB7 := hide (put11_below (g := w.heap.size) HL5.out (Nat.le_refl _) (.int .i64 0) (.int .i64 0) (.int .i64 0) (.int .i64 0) (.string ⟨#[]⟩) (.int .i64 0) (.slice none 0 0) (.int .i64 0) (.int .i64 0) (.int .i64 0) (.slice none 0 0))
      obtain ⟨Y, hY⟩ : ∃ Y, Y = put11 w5 w.heap.size (.int .i64 0) (.int .i64 0) (.int .i64 0) (.int .i64 0) (.string ⟨#[]⟩) (.int .i64 0) (.slice none 0 0) (.int .i64 0) (.int .i64 0) (.int .i64 0) (.slice none 0 0) := ⟨_, rfl⟩
      rw [← hY] at HX7 HB7
      unfold put11 at hY
      rw [← hY]
      clear hY
      obtain ⟨x0, x1, x2, x3, x4, x5, x6, x7, x8, x9, x10⟩ := HX7.out.c11
      refine bodyPost_ret (v := .tuple #[.agg #[.int .i64 0, .int .i64 0, .int .i64 0, .int .i64 0, .string ⟨#[]⟩, .int .i64 0, .slice none 0 0, .int .i64 0, .int .i64 0, .int .i64 0, .slice none 0 0], .int .i64 4]) (by simp [results, Try.results18, go_sem, x0, x1, x2, x3, x4, x5, x6, x7, x8, x9, x10]) rfl ?_
      unfold RNPost
      rw [HNO.out]
      exact ⟨rfl, HB7.out⟩
    | false =>
      by_cases he : encN (clearN n) = bs
      · have HYES := hide (okR_yes (by rw [HRN.out, hbb]) hm he)
        rw [decide_eq_true he] at HE1
        go_upto_region 37 with (go_at_call 12; go_must ((with_reducible refine C12.out.mono ?_); rintro e w5 ⟨a5, m5, c5, rfl, hm5, -, -, hr5, hb5⟩))
        have HR5 := hide (HT.out.res.below hb5)
        have HN5 := hide ((show BoxL X (w.heap.size + 2) [.int .i64 n.kind, .int .i64 n.node, .int .i64 n.life, .int .i64 n.epoch, .string s9, .int .i64 n.func, .slice aa al ac, .int .i64 n.err, .int .i64 n.val, .int .i64 n.vep, .slice ma ml mc] from HT.out.box).below hb5)
        have HL5 := hide (HT.out.low.trans (hb5.mono HT.out.low.size))
        have HM5 := hide (HNM3.out.below hb5)
        have kb := keep_cell HT.out.cur.bad hb5
        clear k0 k1 k2 k3 k4 k5 k6 k7 k8 k9 k10
        rw [hbb] at kb
        clear hbb
        have kcw := run_str (S := bstr (encN (clearN n))) rfl hm5.out hr5.out c5
        have kcb := run_str (S := bstr bs) rfl HSA.out.len (HSA.out.reads.below HL5.out) c
        generalize bstr (encN (clearN n)) = S1 at kcw HE1
        generalize bstr bs = S2 at kcb HE1
        have hE1 := HE1.out
        obtain ⟨q0, q1, q2, q3, q4, q5, q6, q7, q8, q9, q10⟩ := HR5.out.c11
        obtain ⟨v0, v1, v2, v3, v4, v5, v6, v7, v8, v9, v10⟩ := HR5.out.f11
        obtain ⟨g0, g1, g2, g3, g4, g5, g6, g7, g8, g9, g10⟩ := HN5.out.c11
        go_wp2
        have HX7 := hide (put11_box HR5.out (.int .i64 n.kind) (.int .i64 n.node) (.int .i64 n.life) (.int .i64 n.epoch) (.string s9) (.int .i64 n.func) (.slice aa al ac) (.int .i64 n.err) (.int .i64 n.val) (.int .i64 n.vep) (.slice ma ml mc))
        have HB7 := hide (put11_below (g := w.heap.size) HL5.out (Nat.le_refl _) (.int .i64 n.kind) (.int .i64 n.node) (.int .i64 n.life) (.int .i64 n.epoch) (.string s9) (.int .i64 n.func) (.slice aa al ac) (.int .i64 n.err) (.int .i64 n.val) (.int .i64 n.vep) (.slice ma ml mc))
        have HM7 := hide (HM5.out.keep (w' := put11 w5 w.heap.size (.int .i64 n.kind) (.int .i64 n.node) (.int .i64 n.life) (.int .i64 n.epoch) (.string s9) (.int .i64 n.func) (.slice aa al ac) (.int .i64 n.err) (.int .i64 n.val) (.int .i64 n.vep) (.slice ma ml mc)) (fun k h1 _ => put11_keep (by omega) (.int .i64 n.kind) (.int .i64 n.node) (.int .i64 n.life) (.int .i64 n.epoch) (.string s9) (.int .i64 n.func) (.slice aa al ac) (.int .i64 n.err) (.int .i64 n.val) (.int .i64 n.vep) (.slice ma ml mc)))
        obtain ⟨Y, hY⟩ : ∃ Y, Y = put11 w5 w.heap.size (.int .i64 n.kind) (.int .i64 n.node) (.int .i64 n.life) (.int .i64 n.epoch) (.string s9) (.int .i64 n.func) (.slice aa al ac) (.int .i64 n.err) (.int .i64 n.val) (.int .i64 n.vep) (.slice ma ml mc) := ⟨_, rfl⟩
        rw [← hY] at HX7 HB7 HM7
        unfold put11 at hY
        rw [← hY]
        clear hY
        obtain ⟨x0, x1, x2, x3, x4, x5, x6, x7, x8, x9, x10⟩ := HX7.out.c11
        refine bodyPost_ret (v := .tuple #[.agg #[.int .i64 n.kind, .int .i64 n.node, .int .i64 n.life, .int .i64 n.epoch, .string s9, .int .i64 n.func, .slice aa al ac, .int .i64 n.err, .int .i64 n.val, .int .i64 n.vep, .slice ma ml mc], .int .i64 0]) (by simp [results, Try.results18, go_sem, x0, x1, x2, x3, x4, x5, x6, x7, x8, x9, x10]) rfl ?_
        unfold RNPost
        rw [HYES.out, if_pos rfl, HRN.out]
        exact ⟨s9, .slice aa al ac, .slice ma ml mc, rfl, HM7.out.mono (by omega), HB7.out⟩
      · have HNO := hide (okR_no HRN.out (.inr (.inr he)))
        rw [decide_eq_false he] at HE1
        go_upto_region 37 with (go_at_call 12; go_must ((with_reducible refine C12.out.mono ?_); rintro e w5 ⟨a5, m5, c5, rfl, hm5, -, -, hr5, hb5⟩))
        have HR5 := hide (HT.out.res.below hb5)
        have HN5 := hide ((show BoxL X (w.heap.size + 2) [.int .i64 n.kind, .int .i64 n.node, .int .i64 n.life, .int .i64 n.epoch, .string s9, .int .i64 n.func, .slice aa al ac, .int .i64 n.err, .int .i64 n.val, .int .i64 n.vep, .slice ma ml mc] from HT.out.box).below hb5)
        have HL5 := hide (HT.out.low.trans (hb5.mono HT.out.low.size))
        have HM5 := hide (HNM3.out.below hb5)
        have kb := keep_cell HT.out.cur.bad hb5
        clear k0 k1 k2 k3 k4 k5 k6 k7 k8 k9 k10
        rw [hbb] at kb
        clear hbb
        have kcw := run_str (S := bstr (encN (clearN n))) rfl hm5.out hr5.out c5
        have kcb := run_str (S := bstr bs) rfl HSA.out.len (HSA.out.reads.below HL5.out) c
        generalize bstr (encN (clearN n)) = S1 at kcw HE1
        generalize bstr bs = S2 at kcb HE1
        have hE1 := HE1.out
        obtain ⟨q0, q1, q2, q3, q4, q5, q6, q7, q8, q9, q10⟩ := HR5.out.c11
        obtain ⟨v0, v1, v2, v3, v4, v5, v6, v7, v8, v9, v10⟩ := HR5.out.f11
        go_wp2
        have HX7 := hide (put11_box HR5.out (.int .i64 0) (.int .i64 0) (.int .i64 0) (.int .i64 0) (.string ⟨#[]⟩) (.int .i64 0) (.slice none 0 0) (.int .i64 0) (.int .i64 0) (.int .i64 0) (.slice none 0 0))
        have HB7 := hide (put11_below (g := w.heap.size) HL5.out (Nat.le_refl _) (.int .i64 0) (.int .i64 0) (.int .i64 0) (.int .i64 0) (.string ⟨#[]⟩) (.int .i64 0) (.slice none 0 0) (.int .i64 0) (.int .i64 0) (.int .i64 0) (.slice none 0 0))
        obtain ⟨Y, hY⟩ : ∃ Y, Y = put11 w5 w.heap.size (.int .i64 0) (.int .i64 0) (.int .i64 0) (.int .i64 0) (.string ⟨#[]⟩) (.int .i64 0) (.slice none 0 0) (.int .i64 0) (.int .i64 0) (.int .i64 0) (.slice none 0 0) := ⟨_, rfl⟩
        rw [← hY] at HX7 HB7
        unfold put11 at hY
        rw [← hY]
        clear hY
        obtain ⟨x0, x1, x2, x3, x4, x5, x6, x7, x8, x9, x10⟩ := HX7.out.c11
        refine bodyPost_ret (v := .tuple #[.agg #[.int .i64 0, .int .i64 0, .int .i64 0, .int .i64 0, .string ⟨#[]⟩, .int .i64 0, .slice none 0 0, .int .i64 0, .int .i64 0, .int .i64 0, .slice none 0 0], .int .i64 4]) (by simp [results, Try.results18, go_sem, x0, x1, x2, x3, x4, x5, x6, x7, x8, x9, x10]) rfl ?_
        unfold RNPost
        rw [HNO.out]
        exact ⟨rfl, HB7.out⟩
  · have HNO := hide (okR_no HRN.out (.inr (.inl (by simpa using hm))))
    have C12 := hide (rpackN n s9 _ _ _ X HNM.out HIN.out (by simpa using hm))
    simp only [Nv] at C12
    go_upto_region 37 with (go_at_call 12; go_must ((with_reducible refine C12.out.mono ?_); rintro e w5 ⟨rfl, hb5⟩))
    have HR5 := hide (HT.out.res.below hb5)
    have HN5 := hide ((show BoxL X (w.heap.size + 2) [.int .i64 n.kind, .int .i64 n.node, .int .i64 n.life, .int .i64 n.epoch, .string s9, .int .i64 n.func, .slice aa al ac, .int .i64 n.err, .int .i64 n.val, .int .i64 n.vep, .slice ma ml mc] from HT.out.box).below hb5)
    have HL5 := hide (HT.out.low.trans (hb5.mono HT.out.low.size))
    have HM5 := hide (HNM3.out.below hb5)
    have kb := keep_cell HT.out.cur.bad hb5
    clear k0 k1 k2 k3 k4 k5 k6 k7 k8 k9 k10
    cases hbb : b3 with
    | true =>
      rw [hbb] at kb
      clear hbb
      obtain ⟨q0, q1, q2, q3, q4, q5, q6, q7, q8, q9, q10⟩ := HR5.out.c11
      obtain ⟨v0, v1, v2, v3, v4, v5, v6, v7, v8, v9, v10⟩ := HR5.out.f11
      go_wp2
      have HX7 := hide (put11_box HR5.out (.int .i64 0) (.int .i64 0) (.int .i64 0) (.int .i64 0) (.string ⟨#[]⟩) (.int .i64 0) (.slice none 0 0) (.int .i64 0) (.int .i64 0) (.int .i64 0) (.slice none 0 0))
      have HB7 := hide (put11_below (g := w.heap.size) HL5.out (Nat.le_refl _) (.int .i64 0) (.int .i64 0) (.int .i64 0) (.int .i64 0) (.string ⟨#[]⟩) (.int .i64 0) (.slice none 0 0) (.int .i64 0) (.int .i64 0) (.int .i64 0) (.slice none 0 0))
      obtain ⟨Y, hY⟩ : ∃ Y, Y = put11 w5 w.heap.size (.int .i64 0) (.int .i64 0) (.int .i64 0) (.int .i64 0) (.string ⟨#[]⟩) (.int .i64 0) (.slice none 0 0) (.int .i64 0) (.int .i64 0) (.int .i64 0) (.slice none 0 0) := ⟨_, rfl⟩
      rw [← hY] at HX7 HB7
      unfold put11 at hY
      rw [← hY]
      clear hY
      obtain ⟨x0, x1, x2, x3, x4, x5, x6, x7, x8, x9, x10⟩ := HX7.out.c11
      refine bodyPost_ret (v := .tuple #[.agg #[.int .i64 0, .int .i64 0, .int .i64 0, .int .i64 0, .string ⟨#[]⟩, .int .i64 0, .slice none 0 0, .int .i64 0, .int .i64 0, .int .i64 0, .slice none 0 0], .int .i64 4]) (by simp [results, Try.results18, go_sem, x0, x1, x2, x3, x4, x5, x6, x7, x8, x9, x10]) rfl ?_
      unfold RNPost
      rw [HNO.out]
      exact ⟨rfl, HB7.out⟩
    | false =>
      rw [hbb] at kb
      clear hbb
      obtain ⟨q0, q1, q2, q3, q4, q5, q6, q7, q8, q9, q10⟩ := HR5.out.c11
      obtain ⟨v0, v1, v2, v3, v4, v5, v6, v7, v8, v9, v10⟩ := HR5.out.f11
      go_wp2
      have HX7 := hide (put11_box HR5.out (.int .i64 0) (.int .i64 0) (.int .i64 0) (.int .i64 0) (.string ⟨#[]⟩) (.int .i64 0) (.slice none 0 0) (.int .i64 0) (.int .i64 0) (.int .i64 0) (.slice none 0 0))
      have HB7 := hide (put11_below (g := w.heap.size) HL5.out (Nat.le_refl _) (.int .i64 0) (.int .i64 0) (.int .i64 0) (.int .i64 0) (.string ⟨#[]⟩) (.int .i64 0) (.slice none 0 0) (.int .i64 0) (.int .i64 0) (.int .i64 0) (.slice none 0 0))
      obtain ⟨Y, hY⟩ : ∃ Y, Y = put11 w5 w.heap.size (.int .i64 0) (.int .i64 0) (.int .i64 0) (.int .i64 0) (.string ⟨#[]⟩) (.int .i64 0) (.slice none 0 0) (.int .i64 0) (.int .i64 0) (.int .i64 0) (.slice none 0 0) := ⟨_, rfl⟩
      rw [← hY] at HX7 HB7
      unfold put11 at hY
      rw [← hY]
      clear hY
      obtain ⟨x0, x1, x2, x3, x4, x5, x6, x7, x8, x9, x10⟩ := HX7.out.c11
      refine bodyPost_ret (v := .tuple #[.agg #[.int .i64 0, .int .i64 0, .int .i64 0, .int .i64 0, .string ⟨#[]⟩, .int .i64 0, .slice none 0 0, .int .i64 0, .int .i64 0, .int .i64 0, .slice none 0 0], .int .i64 4]) (by simp [results, Try.results18, go_sem, x0, x1, x2, x3, x4, x5, x6, x7, x8, x9, x10]) rfl ?_
      unfold RNPost
      rw [HNO.out]
      exact ⟨rfl, HB7.out⟩


set_option maxRecDepth 100000 in
set_option maxHeartbeats 16000000 in
theorem rn_far (a : Option Addr) (l c : Nat) (bs : List Nat) (w : World) (hs : SrcA w a l c bs) (r0 : List Nat) (b0 : Bool) (k : Int) (hk : 11 ≤ k) (e0 : rdInt bs false = (k, r0, b0)) : Calls Try.prog 18 #[.slice a l c] w (RNPost bs w) := by
  have f1 : (k == 1) = false := by rw [beq_eq_false_iff_ne]; omega
  have f2 : (k == 2) = false := by rw [beq_eq_false_iff_ne]; omega
  have f3 : (k == 3) = false := by rw [beq_eq_false_iff_ne]; omega
  have f4 : (k == 4) = false := by rw [beq_eq_false_iff_ne]; omega
  have f5 : (k == 5) = false := by rw [beq_eq_false_iff_ne]; omega
  have f6 : (k == 6) = false := by rw [beq_eq_false_iff_ne]; omega
  have f7 : (k == 7) = false := by rw [beq_eq_false_iff_ne]; omega
  have f8 : (k == 8) = false := by rw [beq_eq_false_iff_ne]; omega
  have f9 : (k == 9) = false := by rw [beq_eq_false_iff_ne]; omega
  have f10 : (k == 10) = false := by rw [beq_eq_false_iff_ne]; omega
  have h4 : 4 ≤ k := by omega
  have hy0 : Byt r0 ∧ r0.length ≤ 20000 := ⟨rdInt_byt hs.byt e0, by have h1 := rdInt_len bs false; rw [e0] at h1; simp only at h1; have h2 := hs.len; have h3 := hs.few; omega⟩
  have hbl1 := rdBytes_len r0 b0
  obtain ⟨⟨x1, r1, b1⟩, e1⟩ : ∃ z, rdBytes r0 b0 = z := ⟨_, rfl⟩
  rw [e1] at hbl1
  have hbt1 : Byt x1 ∧ x1.length ≤ 20000 := ⟨rdBytes_byt hy0.1 e1, by have h2 := hy0.2; simp only at hbl1; omega⟩
  clear hbl1
  have hy1 : Byt r1 ∧ r1.length ≤ 20000 := rdBytes_rest hy0.1 hy0.2 e1
  have HRN := hide (show rdNote 20 bs = (⟨k, 0, 0, 0, x1, 0, [], 0, 0, 0, []⟩, r1, b1) by
    simp [rdNote, hasView, hasEpoch, hasLife, hasNode, hasId, hasRes, hasFunc, rdI, rdB, rdMem, rdMany, e0, e1, f1, f2, f3, f4, f5, f6, f7, f8, f9, f10, h4])
  have K0 := hide (fun W (h : RS w W a l c bs bs false no0 ⟨#[]⟩ (.slice none 0 0) (.slice none 0 0)) => h.int hs)
  simp only [e0] at K0
  have K1 := hide (fun W n s av mv (h : RS w W a l c bs r0 b0 n s av mv) => h.bytes hs)
  simp only [e1] at K1
  have H0 := hide (rs_start (w := w) (a := a) (l := l) (c := c) (bs := bs))
  obtain ⟨V, hV⟩ : ∃ V, V = ((w.alloc (.cells #[.int .i64 0, .int .i64 0, .int .i64 0, .int .i64 0, .string ⟨#[]⟩, .int .i64 0, .slice none 0 0, .int .i64 0, .int .i64 0, .int .i64 0, .slice none 0 0] 31)).alloc (.cells #[.slice a l c, .int .i64 0, .bool false] 73)).alloc (.cells #[.int .i64 0, .int .i64 0, .int .i64 0, .int .i64 0, .string ⟨#[]⟩, .int .i64 0, .slice none 0 0, .int .i64 0, .int .i64 0, .int .i64 0, .slice none 0 0] 31) := ⟨_, rfl⟩
  rw [← hV] at H0
  have HV := hide hV
  have HSA := hide hs
  clear hV e0 e1 hs
  go_enter Try.func18, Try.ntmps18
  go_upto_region 36 with (first
    | (go_at_call 32; ((rw [← HV.out]; (with_reducible refine (K0.out V H0.out).mono ?_)); rintro e w0 ⟨rfl, h0⟩; have kc0 := (h0.box.2 0 (by simp [Nc])).1; have kf0 := (h0.box.2 0 (by simp [Nc])).2; have HS0 := hide (h0.put0 k); clear h0))
    | (go_at_call 33; ((with_reducible refine (K1.out _ _ _ _ _ HS0.out).mono ?_); rintro e w1 ⟨ta1, tm1, tc1, rfl, hcv1, h1⟩; have kc1 := (h1.box.2 4 (by simp [Nc])).1; have kf1 := (h1.box.2 4 (by simp [Nc])).2; have HS1 := hide (h1.put4 x1 hbt1.1 hbt1.2); clear h1)))
  obtain ⟨av9, mv9, HT⟩ : ∃ av9 mv9, Hid (RS w (w1.setCell ⟨w.heap.size + 2, 4, none⟩ (.string (bstr x1))) a l c bs r1 b1 ⟨k, 0, 0, 0, x1, 0, [], 0, 0, 0, []⟩ (bstr x1) av9 mv9) := ⟨(.slice none 0 0), (.slice none 0 0), HS1⟩
  generalize w1.setCell ⟨w.heap.size + 2, 4, none⟩ (.string (bstr x1)) = X at HT ⊢
  obtain ⟨n, hnn⟩ : ∃ n : No, n = ⟨k, 0, 0, 0, x1, 0, [], 0, 0, 0, []⟩ := ⟨_, rfl⟩
  rw [← hnn] at HT HRN
  clear hnn
  obtain ⟨s9, hs9⟩ : ∃ s9 : ByteArray, s9 = (bstr x1) := ⟨_, rfl⟩
  rw [← hs9] at HT
  clear hs9
  have HIN := hide (rdNote_in bs)
  rw [HRN.out] at HIN
  have hNM9 := HT.out.nm
  obtain ⟨-, -, -, -, ⟨aa, al, ac, rfl, -⟩, ⟨ma, ml, mc, rfl, -⟩⟩ := hNM9
  have HNM := hide HT.out.nm
  have HNM3 := hide (HT.out.nm3)
  obtain ⟨k0, k1, k2, k3, k4, k5, k6, k7, k8, k9, k10⟩ := (show BoxL X (w.heap.size + 2) [.int .i64 n.kind, .int .i64 n.node, .int .i64 n.life, .int .i64 n.epoch, .string s9, .int .i64 n.func, .slice aa al ac, .int .i64 n.err, .int .i64 n.val, .int .i64 n.vep, .slice ma ml mc] from HT.out.box).c11
  by_cases hm : mayN (clearN n) = true
  · have C12 := hide (rpackQ n s9 _ _ _ X HNM.out HIN.out hm)
    simp only [Nv] at C12
    unfold RP at C12
    have hBy := nm_byt HNM.out HIN.out
    have HE1 := hide (bstr_eq hBy HSA.out.byt)
    cases hbb : b1 with
    | true =>
      have HNO := hide (okR_no HRN.out (.inl hbb))
      go_upto_region 37 with (go_at_call 12; go_must ((with_reducible refine C12.out.mono ?_); rintro e w5 ⟨a5, m5, c5, rfl, hm5, -, -, hr5, hb5⟩))
      have HR5 := hide (HT.out.res.below hb5)
      have HN5 := hide ((show BoxL X (w.heap.size + 2) [.int .i64 n.kind, .int .i64 n.node, .int .i64 n.life, .int .i64 n.epoch, .string s9, .int .i64 n.func, .slice aa al ac, .int .i64 n.err, .int .i64 n.val, .int .i64 n.vep, .slice ma ml mc] from HT.out.box).below hb5)
      have HL5 := hide (HT.out.low.trans (hb5.mono HT.out.low.size))
      have HM5 := hide (HNM3.out.below hb5)
      have kb := keep_cell HT.out.cur.bad hb5
      clear k0 k1 k2 k3 k4 k5 k6 k7 k8 k9 k10
      rw [hbb] at kb
      clear hbb
      obtain ⟨q0, q1, q2, q3, q4, q5, q6, q7, q8, q9, q10⟩ := HR5.out.c11
      obtain ⟨v0, v1, v2, v3, v4, v5, v6, v7, v8, v9, v10⟩ := HR5.out.f11
      go_wp2
      have HX7 := hide (put11_box HR5.out (.int .i64 0) (.int .i64 0) (.int .i64 0) (.int .i64 0) (.string ⟨#[]⟩) (.int .i64 0) (.slice none 0 0) (.int .i64 0) (.int .i64 0) (.int .i64 0) (.slice none 0 0))
      have HB7 := hide (put11_below (g := w.heap.size) HL5.out (Nat.le_refl _) (.int .i64 0) (.int .i64 0) (.int .i64 0) (.int .i64 0) (.string ⟨#[]⟩) (.int .i64 0) (.slice none 0 0) (.int .i64 0) (.int .i64 0) (.int .i64 0) (.slice none 0 0))
      obtain ⟨Y, hY⟩ : ∃ Y, Y = put11 w5 w.heap.size (.int .i64 0) (.int .i64 0) (.int .i64 0) (.int .i64 0) (.string ⟨#[]⟩) (.int .i64 0) (.slice none 0 0) (.int .i64 0) (.int .i64 0) (.int .i64 0) (.slice none 0 0) := ⟨_, rfl⟩
      rw [← hY] at HX7 HB7
      unfold put11 at hY
      rw [← hY]
      clear hY
      obtain ⟨x0, x1, x2, x3, x4, x5, x6, x7, x8, x9, x10⟩ := HX7.out.c11
      refine bodyPost_ret (v := .tuple #[.agg #[.int .i64 0, .int .i64 0, .int .i64 0, .int .i64 0, .string ⟨#[]⟩, .int .i64 0, .slice none 0 0, .int .i64 0, .int .i64 0, .int .i64 0, .slice none 0 0], .int .i64 4]) (by simp [results, Try.results18, go_sem, x0, x1, x2, x3, x4, x5, x6, x7, x8, x9, x10]) rfl ?_
      unfold RNPost
      rw [HNO.out]
      exact ⟨rfl, HB7.out⟩
    | false =>
      by_cases he : encN (clearN n) = bs
      · have HYES := hide (okR_yes (by rw [HRN.out, hbb]) hm he)
        rw [decide_eq_true he] at HE1
        go_upto_region 37 with (go_at_call 12; go_must ((with_reducible refine C12.out.mono ?_); rintro e w5 ⟨a5, m5, c5, rfl, hm5, -, -, hr5, hb5⟩))
        have HR5 := hide (HT.out.res.below hb5)
        have HN5 := hide ((show BoxL X (w.heap.size + 2) [.int .i64 n.kind, .int .i64 n.node, .int .i64 n.life, .int .i64 n.epoch, .string s9, .int .i64 n.func, .slice aa al ac, .int .i64 n.err, .int .i64 n.val, .int .i64 n.vep, .slice ma ml mc] from HT.out.box).below hb5)
        have HL5 := hide (HT.out.low.trans (hb5.mono HT.out.low.size))
        have HM5 := hide (HNM3.out.below hb5)
        have kb := keep_cell HT.out.cur.bad hb5
        clear k0 k1 k2 k3 k4 k5 k6 k7 k8 k9 k10
        rw [hbb] at kb
        clear hbb
        have kcw := run_str (S := bstr (encN (clearN n))) rfl hm5.out hr5.out c5
        have kcb := run_str (S := bstr bs) rfl HSA.out.len (HSA.out.reads.below HL5.out) c
        generalize bstr (encN (clearN n)) = S1 at kcw HE1
        generalize bstr bs = S2 at kcb HE1
        have hE1 := HE1.out
        obtain ⟨q0, q1, q2, q3, q4, q5, q6, q7, q8, q9, q10⟩ := HR5.out.c11
        obtain ⟨v0, v1, v2, v3, v4, v5, v6, v7, v8, v9, v10⟩ := HR5.out.f11
        obtain ⟨g0, g1, g2, g3, g4, g5, g6, g7, g8, g9, g10⟩ := HN5.out.c11
        go_wp2
        have HX7 := hide (put11_box HR5.out (.int .i64 n.kind) (.int .i64 n.node) (.int .i64 n.life) (.int .i64 n.epoch) (.string s9) (.int .i64 n.func) (.slice aa al ac) (.int .i64 n.err) (.int .i64 n.val) (.int .i64 n.vep) (.slice ma ml mc))
        have HB7 := hide (put11_below (g := w.heap.size) HL5.out (Nat.le_refl _) (.int .i64 n.kind) (.int .i64 n.node) (.int .i64 n.life) (.int .i64 n.epoch) (.string s9) (.int .i64 n.func) (.slice aa al ac) (.int .i64 n.err) (.int .i64 n.val) (.int .i64 n.vep) (.slice ma ml mc))
        have HM7 := hide (HM5.out.keep (w' := put11 w5 w.heap.size (.int .i64 n.kind) (.int .i64 n.node) (.int .i64 n.life) (.int .i64 n.epoch) (.string s9) (.int .i64 n.func) (.slice aa al ac) (.int .i64 n.err) (.int .i64 n.val) (.int .i64 n.vep) (.slice ma ml mc)) (fun k h1 _ => put11_keep (by omega) (.int .i64 n.kind) (.int .i64 n.node) (.int .i64 n.life) (.int .i64 n.epoch) (.string s9) (.int .i64 n.func) (.slice aa al ac) (.int .i64 n.err) (.int .i64 n.val) (.int .i64 n.vep) (.slice ma ml mc)))
        obtain ⟨Y, hY⟩ : ∃ Y, Y = put11 w5 w.heap.size (.int .i64 n.kind) (.int .i64 n.node) (.int .i64 n.life) (.int .i64 n.epoch) (.string s9) (.int .i64 n.func) (.slice aa al ac) (.int .i64 n.err) (.int .i64 n.val) (.int .i64 n.vep) (.slice ma ml mc) := ⟨_, rfl⟩
        rw [← hY] at HX7 HB7 HM7
        unfold put11 at hY
        rw [← hY]
        clear hY
        obtain ⟨x0, x1, x2, x3, x4, x5, x6, x7, x8, x9, x10⟩ := HX7.out.c11
        refine bodyPost_ret (v := .tuple #[.agg #[.int .i64 n.kind, .int .i64 n.node, .int .i64 n.life, .int .i64 n.epoch, .string s9, .int .i64 n.func, .slice aa al ac, .int .i64 n.err, .int .i64 n.val, .int .i64 n.vep, .slice ma ml mc], .int .i64 0]) (by simp [results, Try.results18, go_sem, x0, x1, x2, x3, x4, x5, x6, x7, x8, x9, x10]) rfl ?_
        unfold RNPost
        rw [HYES.out, if_pos rfl, HRN.out]
        exact ⟨s9, .slice aa al ac, .slice ma ml mc, rfl, HM7.out.mono (by omega), HB7.out⟩
      · have HNO := hide (okR_no HRN.out (.inr (.inr he)))
        rw [decide_eq_false he] at HE1
        go_upto_region 37 with (go_at_call 12; go_must ((with_reducible refine C12.out.mono ?_); rintro e w5 ⟨a5, m5, c5, rfl, hm5, -, -, hr5, hb5⟩))
        have HR5 := hide (HT.out.res.below hb5)
        have HN5 := hide ((show BoxL X (w.heap.size + 2) [.int .i64 n.kind, .int .i64 n.node, .int .i64 n.life, .int .i64 n.epoch, .string s9, .int .i64 n.func, .slice aa al ac, .int .i64 n.err, .int .i64 n.val, .int .i64 n.vep, .slice ma ml mc] from HT.out.box).below hb5)
        have HL5 := hide (HT.out.low.trans (hb5.mono HT.out.low.size))
        have HM5 := hide (HNM3.out.below hb5)
        have kb := keep_cell HT.out.cur.bad hb5
        clear k0 k1 k2 k3 k4 k5 k6 k7 k8 k9 k10
        rw [hbb] at kb
        clear hbb
        have kcw := run_str (S := bstr (encN (clearN n))) rfl hm5.out hr5.out c5
        have kcb := run_str (S := bstr bs) rfl HSA.out.len (HSA.out.reads.below HL5.out) c
        generalize bstr (encN (clearN n)) = S1 at kcw HE1
        generalize bstr bs = S2 at kcb HE1
        have hE1 := HE1.out
        obtain ⟨q0, q1, q2, q3, q4, q5, q6, q7, q8, q9, q10⟩ := HR5.out.c11
        obtain ⟨v0, v1, v2, v3, v4, v5, v6, v7, v8, v9, v10⟩ := HR5.out.f11
        go_wp2
        have HX7 := hide (put11_box HR5.out (.int .i64 0) (.int .i64 0) (.int .i64 0) (.int .i64 0) (.string ⟨#[]⟩) (.int .i64 0) (.slice none 0 0) (.int .i64 0) (.int .i64 0) (.int .i64 0) (.slice none 0 0))
        have HB7 := hide (put11_below (g := w.heap.size) HL5.out (Nat.le_refl _) (.int .i64 0) (.int .i64 0) (.int .i64 0) (.int .i64 0) (.string ⟨#[]⟩) (.int .i64 0) (.slice none 0 0) (.int .i64 0) (.int .i64 0) (.int .i64 0) (.slice none 0 0))
        obtain ⟨Y, hY⟩ : ∃ Y, Y = put11 w5 w.heap.size (.int .i64 0) (.int .i64 0) (.int .i64 0) (.int .i64 0) (.string ⟨#[]⟩) (.int .i64 0) (.slice none 0 0) (.int .i64 0) (.int .i64 0) (.int .i64 0) (.slice none 0 0) := ⟨_, rfl⟩
        rw [← hY] at HX7 HB7
        unfold put11 at hY
        rw [← hY]
        clear hY
        obtain ⟨x0, x1, x2, x3, x4, x5, x6, x7, x8, x9, x10⟩ := HX7.out.c11
        refine bodyPost_ret (v := .tuple #[.agg #[.int .i64 0, .int .i64 0, .int .i64 0, .int .i64 0, .string ⟨#[]⟩, .int .i64 0, .slice none 0 0, .int .i64 0, .int .i64 0, .int .i64 0, .slice none 0 0], .int .i64 4]) (by simp [results, Try.results18, go_sem, x0, x1, x2, x3, x4, x5, x6, x7, x8, x9, x10]) rfl ?_
        unfold RNPost
        rw [HNO.out]
        exact ⟨rfl, HB7.out⟩
  · have HNO := hide (okR_no HRN.out (.inr (.inl (by simpa using hm))))
    have C12 := hide (rpackN n s9 _ _ _ X HNM.out HIN.out (by simpa using hm))
    simp only [Nv] at C12
    go_upto_region 37 with (go_at_call 12; go_must ((with_reducible refine C12.out.mono ?_); rintro e w5 ⟨rfl, hb5⟩))
    have HR5 := hide (HT.out.res.below hb5)
    have HN5 := hide ((show BoxL X (w.heap.size + 2) [.int .i64 n.kind, .int .i64 n.node, .int .i64 n.life, .int .i64 n.epoch, .string s9, .int .i64 n.func, .slice aa al ac, .int .i64 n.err, .int .i64 n.val, .int .i64 n.vep, .slice ma ml mc] from HT.out.box).below hb5)
    have HL5 := hide (HT.out.low.trans (hb5.mono HT.out.low.size))
    have HM5 := hide (HNM3.out.below hb5)
    have kb := keep_cell HT.out.cur.bad hb5
    clear k0 k1 k2 k3 k4 k5 k6 k7 k8 k9 k10
    cases hbb : b1 with
    | true =>
      rw [hbb] at kb
      clear hbb
      obtain ⟨q0, q1, q2, q3, q4, q5, q6, q7, q8, q9, q10⟩ := HR5.out.c11
      obtain ⟨v0, v1, v2, v3, v4, v5, v6, v7, v8, v9, v10⟩ := HR5.out.f11
      go_wp2
      have HX7 := hide (put11_box HR5.out (.int .i64 0) (.int .i64 0) (.int .i64 0) (.int .i64 0) (.string ⟨#[]⟩) (.int .i64 0) (.slice none 0 0) (.int .i64 0) (.int .i64 0) (.int .i64 0) (.slice none 0 0))
      have HB7 := hide (put11_below (g := w.heap.size) HL5.out (Nat.le_refl _) (.int .i64 0) (.int .i64 0) (.int .i64 0) (.int .i64 0) (.string ⟨#[]⟩) (.int .i64 0) (.slice none 0 0) (.int .i64 0) (.int .i64 0) (.int .i64 0) (.slice none 0 0))
      obtain ⟨Y, hY⟩ : ∃ Y, Y = put11 w5 w.heap.size (.int .i64 0) (.int .i64 0) (.int .i64 0) (.int .i64 0) (.string ⟨#[]⟩) (.int .i64 0) (.slice none 0 0) (.int .i64 0) (.int .i64 0) (.int .i64 0) (.slice none 0 0) := ⟨_, rfl⟩
      rw [← hY] at HX7 HB7
      unfold put11 at hY
      rw [← hY]
      clear hY
      obtain ⟨x0, x1, x2, x3, x4, x5, x6, x7, x8, x9, x10⟩ := HX7.out.c11
      refine bodyPost_ret (v := .tuple #[.agg #[.int .i64 0, .int .i64 0, .int .i64 0, .int .i64 0, .string ⟨#[]⟩, .int .i64 0, .slice none 0 0, .int .i64 0, .int .i64 0, .int .i64 0, .slice none 0 0], .int .i64 4]) (by simp [results, Try.results18, go_sem, x0, x1, x2, x3, x4, x5, x6, x7, x8, x9, x10]) rfl ?_
      unfold RNPost
      rw [HNO.out]
      exact ⟨rfl, HB7.out⟩
    | false =>
      rw [hbb] at kb
      clear hbb
      obtain ⟨q0, q1, q2, q3, q4, q5, q6, q7, q8, q9, q10⟩ := HR5.out.c11
      obtain ⟨v0, v1, v2, v3, v4, v5, v6, v7, v8, v9, v10⟩ := HR5.out.f11
      go_wp2
      have HX7 := hide (put11_box HR5.out (.int .i64 0) (.int .i64 0) (.int .i64 0) (.int .i64 0) (.string ⟨#[]⟩) (.int .i64 0) (.slice none 0 0) (.int .i64 0) (.int .i64 0) (.int .i64 0) (.slice none 0 0))
      have HB7 := hide (put11_below (g := w.heap.size) HL5.out (Nat.le_refl _) (.int .i64 0) (.int .i64 0) (.int .i64 0) (.int .i64 0) (.string ⟨#[]⟩) (.int .i64 0) (.slice none 0 0) (.int .i64 0) (.int .i64 0) (.int .i64 0) (.slice none 0 0))
      obtain ⟨Y, hY⟩ : ∃ Y, Y = put11 w5 w.heap.size (.int .i64 0) (.int .i64 0) (.int .i64 0) (.int .i64 0) (.string ⟨#[]⟩) (.int .i64 0) (.slice none 0 0) (.int .i64 0) (.int .i64 0) (.int .i64 0) (.slice none 0 0) := ⟨_, rfl⟩
      rw [← hY] at HX7 HB7
      unfold put11 at hY
      rw [← hY]
      clear hY
      obtain ⟨x0, x1, x2, x3, x4, x5, x6, x7, x8, x9, x10⟩ := HX7.out.c11
      refine bodyPost_ret (v := .tuple #[.agg #[.int .i64 0, .int .i64 0, .int .i64 0, .int .i64 0, .string ⟨#[]⟩, .int .i64 0, .slice none 0 0, .int .i64 0, .int .i64 0, .int .i64 0, .slice none 0 0], .int .i64 4]) (by simp [results, Try.results18, go_sem, x0, x1, x2, x3, x4, x5, x6, x7, x8, x9, x10]) rfl ?_
      unfold RNPost
      rw [HNO.out]
      exact ⟨rfl, HB7.out⟩

set_option maxRecDepth 100000 in
set_option maxHeartbeats 16000000 in
theorem rn_low (a : Option Addr) (l c : Nat) (bs : List Nat) (w : World) (hs : SrcA w a l c bs) (r0 : List Nat) (b0 : Bool) (k : Int) (hk : k ≤ 0) (e0 : rdInt bs false = (k, r0, b0)) : Calls Try.prog 18 #[.slice a l c] w (RNPost bs w) := by
  have f1 : (k == 1) = false := by rw [beq_eq_false_iff_ne]; omega
  have f2 : (k == 2) = false := by rw [beq_eq_false_iff_ne]; omega
  have f3 : (k == 3) = false := by rw [beq_eq_false_iff_ne]; omega
  have f4 : (k == 4) = false := by rw [beq_eq_false_iff_ne]; omega
  have f5 : (k == 5) = false := by rw [beq_eq_false_iff_ne]; omega
  have f6 : (k == 6) = false := by rw [beq_eq_false_iff_ne]; omega
  have f7 : (k == 7) = false := by rw [beq_eq_false_iff_ne]; omega
  have f8 : (k == 8) = false := by rw [beq_eq_false_iff_ne]; omega
  have f9 : (k == 9) = false := by rw [beq_eq_false_iff_ne]; omega
  have f10 : (k == 10) = false := by rw [beq_eq_false_iff_ne]; omega
  have h4 : ¬ 4 ≤ k := by omega
  have hy0 : Byt r0 ∧ r0.length ≤ 20000 := ⟨rdInt_byt hs.byt e0, by have h1 := rdInt_len bs false; rw [e0] at h1; simp only at h1; have h2 := hs.len; have h3 := hs.few; omega⟩
  have HRN := hide (show rdNote 20 bs = (⟨k, 0, 0, 0, [], 0, [], 0, 0, 0, []⟩, r0, b0) by
    simp [rdNote, hasView, hasEpoch, hasLife, hasNode, hasId, hasRes, hasFunc, rdI, rdB, rdMem, rdMany, e0, f1, f2, f3, f4, f5, f6, f7, f8, f9, f10, h4])
  have K0 := hide (fun W (h : RS w W a l c bs bs false no0 ⟨#[]⟩ (.slice none 0 0) (.slice none 0 0)) => h.int hs)
  simp only [e0] at K0
  have H0 := hide (rs_start (w := w) (a := a) (l := l) (c := c) (bs := bs))
  obtain ⟨V, hV⟩ : ∃ V, V = ((w.alloc (.cells #[.int .i64 0, .int .i64 0, .int .i64 0, .int .i64 0, .string ⟨#[]⟩, .int .i64 0, .slice none 0 0, .int .i64 0, .int .i64 0, .int .i64 0, .slice none 0 0] 31)).alloc (.cells #[.slice a l c, .int .i64 0, .bool false] 73)).alloc (.cells #[.int .i64 0, .int .i64 0, .int .i64 0, .int .i64 0, .string ⟨#[]⟩, .int .i64 0, .slice none 0 0, .int .i64 0, .int .i64 0, .int .i64 0, .slice none 0 0] 31) := ⟨_, rfl⟩
  rw [← hV] at H0
  have HV := hide hV
  have HSA := hide hs
  clear hV e0 hs
  go_enter Try.func18, Try.ntmps18
  go_upto_region 36 with (first
    | (go_at_call 32; ((rw [← HV.out]; (with_reducible refine (K0.out V H0.out).mono ?_)); rintro e w0 ⟨rfl, h0⟩; have kc0 := (h0.box.2 0 (by simp [Nc])).1; have kf0 := (h0.box.2 0 (by simp [Nc])).2; have HS0 := hide (h0.put0 k); clear h0)))
  obtain ⟨av9, mv9, HT⟩ : ∃ av9 mv9, Hid (RS w (w0.setCell ⟨w.heap.size + 2, 0, none⟩ (.int .i64 k)) a l c bs r0 b0 ⟨k, 0, 0, 0, [], 0, [], 0, 0, 0, []⟩ ⟨#[]⟩ av9 mv9) := ⟨(.slice none 0 0), (.slice none 0 0), HS0⟩
  generalize w0.setCell ⟨w.heap.size + 2, 0, none⟩ (.int .i64 k) = X at HT ⊢
  obtain ⟨n, hnn⟩ : ∃ n : No, n = ⟨k, 0, 0, 0, [], 0, [], 0, 0, 0, []⟩ := ⟨_, rfl⟩
  rw [← hnn] at HT HRN
  clear hnn
  obtain ⟨s9, hs9⟩ : ∃ s9 : ByteArray, s9 = ⟨#[]⟩ := ⟨_, rfl⟩
  rw [← hs9] at HT
  clear hs9
  have HIN := hide (rdNote_in bs)
  rw [HRN.out] at HIN
  have hNM9 := HT.out.nm
  obtain ⟨-, -, -, -, ⟨aa, al, ac, rfl, -⟩, ⟨ma, ml, mc, rfl, -⟩⟩ := hNM9
  have HNM := hide HT.out.nm
  have HNM3 := hide (HT.out.nm3)
  obtain ⟨k0, k1, k2, k3, k4, k5, k6, k7, k8, k9, k10⟩ := (show BoxL X (w.heap.size + 2) [.int .i64 n.kind, .int .i64 n.node, .int .i64 n.life, .int .i64 n.epoch, .string s9, .int .i64 n.func, .slice aa al ac, .int .i64 n.err, .int .i64 n.val, .int .i64 n.vep, .slice ma ml mc] from HT.out.box).c11
  by_cases hm : mayN (clearN n) = true
  · have C12 := hide (rpackQ n s9 _ _ _ X HNM.out HIN.out hm)
    simp only [Nv] at C12
    unfold RP at C12
    have hBy := nm_byt HNM.out HIN.out
    have HE1 := hide (bstr_eq hBy HSA.out.byt)
    cases hbb : b0 with
    | true =>
      have HNO := hide (okR_no HRN.out (.inl hbb))
      go_upto_region 37 with (go_at_call 12; go_must ((with_reducible refine C12.out.mono ?_); rintro e w5 ⟨a5, m5, c5, rfl, hm5, -, -, hr5, hb5⟩))
      have HR5 := hide (HT.out.res.below hb5)
      have HN5 := hide ((show BoxL X (w.heap.size + 2) [.int .i64 n.kind, .int .i64 n.node, .int .i64 n.life, .int .i64 n.epoch, .string s9, .int .i64 n.func, .slice aa al ac, .int .i64 n.err, .int .i64 n.val, .int .i64 n.vep, .slice ma ml mc] from HT.out.box).below hb5)
      have HL5 := hide (HT.out.low.trans (hb5.mono HT.out.low.size))
      have HM5 := hide (HNM3.out.below hb5)
      have kb := keep_cell HT.out.cur.bad hb5
      clear k0 k1 k2 k3 k4 k5 k6 k7 k8 k9 k10
      rw [hbb] at kb
      clear hbb
      obtain ⟨q0, q1, q2, q3, q4, q5, q6, q7, q8, q9, q10⟩ := HR5.out.c11
      obtain ⟨v0, v1, v2, v3, v4, v5, v6, v7, v8, v9, v10⟩ := HR5.out.f11
      go_wp2
      have HX7 := hide (put11_box HR5.out (.int .i64 0) (.int .i64 0) (.int .i64 0) (.int .i64 0) (.string ⟨#[]⟩) (.int .i64 0) (.slice none 0 0) (.int .i64 0) (.int .i64 0) (.int .i64 0) (.slice none 0 0))
      have HB7 := hide (put11_below (g := w.heap.size) HL5.out (Nat.le_refl _) (.int .i64 0) (.int .i64 0) (.int .i64 0) (.int .i64 0) (.string ⟨#[]⟩) (.int .i64 0) (.slice none 0 0) (.int .i64 0) (.int .i64 0) (.int .i64 0) (.slice none 0 0))
      obtain ⟨Y, hY⟩ : ∃ Y, Y = put11 w5 w.heap.size (.int .i64 0) (.int .i64 0) (.int .i64 0) (.int .i64 0) (.string ⟨#[]⟩) (.int .i64 0) (.slice none 0 0) (.int .i64 0) (.int .i64 0) (.int .i64 0) (.slice none 0 0) := ⟨_, rfl⟩
      rw [← hY] at HX7 HB7
      unfold put11 at hY
      rw [← hY]
      clear hY
      obtain ⟨x0, x1, x2, x3, x4, x5, x6, x7, x8, x9, x10⟩ := HX7.out.c11
      refine bodyPost_ret (v := .tuple #[.agg #[.int .i64 0, .int .i64 0, .int .i64 0, .int .i64 0, .string ⟨#[]⟩, .int .i64 0, .slice none 0 0, .int .i64 0, .int .i64 0, .int .i64 0, .slice none 0 0], .int .i64 4]) (by simp [results, Try.results18, go_sem, x0, x1, x2, x3, x4, x5, x6, x7, x8, x9, x10]) rfl ?_
      unfold RNPost
      rw [HNO.out]
      exact ⟨rfl, HB7.out⟩
    | false =>
      by_cases he : encN (clearN n) = bs
      · have HYES := hide (okR_yes (by rw [HRN.out, hbb]) hm he)
        rw [decide_eq_true he] at HE1
        go_upto_region 37 with (go_at_call 12; go_must ((with_reducible refine C12.out.mono ?_); rintro e w5 ⟨a5, m5, c5, rfl, hm5, -, -, hr5, hb5⟩))
        have HR5 := hide (HT.out.res.below hb5)
        have HN5 := hide ((show BoxL X (w.heap.size + 2) [.int .i64 n.kind, .int .i64 n.node, .int .i64 n.life, .int .i64 n.epoch, .string s9, .int .i64 n.func, .slice aa al ac, .int .i64 n.err, .int .i64 n.val, .int .i64 n.vep, .slice ma ml mc] from HT.out.box).below hb5)
        have HL5 := hide (HT.out.low.trans (hb5.mono HT.out.low.size))
        have HM5 := hide (HNM3.out.below hb5)
        have kb := keep_cell HT.out.cur.bad hb5
        clear k0 k1 k2 k3 k4 k5 k6 k7 k8 k9 k10
        rw [hbb] at kb
        clear hbb
        have kcw := run_str (S := bstr (encN (clearN n))) rfl hm5.out hr5.out c5
        have kcb := run_str (S := bstr bs) rfl HSA.out.len (HSA.out.reads.below HL5.out) c
        generalize bstr (encN (clearN n)) = S1 at kcw HE1
        generalize bstr bs = S2 at kcb HE1
        have hE1 := HE1.out
        obtain ⟨q0, q1, q2, q3, q4, q5, q6, q7, q8, q9, q10⟩ := HR5.out.c11
        obtain ⟨v0, v1, v2, v3, v4, v5, v6, v7, v8, v9, v10⟩ := HR5.out.f11
        obtain ⟨g0, g1, g2, g3, g4, g5, g6, g7, g8, g9, g10⟩ := HN5.out.c11
        go_wp2
        have HX7 := hide (put11_box HR5.out (.int .i64 n.kind) (.int .i64 n.node) (.int .i64 n.life) (.int .i64 n.epoch) (.string s9) (.int .i64 n.func) (.slice aa al ac) (.int .i64 n.err) (.int .i64 n.val) (.int .i64 n.vep) (.slice ma ml mc))
        have HB7 := hide (put11_below (g := w.heap.size) HL5.out (Nat.le_refl _) (.int .i64 n.kind) (.int .i64 n.node) (.int .i64 n.life) (.int .i64 n.epoch) (.string s9) (.int .i64 n.func) (.slice aa al ac) (.int .i64 n.err) (.int .i64 n.val) (.int .i64 n.vep) (.slice ma ml mc))
        have HM7 := hide (HM5.out.keep (w' := put11 w5 w.heap.size (.int .i64 n.kind) (.int .i64 n.node) (.int .i64 n.life) (.int .i64 n.epoch) (.string s9) (.int .i64 n.func) (.slice aa al ac) (.int .i64 n.err) (.int .i64 n.val) (.int .i64 n.vep) (.slice ma ml mc)) (fun k h1 _ => put11_keep (by omega) (.int .i64 n.kind) (.int .i64 n.node) (.int .i64 n.life) (.int .i64 n.epoch) (.string s9) (.int .i64 n.func) (.slice aa al ac) (.int .i64 n.err) (.int .i64 n.val) (.int .i64 n.vep) (.slice ma ml mc)))
        obtain ⟨Y, hY⟩ : ∃ Y, Y = put11 w5 w.heap.size (.int .i64 n.kind) (.int .i64 n.node) (.int .i64 n.life) (.int .i64 n.epoch) (.string s9) (.int .i64 n.func) (.slice aa al ac) (.int .i64 n.err) (.int .i64 n.val) (.int .i64 n.vep) (.slice ma ml mc) := ⟨_, rfl⟩
        rw [← hY] at HX7 HB7 HM7
        unfold put11 at hY
        rw [← hY]
        clear hY
        obtain ⟨x0, x1, x2, x3, x4, x5, x6, x7, x8, x9, x10⟩ := HX7.out.c11
        refine bodyPost_ret (v := .tuple #[.agg #[.int .i64 n.kind, .int .i64 n.node, .int .i64 n.life, .int .i64 n.epoch, .string s9, .int .i64 n.func, .slice aa al ac, .int .i64 n.err, .int .i64 n.val, .int .i64 n.vep, .slice ma ml mc], .int .i64 0]) (by simp [results, Try.results18, go_sem, x0, x1, x2, x3, x4, x5, x6, x7, x8, x9, x10]) rfl ?_
        unfold RNPost
        rw [HYES.out, if_pos rfl, HRN.out]
        exact ⟨s9, .slice aa al ac, .slice ma ml mc, rfl, HM7.out.mono (by omega), HB7.out⟩
      · have HNO := hide (okR_no HRN.out (.inr (.inr he)))
        rw [decide_eq_false he] at HE1
        go_upto_region 37 with (go_at_call 12; go_must ((with_reducible refine C12.out.mono ?_); rintro e w5 ⟨a5, m5, c5, rfl, hm5, -, -, hr5, hb5⟩))
        have HR5 := hide (HT.out.res.below hb5)
        have HN5 := hide ((show BoxL X (w.heap.size + 2) [.int .i64 n.kind, .int .i64 n.node, .int .i64 n.life, .int .i64 n.epoch, .string s9, .int .i64 n.func, .slice aa al ac, .int .i64 n.err, .int .i64 n.val, .int .i64 n.vep, .slice ma ml mc] from HT.out.box).below hb5)
        have HL5 := hide (HT.out.low.trans (hb5.mono HT.out.low.size))
        have HM5 := hide (HNM3.out.below hb5)
        have kb := keep_cell HT.out.cur.bad hb5
        clear k0 k1 k2 k3 k4 k5 k6 k7 k8 k9 k10
        rw [hbb] at kb
        clear hbb
        have kcw := run_str (S := bstr (encN (clearN n))) rfl hm5.out hr5.out c5
        have kcb := run_str (S := bstr bs) rfl HSA.out.len (HSA.out.reads.below HL5.out) c
        generalize bstr (encN (clearN n)) = S1 at kcw HE1
        generalize bstr bs = S2 at kcb HE1
        have hE1 := HE1.out
        obtain ⟨q0, q1, q2, q3, q4, q5, q6, q7, q8, q9, q10⟩ := HR5.out.c11
        obtain ⟨v0, v1, v2, v3, v4, v5, v6, v7, v8, v9, v10⟩ := HR5.out.f11
        go_wp2
        have HX7 := hide (put11_box HR5.out (.int .i64 0) (.int .i64 0) (.int .i64 0) (.int .i64 0) (.string ⟨#[]⟩) (.int .i64 0) (.slice none 0 0) (.int .i64 0) (.int .i64 0) (.int .i64 0) (.slice none 0 0))
        have HB7 := hide (put11_below (g := w.heap.size) HL5.out (Nat.le_refl _) (.int .i64 0) (.int .i64 0) (.int .i64 0) (.int .i64 0) (.string ⟨#[]⟩) (.int .i64 0) (.slice none 0 0) (.int .i64 0) (.int .i64 0) (.int .i64 0) (.slice none 0 0))
        obtain ⟨Y, hY⟩ : ∃ Y, Y = put11 w5 w.heap.size (.int .i64 0) (.int .i64 0) (.int .i64 0) (.int .i64 0) (.string ⟨#[]⟩) (.int .i64 0) (.slice none 0 0) (.int .i64 0) (.int .i64 0) (.int .i64 0) (.slice none 0 0) := ⟨_, rfl⟩
        rw [← hY] at HX7 HB7
        unfold put11 at hY
        rw [← hY]
        clear hY
        obtain ⟨x0, x1, x2, x3, x4, x5, x6, x7, x8, x9, x10⟩ := HX7.out.c11
        refine bodyPost_ret (v := .tuple #[.agg #[.int .i64 0, .int .i64 0, .int .i64 0, .int .i64 0, .string ⟨#[]⟩, .int .i64 0, .slice none 0 0, .int .i64 0, .int .i64 0, .int .i64 0, .slice none 0 0], .int .i64 4]) (by simp [results, Try.results18, go_sem, x0, x1, x2, x3, x4, x5, x6, x7, x8, x9, x10]) rfl ?_
        unfold RNPost
        rw [HNO.out]
        exact ⟨rfl, HB7.out⟩
  · have HNO := hide (okR_no HRN.out (.inr (.inl (by simpa using hm))))
    have C12 := hide (rpackN n s9 _ _ _ X HNM.out HIN.out (by simpa using hm))
    simp only [Nv] at C12
    go_upto_region 37 with (go_at_call 12; go_must ((with_reducible refine C12.out.mono ?_); rintro e w5 ⟨rfl, hb5⟩))
    have HR5 := hide (HT.out.res.below hb5)
    have HN5 := hide ((show BoxL X (w.heap.size + 2) [.int .i64 n.kind, .int .i64 n.node, .int .i64 n.life, .int .i64 n.epoch, .string s9, .int .i64 n.func, .slice aa al ac, .int .i64 n.err, .int .i64 n.val, .int .i64 n.vep, .slice ma ml mc] from HT.out.box).below hb5)
    have HL5 := hide (HT.out.low.trans (hb5.mono HT.out.low.size))
    have HM5 := hide (HNM3.out.below hb5)
    have kb := keep_cell HT.out.cur.bad hb5
    clear k0 k1 k2 k3 k4 k5 k6 k7 k8 k9 k10
    cases hbb : b0 with
    | true =>
      rw [hbb] at kb
      clear hbb
      obtain ⟨q0, q1, q2, q3, q4, q5, q6, q7, q8, q9, q10⟩ := HR5.out.c11
      obtain ⟨v0, v1, v2, v3, v4, v5, v6, v7, v8, v9, v10⟩ := HR5.out.f11
      go_wp2
      have HX7 := hide (put11_box HR5.out (.int .i64 0) (.int .i64 0) (.int .i64 0) (.int .i64 0) (.string ⟨#[]⟩) (.int .i64 0) (.slice none 0 0) (.int .i64 0) (.int .i64 0) (.int .i64 0) (.slice none 0 0))
      have HB7 := hide (put11_below (g := w.heap.size) HL5.out (Nat.le_refl _) (.int .i64 0) (.int .i64 0) (.int .i64 0) (.int .i64 0) (.string ⟨#[]⟩) (.int .i64 0) (.slice none 0 0) (.int .i64 0) (.int .i64 0) (.int .i64 0) (.slice none 0 0))
      obtain ⟨Y, hY⟩ : ∃ Y, Y = put11 w5 w.heap.size (.int .i64 0) (.int .i64 0) (.int .i64 0) (.int .i64 0) (.string ⟨#[]⟩) (.int .i64 0) (.slice none 0 0) (.int .i64 0) (.int .i64 0) (.int .i64 0) (.slice none 0 0) := ⟨_, rfl⟩
      rw [← hY] at HX7 HB7
      unfold put11 at hY
      rw [← hY]
      clear hY
      obtain ⟨x0, x1, x2, x3, x4, x5, x6, x7, x8, x9, x10⟩ := HX7.out.c11
      refine bodyPost_ret (v := .tuple #[.agg #[.int .i64 0, .int .i64 0, .int .i64 0, .int .i64 0, .string ⟨#[]⟩, .int .i64 0, .slice none 0 0, .int .i64 0, .int .i64 0, .int .i64 0, .slice none 0 0], .int .i64 4]) (by simp [results, Try.results18, go_sem, x0, x1, x2, x3, x4, x5, x6, x7, x8, x9, x10]) rfl ?_
      unfold RNPost
      rw [HNO.out]
      exact ⟨rfl, HB7.out⟩
    | false =>
      rw [hbb] at kb
      clear hbb
      obtain ⟨q0, q1, q2, q3, q4, q5, q6, q7, q8, q9, q10⟩ := HR5.out.c11
      obtain ⟨v0, v1, v2, v3, v4, v5, v6, v7, v8, v9, v10⟩ := HR5.out.f11
      go_wp2
      have HX7 := hide (put11_box HR5.out (.int .i64 0) (.int .i64 0) (.int .i64 0) (.int .i64 0) (.string ⟨#[]⟩) (.int .i64 0) (.slice none 0 0) (.int .i64 0) (.int .i64 0) (.int .i64 0) (.slice none 0 0))
      have HB7 := hide (put11_below (g := w.heap.size) HL5.out (Nat.le_refl _) (.int .i64 0) (.int .i64 0) (.int .i64 0) (.int .i64 0) (.string ⟨#[]⟩) (.int .i64 0) (.slice none 0 0) (.int .i64 0) (.int .i64 0) (.int .i64 0) (.slice none 0 0))
      obtain ⟨Y, hY⟩ : ∃ Y, Y = put11 w5 w.heap.size (.int .i64 0) (.int .i64 0) (.int .i64 0) (.int .i64 0) (.string ⟨#[]⟩) (.int .i64 0) (.slice none 0 0) (.int .i64 0) (.int .i64 0) (.int .i64 0) (.slice none 0 0) := ⟨_, rfl⟩
      rw [← hY] at HX7 HB7
      unfold put11 at hY
      rw [← hY]
      clear hY
      obtain ⟨x0, x1, x2, x3, x4, x5, x6, x7, x8, x9, x10⟩ := HX7.out.c11
      refine bodyPost_ret (v := .tuple #[.agg #[.int .i64 0, .int .i64 0, .int .i64 0, .int .i64 0, .string ⟨#[]⟩, .int .i64 0, .slice none 0 0, .int .i64 0, .int .i64 0, .int .i64 0, .slice none 0 0], .int .i64 4]) (by simp [results, Try.results18, go_sem, x0, x1, x2, x3, x4, x5, x6, x7, x8, x9, x10]) rfl ?_
      unfold RNPost
      rw [HNO.out]
      exact ⟨rfl, HB7.out⟩

end Go.Proofs.Ytgkpioleipefmaa
