/- gleanerref10.PackNote: a view. -/
import Derived.Test.YtgkpioleipefmaaRpk
namespace Go.Proofs.Ytgkpioleipefmaa
open Go.RowKit Go.ChangeShapes Go.WideShapes Go.ChangeAt Go.Deep
set_option linter.unusedSimpArgs false

def RPost (n : No) (w : World) (e : Ending) (w' : World) : Prop :=
  if mayN (clearN n) = true then RP (encN (clearN n)) w e w'
  else e = .returned (.tuple #[.slice none 0 0, .int .i64 1]) ∧ Below w.heap.size w w'
theorem encM_len20 (l : List (Int × Int)) : (encM l).length ≤ 20 * l.length := by
  induction l with
  | nil => simp [encM]
  | cons x r ih =>
    have h1 := enc_len (foldN x.1)
    have h2 := enc_len (foldN x.2)
    have e : encM (x :: r) = enc (foldN x.1) ++ enc (foldN x.2) ++ encM r := by simp [encM, encI]
    rw [e, List.length_append, List.length_append, List.length_cons]
    omega
theorem encM_snoc2 (l : List (Int × Int)) (k : Nat) (h : k < l.length) : encM (l.take (k + 1)) = encM (l.take k) ++ encs [l[k].1, l[k].2] := by
  unfold encM
  rw [List.take_succ_eq_append_getElem h, List.flatMap_append, List.flatMap_singleton]
  simp [encs, encI]

set_option maxRecDepth 100000 in
set_option maxHeartbeats 16000000 in
theorem rpack_2 (n o : No) (s : ByteArray) (aa ma : Option Addr) (al ac ml mc : Nat) (B : Nat) (w : World) (HM : Hid (NM B w n s (.slice aa al ac) (.slice ma ml mc)))
    (CC : Hid (∀ W, Calls Try.prog 16 #[.agg #[.int .i64 n.kind, .int .i64 n.node, .int .i64 n.life, .int .i64 n.epoch, .string s, .int .i64 n.func, (.slice aa al ac), .int .i64 n.err, .int .i64 n.val, .int .i64 n.vep, (.slice ma ml mc)]] W fun e w' => ∃ s1 aa1 al1 ac1 ma1 ml1 mc1, e = .returned (Nv o s1 (.slice aa1 al1 ac1) (.slice ma1 ml1 mc1)) ∧ Hid (∀ B W, NM B W n s (.slice aa al ac) (.slice ma ml mc) → NM B W o s1 (.slice aa1 al1 ac1) (.slice ma1 ml1 mc1)) ∧ Below W.heap.size W w'))
    (CM : Hid (∀ W, Below w.heap.size w W → Calls Try.prog 24 #[.agg #[.int .i64 n.kind, .int .i64 n.node, .int .i64 n.life, .int .i64 n.epoch, .string s, .int .i64 n.func, (.slice aa al ac), .int .i64 n.err, .int .i64 n.val, .int .i64 n.vep, (.slice ma ml mc)]] W fun e w' => e = .returned (.bool true) ∧ Below W.heap.size W w'))
    (hI : NIn o) (h20 : o.args.length ≤ 20000) (HK : Hid (o.kind = 2)) :
    Calls Try.prog 12 #[.agg #[.int .i64 n.kind, .int .i64 n.node, .int .i64 n.life, .int .i64 n.epoch, .string s, .int .i64 n.func, (.slice aa al ac), .int .i64 n.err, .int .i64 n.val, .int .i64 n.vep, (.slice ma ml mc)]] w (RP (encN o) w) := by
  have CK := hide (fun W g (hg : g = W.heap.size) => (show Calls Try.prog 25 #[.slice none 0 0, .slice (some ⟨g, 0, none⟩) 1 1] (W.alloc (.cells #[.int .i64 o.kind] 3)) (RQ (encI o.kind) W) from by
    have h := ri1 [] o.kind hI.1.1 none 0 0 W rfl (by omega) (fun _ => ⟨rfl, rfl⟩) (.inl rfl) g hg
    rw [show [] ++ encs [o.kind] = encI o.kind by simp [encs, encI]] at h
    exact h))
  have H20 := hide h20
  have HI := hide hI
  clear h20 hI
  have HX0 := hide (BoxL.new w [.int .i64 n.kind, .int .i64 n.node, .int .i64 n.life, .int .i64 n.epoch, .string s, .int .i64 n.func, (.slice aa al ac), .int .i64 n.err, .int .i64 n.val, .int .i64 n.vep, (.slice ma ml mc)] 31)
  have HB0 := hide (below_new w (.cells #[.int .i64 n.kind, .int .i64 n.node, .int .i64 n.life, .int .i64 n.epoch, .string s, .int .i64 n.func, (.slice aa al ac), .int .i64 n.err, .int .i64 n.val, .int .i64 n.vep, (.slice ma ml mc)] 31))
  obtain ⟨V, hV⟩ : ∃ V, V = w.alloc (.cells #[.int .i64 n.kind, .int .i64 n.node, .int .i64 n.life, .int .i64 n.epoch, .string s, .int .i64 n.func, (.slice aa al ac), .int .i64 n.err, .int .i64 n.val, .int .i64 n.vep, (.slice ma ml mc)] 31) := ⟨_, rfl⟩
  have HX := hide (show BoxL V w.heap.size [.int .i64 n.kind, .int .i64 n.node, .int .i64 n.life, .int .i64 n.epoch, .string s, .int .i64 n.func, (.slice aa al ac), .int .i64 n.err, .int .i64 n.val, .int .i64 n.vep, (.slice ma ml mc)] by rw [hV]; exact HX0.out)
  have HB := hide (show Below w.heap.size w V by rw [hV]; exact HB0.out)
  have HV := hide hV
  clear hV HX0 HB0
  go_enter Try.func12, Try.ntmps12
  go_upto_region 9 with (first
    | (go_at_call 24; go_must (rw [← HV.out]; (with_reducible refine (CM.out V HB.out).mono ?_); rintro e w1 ⟨rfl, hb1⟩; have HX1 := hide (HX.out.below hb1); have HB1 := hide (HB.out.trans (hb1.mono HB.out.size)); obtain ⟨a0, a1, a2, a3, a4, a5, a6, a7, a8, a9, a10⟩ := HX1.out.c11))
    | (go_at_call 16; go_must ((with_reducible refine (CC.out w1).mono ?_); rintro e w2 ⟨s1, aa1, al1, ac1, ma1, ml1, mc1, rfl, hM1, hb2⟩; simp only [Nv]; have HX2 := hide (HX1.out.below hb2); have HB2 := hide (HB1.out.trans (hb2.mono HB1.out.size)); obtain ⟨e0, e1, e2, e3, e4, e5, e6, e7, e8, e9, e10⟩ := HX2.out.c11; obtain ⟨u0, u1, u2, u3, u4, u5, u6, u7, u8, u9, u10⟩ := HX2.out.f11; have HX3 := hide (put11_box HX2.out (.int .i64 o.kind) (.int .i64 o.node) (.int .i64 o.life) (.int .i64 o.epoch) (.string s1) (.int .i64 o.func) (.slice aa1 al1 ac1) (.int .i64 o.err) (.int .i64 o.val) (.int .i64 o.vep) (.slice ma1 ml1 mc1)); have HB3 := hide (put11_below (g := w.heap.size) HB2.out (Nat.le_refl _) (.int .i64 o.kind) (.int .i64 o.node) (.int .i64 o.life) (.int .i64 o.epoch) (.string s1) (.int .i64 o.func) (.slice aa1 al1 ac1) (.int .i64 o.err) (.int .i64 o.val) (.int .i64 o.vep) (.slice ma1 ml1 mc1)); obtain ⟨X, hX⟩ : ∃ X, X = put11 w2 w.heap.size (.int .i64 o.kind) (.int .i64 o.node) (.int .i64 o.life) (.int .i64 o.epoch) (.string s1) (.int .i64 o.func) (.slice aa1 al1 ac1) (.int .i64 o.err) (.int .i64 o.val) (.int .i64 o.vep) (.slice ma1 ml1 mc1) := ⟨_, rfl⟩; rw [← hX] at HX3 HB3; unfold put11 at hX; have HE := hide hX; clear hX; have hMX := hM1.out B X (HM.out.below HB3.out); have HMX := hide hMX; obtain ⟨hid1, hsz1, -, -, ⟨aa1', al1', ac1', eqa, hal1, -, hna1, hra1, -⟩, -⟩ := hMX; simp only [Value.slice.injEq] at eqa; obtain ⟨rfl, rfl, rfl⟩ := eqa; have HID := hide hid1; have HAL := hide hal1.out; have HNA := hide hna1; have HRA := hide hra1; clear hid1 hal1 hna1 hra1 hM1))
    | (go_at_call 25; go_must (rw [← HE.out]; (with_reducible refine (CK.out X _ (by first | rfl | (rw [HE.out]; simp [World.setCell]))).mono ?_); rintro e w3 ⟨q3, m3, c3, rfl, hm3, hc3, hn3, hr3, hb3⟩; have HX4 := hide (HX3.out.below hb3); have HB4 := hide (HB3.out.trans (hb3.mono HB3.out.size)); obtain ⟨Y, cp, kc, hbY, hsY, hokY⟩ := str_row w3 s1 hsz1; rw [HID.out] at hokY; have HOK := hide hokY; have HSY := hide hsY; have HBY := hide hbY; have HX5 := hide (HX4.out.below hbY); have HB5 := hide (HB4.out.trans (hbY.mono HB4.out.size)); have hltY : w.heap.size < Y.heap.size := HX5.out.1; obtain ⟨b0, b1, b2, b3, b4, b5, b6, b7, b8, b9, b10⟩ := HX4.out.c11; obtain ⟨d0, d1, d2, d3, d4, d5, d6, d7, d8, d9, d10⟩ := HX5.out.c11; have hlt1 : w.heap.size < Y.heap.size + 1 := (by omega); have hlt2 : w.heap.size < Y.heap.size + 1 + 1 := (by omega); have hne0 : w.heap.size ≠ Y.heap.size := (by omega); have hne1 : w.heap.size ≠ Y.heap.size + 1 := (by omega); have hne2 : w.heap.size ≠ Y.heap.size + 1 + 1 := (by omega); have z6 := (HX5.out.below (three Y (.cells #[.slice (some ⟨w3.heap.size, 0, none⟩) s1.size cp] 34) (.cells #[.int .i64 o.err, .int .i64 o.val] 3) (.cells #[.int .i64 o.func, .int .i64 (al1 : Int)] 3)).1).c11.2.2.2.2.2.2.1; clear hbY hsY hokY))
    | (at_builtin; go_must (obtain ⟨t1, t2, t3⟩ := three Y (.cells #[.slice (some ⟨w3.heap.size, 0, none⟩) s1.size cp] 34) (.cells #[.int .i64 o.err, .int .i64 o.val] 3) (.cells #[.int .i64 o.func, .int .i64 (al1 : Int)] 3); have hown := owng_new ((Y.alloc (.cells #[.slice (some ⟨w3.heap.size, 0, none⟩) s1.size cp] 34)).alloc (.cells #[.int .i64 o.err, .int .i64 o.val] 3)) [o.func, (al1 : Int)] 2 rfl (by omega); rw [show ((Y.alloc (.cells #[.slice (some ⟨w3.heap.size, 0, none⟩) s1.size cp] 34)).alloc (.cells #[.int .i64 o.err, .int .i64 o.val] 3)).heap.size = Y.heap.size + 1 + 1 by simp] at hown; refine append_i rfl (.tmp 36) (.tmp 38) rfl (Y.heap.size + 1 + 1) (.slice (some ⟨Y.heap.size + 1 + 1, 0, none⟩) 2 2) 2 [o.func, (al1 : Int)] rfl hown aa1 al1 ac1 o.args rfl HNA.out HAL.out ((HRA.out.below hb3).below (HBY.out.trans (t1.mono HBY.out.size))) (by have q1 := HAL.out; have q2 := H20.out; omega) (by simp) ?_; intro v8 w8 ho8 hg8; have HT := hide (And.intro t1 (And.intro t2 t3)); have HOW := hide hown; have HG8 := hide hg8; have HO8 := hide ho8; clear t1 t2 t3 hown hg8 ho8)))
  obtain ⟨g1, g2, g3⟩ := aft _ _ _ _ _ HG8.out
  have HX8 := hide (HX5.out.below g1)
  have HR8 := hide ((hr3.out.below HBY.out).below g1)
  have HT8 := hide (HOK.out.below g1)
  have HRT8 := hide (show Reads w8 (some ⟨Y.heap.size, 0, none⟩) (sV [⟨some ⟨w3.heap.size, 0, none⟩, s1.size, cp, o.id⟩]) from (reads_new Y (sV [⟨some ⟨w3.heap.size, 0, none⟩, s1.size, cp, o.id⟩]) 34).below g2)
  have er := (reads_new (Y.alloc (.cells #[.slice (some ⟨w3.heap.size, 0, none⟩) s1.size cp] 34)) (iV [o.err, o.val]) 3).below g3
  rw [show (Y.alloc (.cells #[.slice (some ⟨w3.heap.size, 0, none⟩) s1.size cp] 34)).heap.size = Y.heap.size + 1 by simp] at er
  have HER := hide er
  obtain ⟨-, -, -, hmem, -, ⟨ma1', ml1', mc1', eqm, hml, -, hnm, hrm, -⟩⟩ := HMX.out
  simp only [Value.slice.injEq] at eqm
  obtain ⟨rfl, rfl, rfl⟩ := eqm
  have HML := hml
  have HME := hide hmem
  have HRM := hide (((hrm.below hb3).below HBY.out).below g1)
  clear hml hmem hnm hrm
  obtain ⟨a8, m8, c8, rfl, hm8, hc8, hn8, hr8, -⟩ := owng_row HO8.out
  have HB8 := hide (HB5.out.trans (g1.mono HB5.out.size))
  have HM8 := hm8
  have HN8 := hide hn8
  have HA8 := hide hr8
  have HAM := hide (show ([o.func, (al1 : Int)] ++ o.args).length = m8 from by have q1 := HM8.out; have q2 := HAL.out; simp only [List.length_append, List.length_cons, List.length_nil]; omega)
  have HIE := hide (show In64 [o.err, o.val] from in64_2 HI.out.2.2.1.1 HI.out.2.2.1.2)
  have HIA := hide (show In64 ([o.func, (al1 : Int)] ++ o.args) from in64_a HI.out.2.1.1 (by have q2 := HAL.out; have q3 := H20.out; unfold In1; omega) HI.out.2.1.2)
  have hlk := hm3.out
  have hl10 : (encI o.kind).length ≤ 10 := enc_len _
  have hidl : o.id.length = s1.size := HOK.out.1
  clear hm8 hn8 hr8 hc8 er g1 g2 g3 HG8 HO8 HT HOW z6 hlt1 hlt2 hne0 hne1 hne2 hltY HX HX1 HX2 HX3 HX4 HX5 HB HB1 HB2 HB3 HB4 HB5
  clear a0 a1 a2 a3 a4 a5 a6 a7 a9 a10 e0 e1 e2 e3 e4 e5 e6 e7 e8 e9 e10 u0 u1 u2 u3 u4 u5 u6 u7 u8 u9 u10 b0 b1 b2 b3 b4 b5 b6 b7 b8 b9 b10 d0 d1 d2 d3 d4 d5 d6 d7 d8 d9 d10
  obtain ⟨k0, k1, k2, k3, k4, k5, k6, k7, k8, k9, k10⟩ := HX8.out.c11
  rw [HK.out] at k0
  have hm20 : ml1 ≤ 20000 := by have q1 := HML.out; have q2 := HME.out; omega
  have hmi : In1 (ml1 : Int) := by have q1 := HML.out; have q2 := HME.out; unfold In1; omega
  have C1 := hide (fun g hg => ri2 (encI o.kind) o.vep (ml1 : Int) HI.out.2.2.2.1 hmi q3 m3 c3 w8 hm3.out (by omega) hn3.out HR8.out g hg)
  have hq9 : (encs [o.vep, (ml1 : Int)]).length ≤ 20 := by have := encs_len10 [o.vep, (ml1 : Int)]; simpa using this
  go_wp2_with (go_at_call 25; go_must ((with_reducible refine (C1.out _ rfl).mono ?_); rintro e w9 ⟨q9, m9, c9, rfl, hm9, hc9, hn9, hr9, hb9⟩))
  clear C1 k0 k1 k2 k3 k4 k5 k6 k7 k8 k9 k10
  have HB9 := hide (HB8.out.trans (hb9.mono HB8.out.size))
  go_loopw [5, 9] (fun bv i wr => Hid (Below w9.heap.size w9 wr) ∧ ∃ (k : Nat) (a : Option Addr) (m c : Nat), k ≤ ml1 ∧ i = .int .i64 (k : Nat) ∧ bv = .slice a m c ∧ Hid (((encI o.kind ++ encs [o.vep, (ml1 : Int)]) ++ encM (o.mem.take k)).length = m) ∧ Hid (m ≤ c ∧ c ≤ maxLen) ∧ Hid (a = none → m = 0 ∧ c = 0) ∧ Hid (Reads wr a (bV ((encI o.kind ++ encs [o.vep, (ml1 : Int)]) ++ encM (o.mem.take k))))) (fun _ i _ => ml1 - (intOf i).toNat)
  case atStart => exact ⟨hide (Below.refl _ _), 0, q9, m9, c9, Nat.zero_le _, rfl, rfl, by simpa [encM] using hm9, hc9, hn9, by simpa [encM] using hr9⟩
  case round =>
    obtain ⟨hbw, k, a, m, c, hk, rfl, rfl, hm, hc, hn, hr⟩ := hrel
    have HBW := hide (hb9.trans (hbw.out.mono hb9.size))
    obtain ⟨c0, c1, c2, c3, c4, c5, c6, c7, c8', c9', c10⟩ := (HX8.out.below HBW.out).c11
    by_cases hlt : k < ml1
    · have hka : k < o.mem.length := by have q1 := HML.out; omega
      obtain ⟨cb, off, har, y0, y1⟩ := mem_at (HRM.out.below HBW.out) hka
      have hlt' : (k : Int) < (ml1 : Int) := by omega
      have HS := hide (encM_snoc2 o.mem k hka)
      obtain ⟨hx0, hx1⟩ := HI.out.2.2.2.2 o.mem[k] (List.getElem_mem _)
      generalize o.mem[k] = x at y0 y1 HS hx0 hx1
      obtain ⟨x0, x1⟩ := x
      simp only at y0 y1 HS hx0 hx1
      subst har
      have hwl : w.heap.size < wr.heap.size := cell_some_lt c10
      have hyl : cb < wr.heap.size := cell_some_lt y0
      have hmb : m ≤ 1000000 := by
        have q1 := hm.out
        have q2 := encM_len20 (o.mem.take k)
        have q3 := HML.out
        have q4 := HME.out
        simp only [List.length_append, List.length_take] at q1 q2
        omega
      go_wp2_with fail
      refine wp_region_noPanic ?_
      have hN : Below wr.heap.size wr wr.drew := (Below.refl _ _).drew
      refine wp_region_held_drew (S := fun W => W.cell? ⟨w.heap.size, 10, none⟩ = some (.slice (some ⟨cb, off, none⟩) ml1 mc1) ∧ W.cell? ⟨cb, off + k * 2, none⟩ = some (.int .i64 x0) ∧ W.cell? ⟨cb, off + k * 2 + 1, none⟩ = some (.int .i64 x1)) (by kernel_rfl) (⟨keep_cell c10 hN, keep_cell y0 hN, keep_cell y1 hN⟩) (fun hHeld => ?_)
      refine takeD (i := 0) (d := some 71) (v := ?_) rfl rfl (by kernel_rfl) (by kernel_rfl) (by kernel_rfl) (fun _ _ _ h => h) (Or.inl ⟨by rfl, ?_⟩) (by assumption) ?_
      rotate_left
      · intro w hSw
        go_simp
        try (with_reducible rfl)
      try simp only [Act.put, List.setIfInBounds_toArray, List.set_cons_zero, List.set_cons_succ]
      refine takeD (i := 1) (d := some 72) (v := ?_) rfl rfl (by kernel_rfl) (by kernel_rfl) (by kernel_rfl) (fun _ _ _ h => h) (Or.inl ⟨by rfl, ?_⟩) (by assumption) ?_
      rotate_left
      · intro w hSw
        go_simp
        try (with_reducible rfl)
      try simp only [Act.put, List.setIfInBounds_toArray, List.set_cons_zero, List.set_cons_succ]
      refine takeD (i := 2) (d := some 73) (v := ?_) rfl rfl (by kernel_rfl) (by kernel_rfl) (by kernel_rfl) (fun _ _ _ h => h) (Or.inl ⟨by rfl, ?_⟩) (by assumption) ?_
      rotate_left
      · intro w hSw
        go_simp
        try (with_reducible rfl)
      try simp only [Act.put, List.setIfInBounds_toArray, List.set_cons_zero, List.set_cons_succ]
      refine takeD (i := 3) (d := some 74) (v := ?_) rfl rfl (by kernel_rfl) (by kernel_rfl) (by kernel_rfl) (fun _ _ _ h => h) (Or.inl ⟨by rfl, ?_⟩) (by assumption) ?_
      rotate_left
      · intro w hSw
        go_simp
        try (with_reducible rfl)
      try simp only [Act.put, List.setIfInBounds_toArray, List.set_cons_zero, List.set_cons_succ]
      refine takeD (i := 4) (d := some 75) (v := ?_) rfl rfl (by kernel_rfl) (by kernel_rfl) (by kernel_rfl) (fun _ _ _ h => h) (Or.inl ⟨by rfl, ?_⟩) (by assumption) ?_
      rotate_left
      · intro w hSw
        go_simp
        try (with_reducible rfl)
      try simp only [Act.put, List.setIfInBounds_toArray, List.set_cons_zero, List.set_cons_succ]
      refine takeD (i := 5) (d := some 76) (v := ?_) rfl rfl (by kernel_rfl) (by kernel_rfl) (by kernel_rfl) (fun _ _ _ h => h) (Or.inl ⟨by rfl, ?_⟩) (by assumption) ?_
      rotate_left
      · intro w hSw
        go_simp
        try (with_reducible rfl)
      try simp only [Act.put, List.setIfInBounds_toArray, List.set_cons_zero, List.set_cons_succ]
      refine takeD (i := 6) (d := some 77) (v := ?_) rfl rfl (by kernel_rfl) (by kernel_rfl) (by kernel_rfl) (fun _ _ _ h => h) (Or.inl ⟨by rfl, ?_⟩) (by assumption) ?_
      rotate_left
      · intro w hSw
        go_simp
        try (with_reducible rfl)
      try simp only [Act.put, List.setIfInBounds_toArray, List.set_cons_zero, List.set_cons_succ]
      refine takeD (i := 7) (d := some 78) (v := ?_) rfl rfl (by kernel_rfl) (by kernel_rfl) (by kernel_rfl) (fun _ _ _ h => h) (Or.inl ⟨by rfl, ?_⟩) (by assumption) ?_
      rotate_left
      · intro w hSw
        go_simp
        try (with_reducible rfl)
      try simp only [Act.put, List.setIfInBounds_toArray, List.set_cons_zero, List.set_cons_succ]
      refine takeD (i := 8) (d := some 79) (v := ?_) rfl rfl (by kernel_rfl) (by kernel_rfl) (by kernel_rfl) (fun _ _ _ h => h) (Or.inl ⟨by rfl, ?_⟩) (by assumption) ?_
      rotate_left
      · intro w hSw
        go_simp
        try (with_reducible rfl)
      try simp only [Act.put, List.setIfInBounds_toArray, List.set_cons_zero, List.set_cons_succ]
      refine takeD (i := 9) (d := some 80) (v := ?_) rfl rfl (by kernel_rfl) (by kernel_rfl) (by kernel_rfl) (fun _ _ _ h => h) (Or.inl ⟨by rfl, ?_⟩) (by assumption) ?_
      rotate_left
      · intro w hSw
        go_simp
        try (with_reducible rfl)
      try simp only [Act.put, List.setIfInBounds_toArray, List.set_cons_zero, List.set_cons_succ]
      refine takeD (i := 10) (d := some 81) (v := ?_) rfl rfl (by kernel_rfl) (by kernel_rfl) (by kernel_rfl) (fun _ _ _ h => h) (Or.inl ⟨by rfl, ?_⟩) (by assumption) ?_
      rotate_left
      · intro w hSw
        go_simp
        try (with_reducible rfl)
      try simp only [Act.put, List.setIfInBounds_toArray, List.set_cons_zero, List.set_cons_succ]
      refine takeD (i := 11) (d := some 82) (v := ?_) rfl rfl (by kernel_rfl) (by kernel_rfl) (by kernel_rfl) (fun _ _ _ h => h) (Or.inl ⟨by rfl, ?_⟩) (by assumption) ?_
      rotate_left
      · intro w hSw
        go_simp
        try (with_reducible rfl)
      try simp only [Act.put, List.setIfInBounds_toArray, List.set_cons_zero, List.set_cons_succ]
      refine takeD (i := 12) (d := some 83) (v := ?_) rfl rfl (by kernel_rfl) (by kernel_rfl) (by kernel_rfl) (fun _ _ _ h => h) (Or.inl ⟨by rfl, ?_⟩) (by assumption) ?_
      rotate_left
      · intro w hSw
        go_simp
        try (with_reducible rfl)
      try simp only [Act.put, List.setIfInBounds_toArray, List.set_cons_zero, List.set_cons_succ]
      refine takeD (i := 13) (d := some 84) (v := ?_) rfl rfl (by kernel_rfl) (by kernel_rfl) (by kernel_rfl) (fun _ _ _ h => h) (Or.inl ⟨by rfl, ?_⟩) (by assumption) ?_
      rotate_left
      · intro w hSw
        go_simp
        try (with_reducible rfl)
      try simp only [Act.put, List.setIfInBounds_toArray, List.set_cons_zero, List.set_cons_succ]
      refine takeD (i := 14) (d := some 85) (v := ?_) rfl rfl (by kernel_rfl) (by kernel_rfl) (by kernel_rfl) (fun _ _ _ h => h) (Or.inl ⟨by rfl, ?_⟩) (by assumption) ?_
      rotate_left
      · intro w hSw
        go_simp
        try (with_reducible rfl)
      try simp only [Act.put, List.setIfInBounds_toArray, List.set_cons_zero, List.set_cons_succ]
      refine wpAnyH_ready (rs := [15]) (by kernel_rfl) (by simp) ?_
      refine AllReadyH.cons rfl (fun K hK => ?_) AllReadyH.nil
      go_simp
      have hN : Below wr.heap.size wr (wr.drew.alloc (.cells #[.int .i64 x0, .int .i64 x1] 3)) := (Below.refl _ _).drew.alloc (Nat.le_refl _) _
      go_wp2_with fail
      clear hHeld
      refine hK.out _ _ (⟨keep_cell c10 hN, keep_cell y0 hN, keep_cell y1 hN⟩) (fun hHeld => ?_)
      clear hK K
      try simp only [Act.put, List.setIfInBounds_toArray, List.set_cons_zero, List.set_cons_succ]
      refine wpAnyH_ready (rs := [16]) (by kernel_rfl) (by simp) ?_
      refine AllReadyH.cons rfl (fun K hK => ?_) AllReadyH.nil
      go_simp
      refine (ri2 _ x0 x1 hx0 hx1 a m c wr.drew hm.out (by omega) hn.out hr.out.drew _ (by simp)).mono ?_
      rintro e wq ⟨qq, mq, cq, rfl, hmq, hcq, hnq, hrq, hbq⟩
      have hN : Below wr.heap.size wr wq := (Below.refl _ _).drew.trans hbq
      have HNQ := hide hN
      go_wp2_with fail
      clear hHeld
      refine hK.out _ _ (⟨keep_cell c10 hN, keep_cell y0 hN, keep_cell y1 hN⟩) (fun hHeld => ?_)
      clear hK K
      try simp only [Act.put, List.setIfInBounds_toArray, List.set_cons_zero, List.set_cons_succ]
      refine takeD (i := 17) (d := some 5) (v := ?_) rfl rfl (by kernel_rfl) (by kernel_rfl) (by kernel_rfl) (fun _ _ _ h => h) (Or.inl ⟨by rfl, ?_⟩) (by assumption) ?_
      rotate_left
      · intro w hSw
        go_simp
        try (with_reducible rfl)
      try simp only [Act.put, List.setIfInBounds_toArray, List.set_cons_zero, List.set_cons_succ]
      refine wpAnyH_done (by kernel_rfl) ?_ _
      refine NoPanic.normal ?_
      rw [List.append_assoc, ← HS.out] at hmq hrq
      go_wp2
      go_roundw
      case rel => exact ⟨hide (hbw.out.trans (HNQ.out.mono hbw.out.size)), k + 1, qq, mq, cq, by omega, by go_num, rfl, hmq, hcq, hnq, hrq⟩
      case measure => simp [intOf]; omega
    · go_wp2
      go_ret2
      have e : o.mem.take k = o.mem := List.take_of_length_le (by have q1 := HML.out; omega)
      rw [e] at hm hr
      have ez : encN o = (encI o.kind ++ encs [o.vep, (ml1 : Int)]) ++ encM o.mem := by
        simp [encN, HK.out, hasView, hasEpoch, hasLife, hasNode, hasId, hasRes, hasFunc, encs, encI, ← HML.out]
      rw [ez]
      exact ⟨_, _, _, rfl, hm, hc, hn, hr, HB9.out.trans (hbw.out.mono HB9.out.size)⟩

/-- gleanerref10.PackNote. -/
theorem rpack_any (n : No) (s : ByteArray) (av mv : Value) (B : Nat) (w : World) (hM : NM B w n s av mv) (hI : NIn n) : Calls Try.prog 12 #[Nv n s av mv] w (RPost n w) := by
  have hM' := hM
  obtain ⟨_, _, _, _, ⟨aa, al, ac, rfl, _⟩, ⟨ma, ml, mc, rfl, _⟩⟩ := hM'
  unfold RPost
  by_cases hm : mayN (clearN n) = true
  · simp only [hm, if_true]
    have CM := hide (fun W (hb : Below w.heap.size w W) => rmay_any n s aa ma al ac ml mc B W (hM.below hb))
    rw [hm] at CM
    have CC := hide (fun W => rcl_any n s aa ma al ac ml mc W)
    simp only [Nv] at CM
    have hp := may_parts hm
    have hI' := clear_in hI
    have h20 : (clearN n).args.length ≤ 20000 := by have := hp.2.2.2.2.2.2.2.1; omega
    have hk := hp.1
    have HM := hide hM
    generalize clearN n = o at CC hI' h20 hk ⊢
    clear hp
    rcases kinds hk with h | h | h | h | h | h | h | h | h | h
    · exact rpack_1 n o s aa ma al ac ml mc B w HM CC CM hI' h20 (hide h)
    · exact rpack_2 n o s aa ma al ac ml mc B w HM CC CM hI' h20 (hide h)
    · exact rpack_3 n o s aa ma al ac ml mc B w HM CC CM hI' h20 (hide h)
    · exact rpack_4 n o s aa ma al ac ml mc B w HM CC CM hI' h20 (hide h)
    · exact rpack_5 n o s aa ma al ac ml mc B w HM CC CM hI' h20 (hide h)
    · exact rpack_6 n o s aa ma al ac ml mc B w HM CC CM hI' h20 (hide h)
    · exact rpack_7 n o s aa ma al ac ml mc B w HM CC CM hI' h20 (hide h)
    · exact rpack_8 n o s aa ma al ac ml mc B w HM CC CM hI' h20 (hide h)
    · exact rpack_9 n o s aa ma al ac ml mc B w HM CC CM hI' h20 (hide h)
    · exact rpack_10 n o s aa ma al ac ml mc B w HM CC CM hI' h20 (hide h)
  · simp only [hm]
    exact rpack_no n s aa ma al ac ml mc B w hM (by simpa using hm)

end Go.Proofs.Ytgkpioleipefmaa
