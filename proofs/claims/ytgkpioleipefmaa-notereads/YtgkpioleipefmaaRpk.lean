/- gleanerref10.PackNote. -/
import Derived.Test.YtgkpioleipefmaaRfV
namespace Go.Proofs.Ytgkpioleipefmaa
open Go.RowKit Go.ChangeShapes Go.WideShapes Go.ChangeAt Go.Deep

set_option maxRecDepth 100000 in
set_option maxHeartbeats 16000000 in
theorem rpack_no (n : No) (s : ByteArray) (aa ma : Option Addr) (al ac ml mc : Nat) (B : Nat) (w : World) (hM : NM B w n s (.slice aa al ac) (.slice ma ml mc)) (hm : mayN (clearN n) = false) :
    Calls Try.prog 12 #[.agg #[.int .i64 n.kind, .int .i64 n.node, .int .i64 n.life, .int .i64 n.epoch, .string s, .int .i64 n.func, (.slice aa al ac), .int .i64 n.err, .int .i64 n.val, .int .i64 n.vep, (.slice ma ml mc)]] w fun e w' => e = .returned (.tuple #[.slice none 0 0, .int .i64 1]) ∧ Below w.heap.size w w' := by
  have CM := hide (fun W (hb : Below w.heap.size w W) => rmay_any n s aa ma al ac ml mc B W (hM.below hb))
  rw [hm] at CM
  simp only [Nv] at CM
  clear hM hm
  have HX0 := hide (BoxL.new w [.int .i64 n.kind, .int .i64 n.node, .int .i64 n.life, .int .i64 n.epoch, .string s, .int .i64 n.func, (.slice aa al ac), .int .i64 n.err, .int .i64 n.val, .int .i64 n.vep, (.slice ma ml mc)] 31)
  have HB0 := hide (below_new w (.cells #[.int .i64 n.kind, .int .i64 n.node, .int .i64 n.life, .int .i64 n.epoch, .string s, .int .i64 n.func, (.slice aa al ac), .int .i64 n.err, .int .i64 n.val, .int .i64 n.vep, (.slice ma ml mc)] 31))
  obtain ⟨V, hV⟩ : ∃ V, V = w.alloc (.cells #[.int .i64 n.kind, .int .i64 n.node, .int .i64 n.life, .int .i64 n.epoch, .string s, .int .i64 n.func, (.slice aa al ac), .int .i64 n.err, .int .i64 n.val, .int .i64 n.vep, (.slice ma ml mc)] 31) := ⟨_, rfl⟩
  have HX := hide (show BoxL V w.heap.size [.int .i64 n.kind, .int .i64 n.node, .int .i64 n.life, .int .i64 n.epoch, .string s, .int .i64 n.func, (.slice aa al ac), .int .i64 n.err, .int .i64 n.val, .int .i64 n.vep, (.slice ma ml mc)] by rw [hV]; exact HX0.out)
  have HB := hide (show Below w.heap.size w V by rw [hV]; exact HB0.out)
  have HV := hide hV
  clear hV HX0 HB0
  go_enter Try.func12, Try.ntmps12
  go_wp2_with (go_at_call 24; go_must (rw [← HV.out]; (with_reducible refine (CM.out V HB.out).mono ?_); rintro e w1 ⟨rfl, hb1⟩))
  go_ret2
  exact ⟨rfl, HB.out.trans (hb1.mono HB.out.size)⟩

theorem ri1 (Z : List Nat) (x : Int) (hx : In1 x) (a : Option Addr) (m c : Nat) (W : World) (hm : Z.length = m) (h9 : m ≤ 1000000) (hn : a = none → m = 0 ∧ c = 0) (hr : Reads W a (bV Z)) (g : Nat) (hg : g = W.heap.size) :
    Calls Try.prog 25 #[.slice a m c, .slice (some ⟨g, 0, none⟩) 1 1] (W.alloc (.cells #[.int .i64 x] 3)) (RQ (Z ++ encs [x]) W) := by
  subst hg
  have hb := below_new W (.cells #[.int .i64 x] 3)
  exact (ri Z [x] a m c (some ⟨W.heap.size, 0, none⟩) 1 1 (W.alloc (.cells #[.int .i64 x] 3)) hm h9 hn (hr.below hb) rfl (by omega) (by intro q hq; simp at hq; rcases hq with rfl <;> assumption) (reads_new W (iV [x]) 3)).mono fun e w' hq => hq.low hb

theorem ri2 (Z : List Nat) (x y : Int) (hx : In1 x) (hy : In1 y) (a : Option Addr) (m c : Nat) (W : World) (hm : Z.length = m) (h9 : m ≤ 1000000) (hn : a = none → m = 0 ∧ c = 0) (hr : Reads W a (bV Z)) (g : Nat) (hg : g = W.heap.size) :
    Calls Try.prog 25 #[.slice a m c, .slice (some ⟨g, 0, none⟩) 2 2] (W.alloc (.cells #[.int .i64 x, .int .i64 y] 3)) (RQ (Z ++ encs [x, y]) W) := by
  subst hg
  have hb := below_new W (.cells #[.int .i64 x, .int .i64 y] 3)
  exact (ri Z [x, y] a m c (some ⟨W.heap.size, 0, none⟩) 2 2 (W.alloc (.cells #[.int .i64 x, .int .i64 y] 3)) hm h9 hn (hr.below hb) rfl (by omega) (by intro q hq; simp at hq; rcases hq with rfl | rfl <;> assumption) (reads_new W (iV [x, y]) 3)).mono fun e w' hq => hq.low hb

theorem ri3 (Z : List Nat) (x y z : Int) (hx : In1 x) (hy : In1 y) (hz : In1 z) (a : Option Addr) (m c : Nat) (W : World) (hm : Z.length = m) (h9 : m ≤ 1000000) (hn : a = none → m = 0 ∧ c = 0) (hr : Reads W a (bV Z)) (g : Nat) (hg : g = W.heap.size) :
    Calls Try.prog 25 #[.slice a m c, .slice (some ⟨g, 0, none⟩) 3 3] (W.alloc (.cells #[.int .i64 x, .int .i64 y, .int .i64 z] 3)) (RQ (Z ++ encs [x, y, z]) W) := by
  subst hg
  have hb := below_new W (.cells #[.int .i64 x, .int .i64 y, .int .i64 z] 3)
  exact (ri Z [x, y, z] a m c (some ⟨W.heap.size, 0, none⟩) 3 3 (W.alloc (.cells #[.int .i64 x, .int .i64 y, .int .i64 z] 3)) hm h9 hn (hr.below hb) rfl (by omega) (by intro q hq; simp at hq; rcases hq with rfl | rfl | rfl <;> assumption) (reads_new W (iV [x, y, z]) 3)).mono fun e w' hq => hq.low hb

theorem three (Y : World) (a b c : Obj) : Below Y.heap.size Y (((Y.alloc a).alloc b).alloc c) ∧ Below (Y.heap.size + 1) (Y.alloc a) (((Y.alloc a).alloc b).alloc c) ∧ Below (Y.heap.size + 1 + 1) ((Y.alloc a).alloc b) (((Y.alloc a).alloc b).alloc c) := by
  have b1 := below_new Y a
  have b2 := below_new (Y.alloc a) b
  have b3 := below_new ((Y.alloc a).alloc b) c
  have e1 : (Y.alloc a).heap.size = Y.heap.size + 1 := by simp
  have e2 : ((Y.alloc a).alloc b).heap.size = Y.heap.size + 1 + 1 := by simp
  rw [e1] at b2
  rw [e2] at b3
  exact ⟨(b1.trans (b2.mono (by omega))).trans (b3.mono (by omega)), b2.trans (b3.mono (by omega)), b3⟩

theorem in64_2 {x y : Int} (hx : In1 x) (hy : In1 y) : In64 [x, y] := by
  intro q hq
  simp at hq
  rcases hq with rfl | rfl
  · exact hx
  · exact hy
theorem in64_a {x y : Int} {l : List Int} (hx : In1 x) (hy : In1 y) (hl : In64 l) : In64 ([x, y] ++ l) := by
  intro q hq
  simp at hq
  rcases hq with rfl | rfl | hq
  · exact hx
  · exact hy
  · exact hl q hq
theorem aft (Y : World) (a b c : Obj) (w8 : World) (hg : (((Y.alloc a).alloc b).alloc c).grownBy w8 (Value.slice (some ⟨Y.heap.size + 1 + 1, 0, none⟩) 2 2).ownBlock) :
    Below Y.heap.size Y w8 ∧ Below (Y.alloc a).heap.size (Y.alloc a) w8 ∧ Below ((Y.alloc a).alloc b).heap.size ((Y.alloc a).alloc b) w8 := by
  obtain ⟨t1, t2, t3⟩ := three Y a b c
  have e1 : (Y.alloc a).heap.size = Y.heap.size + 1 := by simp
  have e2 : ((Y.alloc a).alloc b).heap.size = Y.heap.size + 1 + 1 := by simp
  have e3 : (((Y.alloc a).alloc b).alloc c).heap.size = Y.heap.size + 1 + 1 + 1 := by simp
  rw [e2, e1]
  exact ⟨t1.grown hg (by omega) (fun k hk => by cases hk; show _ ≤ Y.heap.size + 1 + 1; omega), t2.grown hg (by omega) (fun k hk => by cases hk; show _ ≤ Y.heap.size + 1 + 1; omega), t3.grown hg (by omega) (fun k hk => by cases hk; show _ ≤ Y.heap.size + 1 + 1; omega)⟩

def RP (Z : List Nat) (W : World) (e : Ending) (w' : World) : Prop := ∃ a m c, e = .returned (.tuple #[.slice a m c, .int .i64 0]) ∧ Hid (Z.length = m) ∧ Hid (m ≤ c ∧ c ≤ maxLen) ∧ Hid (a = none → m = 0 ∧ c = 0) ∧ Hid (Reads w' a (bV Z)) ∧ Below W.heap.size W w'

theorem encs_len10 (l : List Int) : (encs l).length ≤ 10 * l.length := by
  induction l with
  | nil => simp [encs]
  | cons x r ih =>
    have h := enc_len (foldN x)
    have e : encs (x :: r) = enc (foldN x) ++ encs r := by simp [encs]
    rw [e, List.length_append, List.length_cons]
    omega

set_option maxRecDepth 100000 in
set_option maxHeartbeats 16000000 in
theorem rpack_1 (n o : No) (s : ByteArray) (aa ma : Option Addr) (al ac ml mc : Nat) (B : Nat) (w : World) (HM : Hid (NM B w n s (.slice aa al ac) (.slice ma ml mc)))
    (CC : Hid (∀ W, Calls Try.prog 16 #[.agg #[.int .i64 n.kind, .int .i64 n.node, .int .i64 n.life, .int .i64 n.epoch, .string s, .int .i64 n.func, (.slice aa al ac), .int .i64 n.err, .int .i64 n.val, .int .i64 n.vep, (.slice ma ml mc)]] W fun e w' => ∃ s1 aa1 al1 ac1 ma1 ml1 mc1, e = .returned (Nv o s1 (.slice aa1 al1 ac1) (.slice ma1 ml1 mc1)) ∧ Hid (∀ B W, NM B W n s (.slice aa al ac) (.slice ma ml mc) → NM B W o s1 (.slice aa1 al1 ac1) (.slice ma1 ml1 mc1)) ∧ Below W.heap.size W w'))
    (CM : Hid (∀ W, Below w.heap.size w W → Calls Try.prog 24 #[.agg #[.int .i64 n.kind, .int .i64 n.node, .int .i64 n.life, .int .i64 n.epoch, .string s, .int .i64 n.func, (.slice aa al ac), .int .i64 n.err, .int .i64 n.val, .int .i64 n.vep, (.slice ma ml mc)]] W fun e w' => e = .returned (.bool true) ∧ Below W.heap.size W w'))
    (hI : NIn o) (h20 : o.args.length ≤ 20000) (HK : Hid (o.kind = 1)) :
    Calls Try.prog 12 #[.agg #[.int .i64 n.kind, .int .i64 n.node, .int .i64 n.life, .int .i64 n.epoch, .string s, .int .i64 n.func, (.slice aa al ac), .int .i64 n.err, .int .i64 n.val, .int .i64 n.vep, (.slice ma ml mc)]] w (RP (encN o) w) := by
  have CK := hide (fun W g (hg : g = W.heap.size) => (show Calls Try.prog 25 #[.slice none 0 0, .slice (some ⟨g, 0, none⟩) 1 1] (W.alloc (.cells #[.int .i64 o.kind] 3)) (RQ (encI o.kind) W) from by
    have h := ri1 [] o.kind hI.1.1 none 0 0 W rfl (by omega) (fun _ => ⟨rfl, rfl⟩) (.inl rfl) g hg
    rw [show [] ++ encs [o.kind] = encI o.kind by simp [encs, encI]] at h
    exact h))
  have H20 := hide h20
  have HI := hide hI
  clear h20 hI
  have HX0 := hide (BoxL.new w [.int .i64 n.kind, .int .i64 n.node, .int .i64 n.life, .int .i64 n.epoch, .string s, .int .i64 n.func, (.slice aa al ac), .int .i64 n.err, .int .i64 n.val, .int .i64 n.vep, (.slice ma ml mc)] 31)
  have HB0 := hide (below_new w (.cells #[.int .i64 n.kind, .int .i64 n.node, .int .i64 n.life, .int .i64 n.epoch, .string s, .int .i64 n.func, (.slice aa al ac), .int .i64 n.err, .int .i64 n.val, .int .i64 n.vep, (.slice ma ml mc)] 31))
  obtain ⟨V, hV⟩ : ∃ V, V = w.alloc (.cells #[.int .i64 n.kind, .int .i64 n.node, .int .i64 n.life, .int .i64 n.epoch, .string s, .int .i64 n.func, (.slice aa al ac), .int .i64 n.err, .int .i64 n.val, .int .i64 n.vep, (.slice ma ml mc)] 31) := ⟨_, rfl⟩
  have HX := hide (show BoxL V w.heap.size [.int .i64 n.kind, .int .i64 n.node, .int .i64 n.life, .int .i64 n.epoch, .string s, .int .i64 n.func, (.slice aa al ac), .int .i64 n.err, .int .i64 n.val, .int .i64 n.vep, (.slice ma ml mc)] by rw [hV]; exact HX0.out)
  have HB := hide (show Below w.heap.size w V by rw [hV]; exact HB0.out)
  have HV := hide hV
  clear hV HX0 HB0
  go_enter Try.func12, Try.ntmps12
  go_upto_region 9 with (first
    | (go_at_call 24; go_must (rw [← HV.out]; (with_reducible refine (CM.out V HB.out).mono ?_); rintro e w1 ⟨rfl, hb1⟩; have HX1 := hide (HX.out.below hb1); have HB1 := hide (HB.out.trans (hb1.mono HB.out.size)); obtain ⟨a0, a1, a2, a3, a4, a5, a6, a7, a8, a9, a10⟩ := HX1.out.c11))
    | (go_at_call 16; go_must ((with_reducible refine (CC.out w1).mono ?_); rintro e w2 ⟨s1, aa1, al1, ac1, ma1, ml1, mc1, rfl, hM1, hb2⟩; simp only [Nv]; have HX2 := hide (HX1.out.below hb2); have HB2 := hide (HB1.out.trans (hb2.mono HB1.out.size)); obtain ⟨e0, e1, e2, e3, e4, e5, e6, e7, e8, e9, e10⟩ := HX2.out.c11; obtain ⟨u0, u1, u2, u3, u4, u5, u6, u7, u8, u9, u10⟩ := HX2.out.f11; have HX3 := hide (put11_box HX2.out (.int .i64 o.kind) (.int .i64 o.node) (.int .i64 o.life) (.int .i64 o.epoch) (.string s1) (.int .i64 o.func) (.slice aa1 al1 ac1) (.int .i64 o.err) (.int .i64 o.val) (.int .i64 o.vep) (.slice ma1 ml1 mc1)); have HB3 := hide (put11_below (g := w.heap.size) HB2.out (Nat.le_refl _) (.int .i64 o.kind) (.int .i64 o.node) (.int .i64 o.life) (.int .i64 o.epoch) (.string s1) (.int .i64 o.func) (.slice aa1 al1 ac1) (.int .i64 o.err) (.int .i64 o.val) (.int .i64 o.vep) (.slice ma1 ml1 mc1)); obtain ⟨X, hX⟩ : ∃ X, X = put11 w2 w.heap.size (.int .i64 o.kind) (.int .i64 o.node) (.int .i64 o.life) (.int .i64 o.epoch) (.string s1) (.int .i64 o.func) (.slice aa1 al1 ac1) (.int .i64 o.err) (.int .i64 o.val) (.int .i64 o.vep) (.slice ma1 ml1 mc1) := ⟨_, rfl⟩; rw [← hX] at HX3 HB3; unfold put11 at hX; have HE := hide hX; clear hX; have hMX := hM1.out B X (HM.out.below HB3.out); have HMX := hide hMX; obtain ⟨hid1, hsz1, -, -, ⟨aa1', al1', ac1', eqa, hal1, -, hna1, hra1, -⟩, -⟩ := hMX; simp only [Value.slice.injEq] at eqa; obtain ⟨rfl, rfl, rfl⟩ := eqa; have HID := hide hid1; have HAL := hide hal1.out; have HNA := hide hna1; have HRA := hide hra1; clear hid1 hal1 hna1 hra1 hM1))
    | (go_at_call 25; go_must (rw [← HE.out]; (with_reducible refine (CK.out X _ (by first | rfl | (rw [HE.out]; simp [World.setCell]))).mono ?_); rintro e w3 ⟨q3, m3, c3, rfl, hm3, hc3, hn3, hr3, hb3⟩; have HX4 := hide (HX3.out.below hb3); have HB4 := hide (HB3.out.trans (hb3.mono HB3.out.size)); obtain ⟨Y, cp, kc, hbY, hsY, hokY⟩ := str_row w3 s1 hsz1; rw [HID.out] at hokY; have HOK := hide hokY; have HSY := hide hsY; have HBY := hide hbY; have HX5 := hide (HX4.out.below hbY); have HB5 := hide (HB4.out.trans (hbY.mono HB4.out.size)); have hltY : w.heap.size < Y.heap.size := HX5.out.1; obtain ⟨b0, b1, b2, b3, b4, b5, b6, b7, b8, b9, b10⟩ := HX4.out.c11; obtain ⟨d0, d1, d2, d3, d4, d5, d6, d7, d8, d9, d10⟩ := HX5.out.c11; have hlt1 : w.heap.size < Y.heap.size + 1 := (by omega); have hlt2 : w.heap.size < Y.heap.size + 1 + 1 := (by omega); have hne0 : w.heap.size ≠ Y.heap.size := (by omega); have hne1 : w.heap.size ≠ Y.heap.size + 1 := (by omega); have hne2 : w.heap.size ≠ Y.heap.size + 1 + 1 := (by omega); have z6 := (HX5.out.below (three Y (.cells #[.slice (some ⟨w3.heap.size, 0, none⟩) s1.size cp] 34) (.cells #[.int .i64 o.err, .int .i64 o.val] 3) (.cells #[.int .i64 o.func, .int .i64 (al1 : Int)] 3)).1).c11.2.2.2.2.2.2.1; clear hbY hsY hokY))
    | (at_builtin; go_must (obtain ⟨t1, t2, t3⟩ := three Y (.cells #[.slice (some ⟨w3.heap.size, 0, none⟩) s1.size cp] 34) (.cells #[.int .i64 o.err, .int .i64 o.val] 3) (.cells #[.int .i64 o.func, .int .i64 (al1 : Int)] 3); have hown := owng_new ((Y.alloc (.cells #[.slice (some ⟨w3.heap.size, 0, none⟩) s1.size cp] 34)).alloc (.cells #[.int .i64 o.err, .int .i64 o.val] 3)) [o.func, (al1 : Int)] 2 rfl (by omega); rw [show ((Y.alloc (.cells #[.slice (some ⟨w3.heap.size, 0, none⟩) s1.size cp] 34)).alloc (.cells #[.int .i64 o.err, .int .i64 o.val] 3)).heap.size = Y.heap.size + 1 + 1 by simp] at hown; refine append_i rfl (.tmp 36) (.tmp 38) rfl (Y.heap.size + 1 + 1) (.slice (some ⟨Y.heap.size + 1 + 1, 0, none⟩) 2 2) 2 [o.func, (al1 : Int)] rfl hown aa1 al1 ac1 o.args rfl HNA.out HAL.out ((HRA.out.below hb3).below (HBY.out.trans (t1.mono HBY.out.size))) (by have q1 := HAL.out; have q2 := H20.out; omega) (by simp) ?_; intro v8 w8 ho8 hg8; have HT := hide (And.intro t1 (And.intro t2 t3)); have HOW := hide hown; have HG8 := hide hg8; have HO8 := hide ho8; clear t1 t2 t3 hown hg8 ho8)))
  obtain ⟨g1, g2, g3⟩ := aft _ _ _ _ _ HG8.out
  have HX8 := hide (HX5.out.below g1)
  have HR8 := hide ((hr3.out.below HBY.out).below g1)
  have HT8 := hide (HOK.out.below g1)
  have HRT8 := hide (show Reads w8 (some ⟨Y.heap.size, 0, none⟩) (sV [⟨some ⟨w3.heap.size, 0, none⟩, s1.size, cp, o.id⟩]) from (reads_new Y (sV [⟨some ⟨w3.heap.size, 0, none⟩, s1.size, cp, o.id⟩]) 34).below g2)
  have er := (reads_new (Y.alloc (.cells #[.slice (some ⟨w3.heap.size, 0, none⟩) s1.size cp] 34)) (iV [o.err, o.val]) 3).below g3
  rw [show (Y.alloc (.cells #[.slice (some ⟨w3.heap.size, 0, none⟩) s1.size cp] 34)).heap.size = Y.heap.size + 1 by simp] at er
  have HER := hide er
  obtain ⟨a8, m8, c8, rfl, hm8, hc8, hn8, hr8, -⟩ := owng_row HO8.out
  have HB8 := hide (HB5.out.trans (g1.mono HB5.out.size))
  have HM8 := hm8
  have HN8 := hide hn8
  have HA8 := hide hr8
  have HAM := hide (show ([o.func, (al1 : Int)] ++ o.args).length = m8 from by have q1 := HM8.out; have q2 := HAL.out; simp only [List.length_append, List.length_cons, List.length_nil]; omega)
  have HIE := hide (show In64 [o.err, o.val] from in64_2 HI.out.2.2.1.1 HI.out.2.2.1.2)
  have HIA := hide (show In64 ([o.func, (al1 : Int)] ++ o.args) from in64_a HI.out.2.1.1 (by have q2 := HAL.out; have q3 := H20.out; unfold In1; omega) HI.out.2.1.2)
  have hlk := hm3.out
  have hl10 : (encI o.kind).length ≤ 10 := enc_len _
  have hidl : o.id.length = s1.size := HOK.out.1
  clear hm8 hn8 hr8 hc8 er g1 g2 g3 HG8 HO8 HT HOW z6 hlt1 hlt2 hne0 hne1 hne2 hltY HX HX1 HX2 HX3 HX4 HX5 HB HB1 HB2 HB3 HB4 HB5
  clear a0 a1 a2 a3 a4 a5 a6 a7 a9 a10 e0 e1 e2 e3 e4 e5 e6 e7 e8 e9 e10 u0 u1 u2 u3 u4 u5 u6 u7 u8 u9 u10 b0 b1 b2 b3 b4 b5 b6 b7 b8 b9 b10 d0 d1 d2 d3 d4 d5 d6 d7 d8 d9 d10
  obtain ⟨k0, k1, k2, k3, k4, k5, k6, k7, k8, k9, k10⟩ := HX8.out.c11
  rw [HK.out] at k0
  have C1 := hide (fun g hg => ri2 (encI o.kind) o.node o.life HI.out.1.2.1 HI.out.1.2.2.1 q3 m3 c3 w8 hm3.out (by omega) hn3.out HR8.out g hg)
  have hq9 : (encs [o.node, o.life]).length ≤ 20 := by have := encs_len10 [o.node, o.life]; simpa using this
  go_wp2_with (first | (go_at_call 25; go_must (first | ((with_reducible refine (C1.out _ rfl).mono ?_); rintro e w9 ⟨q9, m9, c9, rfl, hm9, hc9, hn9, hr9, hb9⟩; have hlk9 := hm9.out; simp only [List.length_append] at hlk9; have HB9 := hide ((HB8.out).trans (hb9.mono (HB8.out).size))))))
  go_ret2
  have ez : encN o = ((encI o.kind) ++ encs [o.node, o.life]) := by
    simp [encN, HK.out, hasView, hasEpoch, hasLife, hasNode, hasId, hasRes, hasFunc, encs, encI]
  rw [ez]
  exact ⟨_, _, _, rfl, hm9, hc9, hn9, hr9, HB9.out⟩

set_option maxRecDepth 100000 in
set_option maxHeartbeats 16000000 in
theorem rpack_3 (n o : No) (s : ByteArray) (aa ma : Option Addr) (al ac ml mc : Nat) (B : Nat) (w : World) (HM : Hid (NM B w n s (.slice aa al ac) (.slice ma ml mc)))
    (CC : Hid (∀ W, Calls Try.prog 16 #[.agg #[.int .i64 n.kind, .int .i64 n.node, .int .i64 n.life, .int .i64 n.epoch, .string s, .int .i64 n.func, (.slice aa al ac), .int .i64 n.err, .int .i64 n.val, .int .i64 n.vep, (.slice ma ml mc)]] W fun e w' => ∃ s1 aa1 al1 ac1 ma1 ml1 mc1, e = .returned (Nv o s1 (.slice aa1 al1 ac1) (.slice ma1 ml1 mc1)) ∧ Hid (∀ B W, NM B W n s (.slice aa al ac) (.slice ma ml mc) → NM B W o s1 (.slice aa1 al1 ac1) (.slice ma1 ml1 mc1)) ∧ Below W.heap.size W w'))
    (CM : Hid (∀ W, Below w.heap.size w W → Calls Try.prog 24 #[.agg #[.int .i64 n.kind, .int .i64 n.node, .int .i64 n.life, .int .i64 n.epoch, .string s, .int .i64 n.func, (.slice aa al ac), .int .i64 n.err, .int .i64 n.val, .int .i64 n.vep, (.slice ma ml mc)]] W fun e w' => e = .returned (.bool true) ∧ Below W.heap.size W w'))
    (hI : NIn o) (h20 : o.args.length ≤ 20000) (HK : Hid (o.kind = 3)) :
    Calls Try.prog 12 #[.agg #[.int .i64 n.kind, .int .i64 n.node, .int .i64 n.life, .int .i64 n.epoch, .string s, .int .i64 n.func, (.slice aa al ac), .int .i64 n.err, .int .i64 n.val, .int .i64 n.vep, (.slice ma ml mc)]] w (RP (encN o) w) := by
  have CK := hide (fun W g (hg : g = W.heap.size) => (show Calls Try.prog 25 #[.slice none 0 0, .slice (some ⟨g, 0, none⟩) 1 1] (W.alloc (.cells #[.int .i64 o.kind] 3)) (RQ (encI o.kind) W) from by
    have h := ri1 [] o.kind hI.1.1 none 0 0 W rfl (by omega) (fun _ => ⟨rfl, rfl⟩) (.inl rfl) g hg
    rw [show [] ++ encs [o.kind] = encI o.kind by simp [encs, encI]] at h
    exact h))
  have H20 := hide h20
  have HI := hide hI
  clear h20 hI
  have HX0 := hide (BoxL.new w [.int .i64 n.kind, .int .i64 n.node, .int .i64 n.life, .int .i64 n.epoch, .string s, .int .i64 n.func, (.slice aa al ac), .int .i64 n.err, .int .i64 n.val, .int .i64 n.vep, (.slice ma ml mc)] 31)
  have HB0 := hide (below_new w (.cells #[.int .i64 n.kind, .int .i64 n.node, .int .i64 n.life, .int .i64 n.epoch, .string s, .int .i64 n.func, (.slice aa al ac), .int .i64 n.err, .int .i64 n.val, .int .i64 n.vep, (.slice ma ml mc)] 31))
  obtain ⟨V, hV⟩ : ∃ V, V = w.alloc (.cells #[.int .i64 n.kind, .int .i64 n.node, .int .i64 n.life, .int .i64 n.epoch, .string s, .int .i64 n.func, (.slice aa al ac), .int .i64 n.err, .int .i64 n.val, .int .i64 n.vep, (.slice ma ml mc)] 31) := ⟨_, rfl⟩
  have HX := hide (show BoxL V w.heap.size [.int .i64 n.kind, .int .i64 n.node, .int .i64 n.life, .int .i64 n.epoch, .string s, .int .i64 n.func, (.slice aa al ac), .int .i64 n.err, .int .i64 n.val, .int .i64 n.vep, (.slice ma ml mc)] by rw [hV]; exact HX0.out)
  have HB := hide (show Below w.heap.size w V by rw [hV]; exact HB0.out)
  have HV := hide hV
  clear hV HX0 HB0
  go_enter Try.func12, Try.ntmps12
  go_upto_region 9 with (first
    | (go_at_call 24; go_must (rw [← HV.out]; (with_reducible refine (CM.out V HB.out).mono ?_); rintro e w1 ⟨rfl, hb1⟩; have HX1 := hide (HX.out.below hb1); have HB1 := hide (HB.out.trans (hb1.mono HB.out.size)); obtain ⟨a0, a1, a2, a3, a4, a5, a6, a7, a8, a9, a10⟩ := HX1.out.c11))
    | (go_at_call 16; go_must ((with_reducible refine (CC.out w1).mono ?_); rintro e w2 ⟨s1, aa1, al1, ac1, ma1, ml1, mc1, rfl, hM1, hb2⟩; simp only [Nv]; have HX2 := hide (HX1.out.below hb2); have HB2 := hide (HB1.out.trans (hb2.mono HB1.out.size)); obtain ⟨e0, e1, e2, e3, e4, e5, e6, e7, e8, e9, e10⟩ := HX2.out.c11; obtain ⟨u0, u1, u2, u3, u4, u5, u6, u7, u8, u9, u10⟩ := HX2.out.f11; have HX3 := hide (put11_box HX2.out (.int .i64 o.kind) (.int .i64 o.node) (.int .i64 o.life) (.int .i64 o.epoch) (.string s1) (.int .i64 o.func) (.slice aa1 al1 ac1) (.int .i64 o.err) (.int .i64 o.val) (.int .i64 o.vep) (.slice ma1 ml1 mc1)); have HB3 := hide (put11_below (g := w.heap.size) HB2.out (Nat.le_refl _) (.int .i64 o.kind) (.int .i64 o.node) (.int .i64 o.life) (.int .i64 o.epoch) (.string s1) (.int .i64 o.func) (.slice aa1 al1 ac1) (.int .i64 o.err) (.int .i64 o.val) (.int .i64 o.vep) (.slice ma1 ml1 mc1)); obtain ⟨X, hX⟩ : ∃ X, X = put11 w2 w.heap.size (.int .i64 o.kind) (.int .i64 o.node) (.int .i64 o.life) (.int .i64 o.epoch) (.string s1) (.int .i64 o.func) (.slice aa1 al1 ac1) (.int .i64 o.err) (.int .i64 o.val) (.int .i64 o.vep) (.slice ma1 ml1 mc1) := ⟨_, rfl⟩; rw [← hX] at HX3 HB3; unfold put11 at hX; have HE := hide hX; clear hX; have hMX := hM1.out B X (HM.out.below HB3.out); have HMX := hide hMX; obtain ⟨hid1, hsz1, -, -, ⟨aa1', al1', ac1', eqa, hal1, -, hna1, hra1, -⟩, -⟩ := hMX; simp only [Value.slice.injEq] at eqa; obtain ⟨rfl, rfl, rfl⟩ := eqa; have HID := hide hid1; have HAL := hide hal1.out; have HNA := hide hna1; have HRA := hide hra1; clear hid1 hal1 hna1 hra1 hM1))
    | (go_at_call 25; go_must (rw [← HE.out]; (with_reducible refine (CK.out X _ (by first | rfl | (rw [HE.out]; simp [World.setCell]))).mono ?_); rintro e w3 ⟨q3, m3, c3, rfl, hm3, hc3, hn3, hr3, hb3⟩; have HX4 := hide (HX3.out.below hb3); have HB4 := hide (HB3.out.trans (hb3.mono HB3.out.size)); obtain ⟨Y, cp, kc, hbY, hsY, hokY⟩ := str_row w3 s1 hsz1; rw [HID.out] at hokY; have HOK := hide hokY; have HSY := hide hsY; have HBY := hide hbY; have HX5 := hide (HX4.out.below hbY); have HB5 := hide (HB4.out.trans (hbY.mono HB4.out.size)); have hltY : w.heap.size < Y.heap.size := HX5.out.1; obtain ⟨b0, b1, b2, b3, b4, b5, b6, b7, b8, b9, b10⟩ := HX4.out.c11; obtain ⟨d0, d1, d2, d3, d4, d5, d6, d7, d8, d9, d10⟩ := HX5.out.c11; have hlt1 : w.heap.size < Y.heap.size + 1 := (by omega); have hlt2 : w.heap.size < Y.heap.size + 1 + 1 := (by omega); have hne0 : w.heap.size ≠ Y.heap.size := (by omega); have hne1 : w.heap.size ≠ Y.heap.size + 1 := (by omega); have hne2 : w.heap.size ≠ Y.heap.size + 1 + 1 := (by omega); have z6 := (HX5.out.below (three Y (.cells #[.slice (some ⟨w3.heap.size, 0, none⟩) s1.size cp] 34) (.cells #[.int .i64 o.err, .int .i64 o.val] 3) (.cells #[.int .i64 o.func, .int .i64 (al1 : Int)] 3)).1).c11.2.2.2.2.2.2.1; clear hbY hsY hokY))
    | (at_builtin; go_must (obtain ⟨t1, t2, t3⟩ := three Y (.cells #[.slice (some ⟨w3.heap.size, 0, none⟩) s1.size cp] 34) (.cells #[.int .i64 o.err, .int .i64 o.val] 3) (.cells #[.int .i64 o.func, .int .i64 (al1 : Int)] 3); have hown := owng_new ((Y.alloc (.cells #[.slice (some ⟨w3.heap.size, 0, none⟩) s1.size cp] 34)).alloc (.cells #[.int .i64 o.err, .int .i64 o.val] 3)) [o.func, (al1 : Int)] 2 rfl (by omega); rw [show ((Y.alloc (.cells #[.slice (some ⟨w3.heap.size, 0, none⟩) s1.size cp] 34)).alloc (.cells #[.int .i64 o.err, .int .i64 o.val] 3)).heap.size = Y.heap.size + 1 + 1 by simp] at hown; refine append_i rfl (.tmp 36) (.tmp 38) rfl (Y.heap.size + 1 + 1) (.slice (some ⟨Y.heap.size + 1 + 1, 0, none⟩) 2 2) 2 [o.func, (al1 : Int)] rfl hown aa1 al1 ac1 o.args rfl HNA.out HAL.out ((HRA.out.below hb3).below (HBY.out.trans (t1.mono HBY.out.size))) (by have q1 := HAL.out; have q2 := H20.out; omega) (by simp) ?_; intro v8 w8 ho8 hg8; have HT := hide (And.intro t1 (And.intro t2 t3)); have HOW := hide hown; have HG8 := hide hg8; have HO8 := hide ho8; clear t1 t2 t3 hown hg8 ho8)))
  obtain ⟨g1, g2, g3⟩ := aft _ _ _ _ _ HG8.out
  have HX8 := hide (HX5.out.below g1)
  have HR8 := hide ((hr3.out.below HBY.out).below g1)
  have HT8 := hide (HOK.out.below g1)
  have HRT8 := hide (show Reads w8 (some ⟨Y.heap.size, 0, none⟩) (sV [⟨some ⟨w3.heap.size, 0, none⟩, s1.size, cp, o.id⟩]) from (reads_new Y (sV [⟨some ⟨w3.heap.size, 0, none⟩, s1.size, cp, o.id⟩]) 34).below g2)
  have er := (reads_new (Y.alloc (.cells #[.slice (some ⟨w3.heap.size, 0, none⟩) s1.size cp] 34)) (iV [o.err, o.val]) 3).below g3
  rw [show (Y.alloc (.cells #[.slice (some ⟨w3.heap.size, 0, none⟩) s1.size cp] 34)).heap.size = Y.heap.size + 1 by simp] at er
  have HER := hide er
  obtain ⟨a8, m8, c8, rfl, hm8, hc8, hn8, hr8, -⟩ := owng_row HO8.out
  have HB8 := hide (HB5.out.trans (g1.mono HB5.out.size))
  have HM8 := hm8
  have HN8 := hide hn8
  have HA8 := hide hr8
  have HAM := hide (show ([o.func, (al1 : Int)] ++ o.args).length = m8 from by have q1 := HM8.out; have q2 := HAL.out; simp only [List.length_append, List.length_cons, List.length_nil]; omega)
  have HIE := hide (show In64 [o.err, o.val] from in64_2 HI.out.2.2.1.1 HI.out.2.2.1.2)
  have HIA := hide (show In64 ([o.func, (al1 : Int)] ++ o.args) from in64_a HI.out.2.1.1 (by have q2 := HAL.out; have q3 := H20.out; unfold In1; omega) HI.out.2.1.2)
  have hlk := hm3.out
  have hl10 : (encI o.kind).length ≤ 10 := enc_len _
  have hidl : o.id.length = s1.size := HOK.out.1
  clear hm8 hn8 hr8 hc8 er g1 g2 g3 HG8 HO8 HT HOW z6 hlt1 hlt2 hne0 hne1 hne2 hltY HX HX1 HX2 HX3 HX4 HX5 HB HB1 HB2 HB3 HB4 HB5
  clear a0 a1 a2 a3 a4 a5 a6 a7 a9 a10 e0 e1 e2 e3 e4 e5 e6 e7 e8 e9 e10 u0 u1 u2 u3 u4 u5 u6 u7 u8 u9 u10 b0 b1 b2 b3 b4 b5 b6 b7 b8 b9 b10 d0 d1 d2 d3 d4 d5 d6 d7 d8 d9 d10
  obtain ⟨k0, k1, k2, k3, k4, k5, k6, k7, k8, k9, k10⟩ := HX8.out.c11
  rw [HK.out] at k0
  have C1 := hide (fun g hg => ri2 (encI o.kind) o.epoch o.node HI.out.1.2.2.2 HI.out.1.2.1 q3 m3 c3 w8 hm3.out (by omega) hn3.out HR8.out g hg)
  have hq9 : (encs [o.epoch, o.node]).length ≤ 20 := by have := encs_len10 [o.epoch, o.node]; simpa using this
  go_wp2_with (first | (go_at_call 25; go_must (first | ((with_reducible refine (C1.out _ rfl).mono ?_); rintro e w9 ⟨q9, m9, c9, rfl, hm9, hc9, hn9, hr9, hb9⟩; have hlk9 := hm9.out; simp only [List.length_append] at hlk9; have HB9 := hide ((HB8.out).trans (hb9.mono (HB8.out).size))))))
  go_ret2
  have ez : encN o = ((encI o.kind) ++ encs [o.epoch, o.node]) := by
    simp [encN, HK.out, hasView, hasEpoch, hasLife, hasNode, hasId, hasRes, hasFunc, encs, encI]
  rw [ez]
  exact ⟨_, _, _, rfl, hm9, hc9, hn9, hr9, HB9.out⟩

set_option maxRecDepth 100000 in
set_option maxHeartbeats 16000000 in
theorem rpack_4 (n o : No) (s : ByteArray) (aa ma : Option Addr) (al ac ml mc : Nat) (B : Nat) (w : World) (HM : Hid (NM B w n s (.slice aa al ac) (.slice ma ml mc)))
    (CC : Hid (∀ W, Calls Try.prog 16 #[.agg #[.int .i64 n.kind, .int .i64 n.node, .int .i64 n.life, .int .i64 n.epoch, .string s, .int .i64 n.func, (.slice aa al ac), .int .i64 n.err, .int .i64 n.val, .int .i64 n.vep, (.slice ma ml mc)]] W fun e w' => ∃ s1 aa1 al1 ac1 ma1 ml1 mc1, e = .returned (Nv o s1 (.slice aa1 al1 ac1) (.slice ma1 ml1 mc1)) ∧ Hid (∀ B W, NM B W n s (.slice aa al ac) (.slice ma ml mc) → NM B W o s1 (.slice aa1 al1 ac1) (.slice ma1 ml1 mc1)) ∧ Below W.heap.size W w'))
    (CM : Hid (∀ W, Below w.heap.size w W → Calls Try.prog 24 #[.agg #[.int .i64 n.kind, .int .i64 n.node, .int .i64 n.life, .int .i64 n.epoch, .string s, .int .i64 n.func, (.slice aa al ac), .int .i64 n.err, .int .i64 n.val, .int .i64 n.vep, (.slice ma ml mc)]] W fun e w' => e = .returned (.bool true) ∧ Below W.heap.size W w'))
    (hI : NIn o) (h20 : o.args.length ≤ 20000) (HK : Hid (o.kind = 4)) :
    Calls Try.prog 12 #[.agg #[.int .i64 n.kind, .int .i64 n.node, .int .i64 n.life, .int .i64 n.epoch, .string s, .int .i64 n.func, (.slice aa al ac), .int .i64 n.err, .int .i64 n.val, .int .i64 n.vep, (.slice ma ml mc)]] w (RP (encN o) w) := by
  have CK := hide (fun W g (hg : g = W.heap.size) => (show Calls Try.prog 25 #[.slice none 0 0, .slice (some ⟨g, 0, none⟩) 1 1] (W.alloc (.cells #[.int .i64 o.kind] 3)) (RQ (encI o.kind) W) from by
    have h := ri1 [] o.kind hI.1.1 none 0 0 W rfl (by omega) (fun _ => ⟨rfl, rfl⟩) (.inl rfl) g hg
    rw [show [] ++ encs [o.kind] = encI o.kind by simp [encs, encI]] at h
    exact h))
  have H20 := hide h20
  have HI := hide hI
  clear h20 hI
  have HX0 := hide (BoxL.new w [.int .i64 n.kind, .int .i64 n.node, .int .i64 n.life, .int .i64 n.epoch, .string s, .int .i64 n.func, (.slice aa al ac), .int .i64 n.err, .int .i64 n.val, .int .i64 n.vep, (.slice ma ml mc)] 31)
  have HB0 := hide (below_new w (.cells #[.int .i64 n.kind, .int .i64 n.node, .int .i64 n.life, .int .i64 n.epoch, .string s, .int .i64 n.func, (.slice aa al ac), .int .i64 n.err, .int .i64 n.val, .int .i64 n.vep, (.slice ma ml mc)] 31))
  obtain ⟨V, hV⟩ : ∃ V, V = w.alloc (.cells #[.int .i64 n.kind, .int .i64 n.node, .int .i64 n.life, .int .i64 n.epoch, .string s, .int .i64 n.func, (.slice aa al ac), .int .i64 n.err, .int .i64 n.val, .int .i64 n.vep, (.slice ma ml mc)] 31) := ⟨_, rfl⟩
  have HX := hide (show BoxL V w.heap.size [.int .i64 n.kind, .int .i64 n.node, .int .i64 n.life, .int .i64 n.epoch, .string s, .int .i64 n.func, (.slice aa al ac), .int .i64 n.err, .int .i64 n.val, .int .i64 n.vep, (.slice ma ml mc)] by rw [hV]; exact HX0.out)
  have HB := hide (show Below w.heap.size w V by rw [hV]; exact HB0.out)
  have HV := hide hV
  clear hV HX0 HB0
  go_enter Try.func12, Try.ntmps12
  go_upto_region 9 with (first
    | (go_at_call 24; go_must (rw [← HV.out]; (with_reducible refine (CM.out V HB.out).mono ?_); rintro e w1 ⟨rfl, hb1⟩; have HX1 := hide (HX.out.below hb1); have HB1 := hide (HB.out.trans (hb1.mono HB.out.size)); obtain ⟨a0, a1, a2, a3, a4, a5, a6, a7, a8, a9, a10⟩ := HX1.out.c11))
    | (go_at_call 16; go_must ((with_reducible refine (CC.out w1).mono ?_); rintro e w2 ⟨s1, aa1, al1, ac1, ma1, ml1, mc1, rfl, hM1, hb2⟩; simp only [Nv]; have HX2 := hide (HX1.out.below hb2); have HB2 := hide (HB1.out.trans (hb2.mono HB1.out.size)); obtain ⟨e0, e1, e2, e3, e4, e5, e6, e7, e8, e9, e10⟩ := HX2.out.c11; obtain ⟨u0, u1, u2, u3, u4, u5, u6, u7, u8, u9, u10⟩ := HX2.out.f11; have HX3 := hide (put11_box HX2.out (.int .i64 o.kind) (.int .i64 o.node) (.int .i64 o.life) (.int .i64 o.epoch) (.string s1) (.int .i64 o.func) (.slice aa1 al1 ac1) (.int .i64 o.err) (.int .i64 o.val) (.int .i64 o.vep) (.slice ma1 ml1 mc1)); have HB3 := hide (put11_below (g := w.heap.size) HB2.out (Nat.le_refl _) (.int .i64 o.kind) (.int .i64 o.node) (.int .i64 o.life) (.int .i64 o.epoch) (.string s1) (.int .i64 o.func) (.slice aa1 al1 ac1) (.int .i64 o.err) (.int .i64 o.val) (.int .i64 o.vep) (.slice ma1 ml1 mc1)); obtain ⟨X, hX⟩ : ∃ X, X = put11 w2 w.heap.size (.int .i64 o.kind) (.int .i64 o.node) (.int .i64 o.life) (.int .i64 o.epoch) (.string s1) (.int .i64 o.func) (.slice aa1 al1 ac1) (.int .i64 o.err) (.int .i64 o.val) (.int .i64 o.vep) (.slice ma1 ml1 mc1) := ⟨_, rfl⟩; rw [← hX] at HX3 HB3; unfold put11 at hX; have HE := hide hX; clear hX; have hMX := hM1.out B X (HM.out.below HB3.out); have HMX := hide hMX; obtain ⟨hid1, hsz1, -, -, ⟨aa1', al1', ac1', eqa, hal1, -, hna1, hra1, -⟩, -⟩ := hMX; simp only [Value.slice.injEq] at eqa; obtain ⟨rfl, rfl, rfl⟩ := eqa; have HID := hide hid1; have HAL := hide hal1.out; have HNA := hide hna1; have HRA := hide hra1; clear hid1 hal1 hna1 hra1 hM1))
    | (go_at_call 25; go_must (rw [← HE.out]; (with_reducible refine (CK.out X _ (by first | rfl | (rw [HE.out]; simp [World.setCell]))).mono ?_); rintro e w3 ⟨q3, m3, c3, rfl, hm3, hc3, hn3, hr3, hb3⟩; have HX4 := hide (HX3.out.below hb3); have HB4 := hide (HB3.out.trans (hb3.mono HB3.out.size)); obtain ⟨Y, cp, kc, hbY, hsY, hokY⟩ := str_row w3 s1 hsz1; rw [HID.out] at hokY; have HOK := hide hokY; have HSY := hide hsY; have HBY := hide hbY; have HX5 := hide (HX4.out.below hbY); have HB5 := hide (HB4.out.trans (hbY.mono HB4.out.size)); have hltY : w.heap.size < Y.heap.size := HX5.out.1; obtain ⟨b0, b1, b2, b3, b4, b5, b6, b7, b8, b9, b10⟩ := HX4.out.c11; obtain ⟨d0, d1, d2, d3, d4, d5, d6, d7, d8, d9, d10⟩ := HX5.out.c11; have hlt1 : w.heap.size < Y.heap.size + 1 := (by omega); have hlt2 : w.heap.size < Y.heap.size + 1 + 1 := (by omega); have hne0 : w.heap.size ≠ Y.heap.size := (by omega); have hne1 : w.heap.size ≠ Y.heap.size + 1 := (by omega); have hne2 : w.heap.size ≠ Y.heap.size + 1 + 1 := (by omega); have z6 := (HX5.out.below (three Y (.cells #[.slice (some ⟨w3.heap.size, 0, none⟩) s1.size cp] 34) (.cells #[.int .i64 o.err, .int .i64 o.val] 3) (.cells #[.int .i64 o.func, .int .i64 (al1 : Int)] 3)).1).c11.2.2.2.2.2.2.1; clear hbY hsY hokY))
    | (at_builtin; go_must (obtain ⟨t1, t2, t3⟩ := three Y (.cells #[.slice (some ⟨w3.heap.size, 0, none⟩) s1.size cp] 34) (.cells #[.int .i64 o.err, .int .i64 o.val] 3) (.cells #[.int .i64 o.func, .int .i64 (al1 : Int)] 3); have hown := owng_new ((Y.alloc (.cells #[.slice (some ⟨w3.heap.size, 0, none⟩) s1.size cp] 34)).alloc (.cells #[.int .i64 o.err, .int .i64 o.val] 3)) [o.func, (al1 : Int)] 2 rfl (by omega); rw [show ((Y.alloc (.cells #[.slice (some ⟨w3.heap.size, 0, none⟩) s1.size cp] 34)).alloc (.cells #[.int .i64 o.err, .int .i64 o.val] 3)).heap.size = Y.heap.size + 1 + 1 by simp] at hown; refine append_i rfl (.tmp 36) (.tmp 38) rfl (Y.heap.size + 1 + 1) (.slice (some ⟨Y.heap.size + 1 + 1, 0, none⟩) 2 2) 2 [o.func, (al1 : Int)] rfl hown aa1 al1 ac1 o.args rfl HNA.out HAL.out ((HRA.out.below hb3).below (HBY.out.trans (t1.mono HBY.out.size))) (by have q1 := HAL.out; have q2 := H20.out; omega) (by simp) ?_; intro v8 w8 ho8 hg8; have HT := hide (And.intro t1 (And.intro t2 t3)); have HOW := hide hown; have HG8 := hide hg8; have HO8 := hide ho8; clear t1 t2 t3 hown hg8 ho8)))
  obtain ⟨g1, g2, g3⟩ := aft _ _ _ _ _ HG8.out
  have HX8 := hide (HX5.out.below g1)
  have HR8 := hide ((hr3.out.below HBY.out).below g1)
  have HT8 := hide (HOK.out.below g1)
  have HRT8 := hide (show Reads w8 (some ⟨Y.heap.size, 0, none⟩) (sV [⟨some ⟨w3.heap.size, 0, none⟩, s1.size, cp, o.id⟩]) from (reads_new Y (sV [⟨some ⟨w3.heap.size, 0, none⟩, s1.size, cp, o.id⟩]) 34).below g2)
  have er := (reads_new (Y.alloc (.cells #[.slice (some ⟨w3.heap.size, 0, none⟩) s1.size cp] 34)) (iV [o.err, o.val]) 3).below g3
  rw [show (Y.alloc (.cells #[.slice (some ⟨w3.heap.size, 0, none⟩) s1.size cp] 34)).heap.size = Y.heap.size + 1 by simp] at er
  have HER := hide er
  obtain ⟨a8, m8, c8, rfl, hm8, hc8, hn8, hr8, -⟩ := owng_row HO8.out
  have HB8 := hide (HB5.out.trans (g1.mono HB5.out.size))
  have HM8 := hm8
  have HN8 := hide hn8
  have HA8 := hide hr8
  have HAM := hide (show ([o.func, (al1 : Int)] ++ o.args).length = m8 from by have q1 := HM8.out; have q2 := HAL.out; simp only [List.length_append, List.length_cons, List.length_nil]; omega)
  have HIE := hide (show In64 [o.err, o.val] from in64_2 HI.out.2.2.1.1 HI.out.2.2.1.2)
  have HIA := hide (show In64 ([o.func, (al1 : Int)] ++ o.args) from in64_a HI.out.2.1.1 (by have q2 := HAL.out; have q3 := H20.out; unfold In1; omega) HI.out.2.1.2)
  have hlk := hm3.out
  have hl10 : (encI o.kind).length ≤ 10 := enc_len _
  have hidl : o.id.length = s1.size := HOK.out.1
  clear hm8 hn8 hr8 hc8 er g1 g2 g3 HG8 HO8 HT HOW z6 hlt1 hlt2 hne0 hne1 hne2 hltY HX HX1 HX2 HX3 HX4 HX5 HB HB1 HB2 HB3 HB4 HB5
  clear a0 a1 a2 a3 a4 a5 a6 a7 a9 a10 e0 e1 e2 e3 e4 e5 e6 e7 e8 e9 e10 u0 u1 u2 u3 u4 u5 u6 u7 u8 u9 u10 b0 b1 b2 b3 b4 b5 b6 b7 b8 b9 b10 d0 d1 d2 d3 d4 d5 d6 d7 d8 d9 d10
  obtain ⟨k0, k1, k2, k3, k4, k5, k6, k7, k8, k9, k10⟩ := HX8.out.c11
  rw [HK.out] at k0
  have C1 := hide (fun g hg => ri2 (encI o.kind) o.epoch o.life HI.out.1.2.2.2 HI.out.1.2.2.1 q3 m3 c3 w8 hm3.out (by omega) hn3.out HR8.out g hg)
  have hq9 : (encs [o.epoch, o.life]).length ≤ 20 := by have := encs_len10 [o.epoch, o.life]; simpa using this
  have hqt : (encT o.id).length ≤ 10 + o.id.length := by have := enc_len (foldN (o.id.length : Int)); simp only [encT, List.length_append]; omega
  go_wp2_with (first | (go_at_call 25; go_must (first | ((with_reducible refine (C1.out _ rfl).mono ?_); rintro e w9 ⟨q9, m9, c9, rfl, hm9, hc9, hn9, hr9, hb9⟩; have hlk9 := hm9.out; simp only [List.length_append] at hlk9; have HB9 := hide ((HB8.out).trans (hb9.mono (HB8.out).size))) | ((with_reducible refine (ri (((encI o.kind) ++ encs [o.epoch, o.life]) ++ encT o.id) ([o.func, (al1 : Int)] ++ o.args) q10 m10 c10 a8 m8 c8 w10 hm10.out (by omega) hn10.out hr10.out HAM.out (by have q1 := HM8.out; have q2 := HAL.out; have q3 := H20.out; omega) (HIA.out) (((HA8.out).below hb9).below hb10)).mono ?_); rintro e w11 ⟨q11, m11, c11, rfl, hm11, hc11, hn11, hr11, hb11⟩; have hlk11 := hm11.out; simp only [List.length_append] at hlk11; have HB11 := hide ((HB10.out).trans (hb11.mono (HB10.out).size))))) | (go_at_call 26; go_must ((with_reducible refine (rb ((encI o.kind) ++ encs [o.epoch, o.life]) o.id q9 m9 c9 Y.heap.size (some ⟨w3.heap.size, 0, none⟩) s1.size cp w9 hm9.out (by omega) hn9.out hr9.out ((HT8.out).below hb9) (by omega) ((HRT8.out).below hb9)).mono ?_); rintro e w10 ⟨q10, m10, c10, rfl, hm10, hc10, hn10, hr10, hb10⟩; have hlk10 := hm10.out; simp only [List.length_append] at hlk10; have HB10 := hide ((HB9.out).trans (hb10.mono (HB9.out).size)))))
  go_ret2
  have ez : encN o = ((((encI o.kind) ++ encs [o.epoch, o.life]) ++ encT o.id) ++ encs ([o.func, (al1 : Int)] ++ o.args)) := by
    simp [encN, HK.out, hasView, hasEpoch, hasLife, hasNode, hasId, hasRes, hasFunc, encs, encI, ← HAL.out]
  rw [ez]
  exact ⟨_, _, _, rfl, hm11, hc11, hn11, hr11, HB11.out⟩

set_option maxRecDepth 100000 in
set_option maxHeartbeats 16000000 in
theorem rpack_5 (n o : No) (s : ByteArray) (aa ma : Option Addr) (al ac ml mc : Nat) (B : Nat) (w : World) (HM : Hid (NM B w n s (.slice aa al ac) (.slice ma ml mc)))
    (CC : Hid (∀ W, Calls Try.prog 16 #[.agg #[.int .i64 n.kind, .int .i64 n.node, .int .i64 n.life, .int .i64 n.epoch, .string s, .int .i64 n.func, (.slice aa al ac), .int .i64 n.err, .int .i64 n.val, .int .i64 n.vep, (.slice ma ml mc)]] W fun e w' => ∃ s1 aa1 al1 ac1 ma1 ml1 mc1, e = .returned (Nv o s1 (.slice aa1 al1 ac1) (.slice ma1 ml1 mc1)) ∧ Hid (∀ B W, NM B W n s (.slice aa al ac) (.slice ma ml mc) → NM B W o s1 (.slice aa1 al1 ac1) (.slice ma1 ml1 mc1)) ∧ Below W.heap.size W w'))
    (CM : Hid (∀ W, Below w.heap.size w W → Calls Try.prog 24 #[.agg #[.int .i64 n.kind, .int .i64 n.node, .int .i64 n.life, .int .i64 n.epoch, .string s, .int .i64 n.func, (.slice aa al ac), .int .i64 n.err, .int .i64 n.val, .int .i64 n.vep, (.slice ma ml mc)]] W fun e w' => e = .returned (.bool true) ∧ Below W.heap.size W w'))
    (hI : NIn o) (h20 : o.args.length ≤ 20000) (HK : Hid (o.kind = 5)) :
    Calls Try.prog 12 #[.agg #[.int .i64 n.kind, .int .i64 n.node, .int .i64 n.life, .int .i64 n.epoch, .string s, .int .i64 n.func, (.slice aa al ac), .int .i64 n.err, .int .i64 n.val, .int .i64 n.vep, (.slice ma ml mc)]] w (RP (encN o) w) := by
  have CK := hide (fun W g (hg : g = W.heap.size) => (show Calls Try.prog 25 #[.slice none 0 0, .slice (some ⟨g, 0, none⟩) 1 1] (W.alloc (.cells #[.int .i64 o.kind] 3)) (RQ (encI o.kind) W) from by
    have h := ri1 [] o.kind hI.1.1 none 0 0 W rfl (by omega) (fun _ => ⟨rfl, rfl⟩) (.inl rfl) g hg
    rw [show [] ++ encs [o.kind] = encI o.kind by simp [encs, encI]] at h
    exact h))
  have H20 := hide h20
  have HI := hide hI
  clear h20 hI
  have HX0 := hide (BoxL.new w [.int .i64 n.kind, .int .i64 n.node, .int .i64 n.life, .int .i64 n.epoch, .string s, .int .i64 n.func, (.slice aa al ac), .int .i64 n.err, .int .i64 n.val, .int .i64 n.vep, (.slice ma ml mc)] 31)
  have HB0 := hide (below_new w (.cells #[.int .i64 n.kind, .int .i64 n.node, .int .i64 n.life, .int .i64 n.epoch, .string s, .int .i64 n.func, (.slice aa al ac), .int .i64 n.err, .int .i64 n.val, .int .i64 n.vep, (.slice ma ml mc)] 31))
  obtain ⟨V, hV⟩ : ∃ V, V = w.alloc (.cells #[.int .i64 n.kind, .int .i64 n.node, .int .i64 n.life, .int .i64 n.epoch, .string s, .int .i64 n.func, (.slice aa al ac), .int .i64 n.err, .int .i64 n.val, .int .i64 n.vep, (.slice ma ml mc)] 31) := ⟨_, rfl⟩
  have HX := hide (show BoxL V w.heap.size [.int .i64 n.kind, .int .i64 n.node, .int .i64 n.life, .int .i64 n.epoch, .string s, .int .i64 n.func, (.slice aa al ac), .int .i64 n.err, .int .i64 n.val, .int .i64 n.vep, (.slice ma ml mc)] by rw [hV]; exact HX0.out)
  have HB := hide (show Below w.heap.size w V by rw [hV]; exact HB0.out)
  have HV := hide hV
  clear hV HX0 HB0
  go_enter Try.func12, Try.ntmps12
  go_upto_region 9 with (first
    | (go_at_call 24; go_must (rw [← HV.out]; (with_reducible refine (CM.out V HB.out).mono ?_); rintro e w1 ⟨rfl, hb1⟩; have HX1 := hide (HX.out.below hb1); have HB1 := hide (HB.out.trans (hb1.mono HB.out.size)); obtain ⟨a0, a1, a2, a3, a4, a5, a6, a7, a8, a9, a10⟩ := HX1.out.c11))
    | (go_at_call 16; go_must ((with_reducible refine (CC.out w1).mono ?_); rintro e w2 ⟨s1, aa1, al1, ac1, ma1, ml1, mc1, rfl, hM1, hb2⟩; simp only [Nv]; have HX2 := hide (HX1.out.below hb2); have HB2 := hide (HB1.out.trans (hb2.mono HB1.out.size)); obtain ⟨e0, e1, e2, e3, e4, e5, e6, e7, e8, e9, e10⟩ := HX2.out.c11; obtain ⟨u0, u1, u2, u3, u4, u5, u6, u7, u8, u9, u10⟩ := HX2.out.f11; have HX3 := hide (put11_box HX2.out (.int .i64 o.kind) (.int .i64 o.node) (.int .i64 o.life) (.int .i64 o.epoch) (.string s1) (.int .i64 o.func) (.slice aa1 al1 ac1) (.int .i64 o.err) (.int .i64 o.val) (.int .i64 o.vep) (.slice ma1 ml1 mc1)); have HB3 := hide (put11_below (g := w.heap.size) HB2.out (Nat.le_refl _) (.int .i64 o.kind) (.int .i64 o.node) (.int .i64 o.life) (.int .i64 o.epoch) (.string s1) (.int .i64 o.func) (.slice aa1 al1 ac1) (.int .i64 o.err) (.int .i64 o.val) (.int .i64 o.vep) (.slice ma1 ml1 mc1)); obtain ⟨X, hX⟩ : ∃ X, X = put11 w2 w.heap.size (.int .i64 o.kind) (.int .i64 o.node) (.int .i64 o.life) (.int .i64 o.epoch) (.string s1) (.int .i64 o.func) (.slice aa1 al1 ac1) (.int .i64 o.err) (.int .i64 o.val) (.int .i64 o.vep) (.slice ma1 ml1 mc1) := ⟨_, rfl⟩; rw [← hX] at HX3 HB3; unfold put11 at hX; have HE := hide hX; clear hX; have hMX := hM1.out B X (HM.out.below HB3.out); have HMX := hide hMX; obtain ⟨hid1, hsz1, -, -, ⟨aa1', al1', ac1', eqa, hal1, -, hna1, hra1, -⟩, -⟩ := hMX; simp only [Value.slice.injEq] at eqa; obtain ⟨rfl, rfl, rfl⟩ := eqa; have HID := hide hid1; have HAL := hide hal1.out; have HNA := hide hna1; have HRA := hide hra1; clear hid1 hal1 hna1 hra1 hM1))
    | (go_at_call 25; go_must (rw [← HE.out]; (with_reducible refine (CK.out X _ (by first | rfl | (rw [HE.out]; simp [World.setCell]))).mono ?_); rintro e w3 ⟨q3, m3, c3, rfl, hm3, hc3, hn3, hr3, hb3⟩; have HX4 := hide (HX3.out.below hb3); have HB4 := hide (HB3.out.trans (hb3.mono HB3.out.size)); obtain ⟨Y, cp, kc, hbY, hsY, hokY⟩ := str_row w3 s1 hsz1; rw [HID.out] at hokY; have HOK := hide hokY; have HSY := hide hsY; have HBY := hide hbY; have HX5 := hide (HX4.out.below hbY); have HB5 := hide (HB4.out.trans (hbY.mono HB4.out.size)); have hltY : w.heap.size < Y.heap.size := HX5.out.1; obtain ⟨b0, b1, b2, b3, b4, b5, b6, b7, b8, b9, b10⟩ := HX4.out.c11; obtain ⟨d0, d1, d2, d3, d4, d5, d6, d7, d8, d9, d10⟩ := HX5.out.c11; have hlt1 : w.heap.size < Y.heap.size + 1 := (by omega); have hlt2 : w.heap.size < Y.heap.size + 1 + 1 := (by omega); have hne0 : w.heap.size ≠ Y.heap.size := (by omega); have hne1 : w.heap.size ≠ Y.heap.size + 1 := (by omega); have hne2 : w.heap.size ≠ Y.heap.size + 1 + 1 := (by omega); have z6 := (HX5.out.below (three Y (.cells #[.slice (some ⟨w3.heap.size, 0, none⟩) s1.size cp] 34) (.cells #[.int .i64 o.err, .int .i64 o.val] 3) (.cells #[.int .i64 o.func, .int .i64 (al1 : Int)] 3)).1).c11.2.2.2.2.2.2.1; clear hbY hsY hokY))
    | (at_builtin; go_must (obtain ⟨t1, t2, t3⟩ := three Y (.cells #[.slice (some ⟨w3.heap.size, 0, none⟩) s1.size cp] 34) (.cells #[.int .i64 o.err, .int .i64 o.val] 3) (.cells #[.int .i64 o.func, .int .i64 (al1 : Int)] 3); have hown := owng_new ((Y.alloc (.cells #[.slice (some ⟨w3.heap.size, 0, none⟩) s1.size cp] 34)).alloc (.cells #[.int .i64 o.err, .int .i64 o.val] 3)) [o.func, (al1 : Int)] 2 rfl (by omega); rw [show ((Y.alloc (.cells #[.slice (some ⟨w3.heap.size, 0, none⟩) s1.size cp] 34)).alloc (.cells #[.int .i64 o.err, .int .i64 o.val] 3)).heap.size = Y.heap.size + 1 + 1 by simp] at hown; refine append_i rfl (.tmp 36) (.tmp 38) rfl (Y.heap.size + 1 + 1) (.slice (some ⟨Y.heap.size + 1 + 1, 0, none⟩) 2 2) 2 [o.func, (al1 : Int)] rfl hown aa1 al1 ac1 o.args rfl HNA.out HAL.out ((HRA.out.below hb3).below (HBY.out.trans (t1.mono HBY.out.size))) (by have q1 := HAL.out; have q2 := H20.out; omega) (by simp) ?_; intro v8 w8 ho8 hg8; have HT := hide (And.intro t1 (And.intro t2 t3)); have HOW := hide hown; have HG8 := hide hg8; have HO8 := hide ho8; clear t1 t2 t3 hown hg8 ho8)))
  obtain ⟨g1, g2, g3⟩ := aft _ _ _ _ _ HG8.out
  have HX8 := hide (HX5.out.below g1)
  have HR8 := hide ((hr3.out.below HBY.out).below g1)
  have HT8 := hide (HOK.out.below g1)
  have HRT8 := hide (show Reads w8 (some ⟨Y.heap.size, 0, none⟩) (sV [⟨some ⟨w3.heap.size, 0, none⟩, s1.size, cp, o.id⟩]) from (reads_new Y (sV [⟨some ⟨w3.heap.size, 0, none⟩, s1.size, cp, o.id⟩]) 34).below g2)
  have er := (reads_new (Y.alloc (.cells #[.slice (some ⟨w3.heap.size, 0, none⟩) s1.size cp] 34)) (iV [o.err, o.val]) 3).below g3
  rw [show (Y.alloc (.cells #[.slice (some ⟨w3.heap.size, 0, none⟩) s1.size cp] 34)).heap.size = Y.heap.size + 1 by simp] at er
  have HER := hide er
  obtain ⟨a8, m8, c8, rfl, hm8, hc8, hn8, hr8, -⟩ := owng_row HO8.out
  have HB8 := hide (HB5.out.trans (g1.mono HB5.out.size))
  have HM8 := hm8
  have HN8 := hide hn8
  have HA8 := hide hr8
  have HAM := hide (show ([o.func, (al1 : Int)] ++ o.args).length = m8 from by have q1 := HM8.out; have q2 := HAL.out; simp only [List.length_append, List.length_cons, List.length_nil]; omega)
  have HIE := hide (show In64 [o.err, o.val] from in64_2 HI.out.2.2.1.1 HI.out.2.2.1.2)
  have HIA := hide (show In64 ([o.func, (al1 : Int)] ++ o.args) from in64_a HI.out.2.1.1 (by have q2 := HAL.out; have q3 := H20.out; unfold In1; omega) HI.out.2.1.2)
  have hlk := hm3.out
  have hl10 : (encI o.kind).length ≤ 10 := enc_len _
  have hidl : o.id.length = s1.size := HOK.out.1
  clear hm8 hn8 hr8 hc8 er g1 g2 g3 HG8 HO8 HT HOW z6 hlt1 hlt2 hne0 hne1 hne2 hltY HX HX1 HX2 HX3 HX4 HX5 HB HB1 HB2 HB3 HB4 HB5
  clear a0 a1 a2 a3 a4 a5 a6 a7 a9 a10 e0 e1 e2 e3 e4 e5 e6 e7 e8 e9 e10 u0 u1 u2 u3 u4 u5 u6 u7 u8 u9 u10 b0 b1 b2 b3 b4 b5 b6 b7 b8 b9 b10 d0 d1 d2 d3 d4 d5 d6 d7 d8 d9 d10
  obtain ⟨k0, k1, k2, k3, k4, k5, k6, k7, k8, k9, k10⟩ := HX8.out.c11
  rw [HK.out] at k0
  have C1 := hide (fun g hg => ri3 (encI o.kind) o.epoch o.life o.node HI.out.1.2.2.2 HI.out.1.2.2.1 HI.out.1.2.1 q3 m3 c3 w8 hm3.out (by omega) hn3.out HR8.out g hg)
  have hq9 : (encs [o.epoch, o.life, o.node]).length ≤ 30 := by have := encs_len10 [o.epoch, o.life, o.node]; simpa using this
  have hqt : (encT o.id).length ≤ 10 + o.id.length := by have := enc_len (foldN (o.id.length : Int)); simp only [encT, List.length_append]; omega
  go_wp2_with (first | (go_at_call 25; go_must (first | ((with_reducible refine (C1.out _ rfl).mono ?_); rintro e w9 ⟨q9, m9, c9, rfl, hm9, hc9, hn9, hr9, hb9⟩; have hlk9 := hm9.out; simp only [List.length_append] at hlk9; have HB9 := hide ((HB8.out).trans (hb9.mono (HB8.out).size))))) | (go_at_call 26; go_must ((with_reducible refine (rb ((encI o.kind) ++ encs [o.epoch, o.life, o.node]) o.id q9 m9 c9 Y.heap.size (some ⟨w3.heap.size, 0, none⟩) s1.size cp w9 hm9.out (by omega) hn9.out hr9.out ((HT8.out).below hb9) (by omega) ((HRT8.out).below hb9)).mono ?_); rintro e w10 ⟨q10, m10, c10, rfl, hm10, hc10, hn10, hr10, hb10⟩; have hlk10 := hm10.out; simp only [List.length_append] at hlk10; have HB10 := hide ((HB9.out).trans (hb10.mono (HB9.out).size)))))
  go_ret2
  have ez : encN o = (((encI o.kind) ++ encs [o.epoch, o.life, o.node]) ++ encT o.id) := by
    simp [encN, HK.out, hasView, hasEpoch, hasLife, hasNode, hasId, hasRes, hasFunc, encs, encI]
  rw [ez]
  exact ⟨_, _, _, rfl, hm10, hc10, hn10, hr10, HB10.out⟩

set_option maxRecDepth 100000 in
set_option maxHeartbeats 16000000 in
theorem rpack_6 (n o : No) (s : ByteArray) (aa ma : Option Addr) (al ac ml mc : Nat) (B : Nat) (w : World) (HM : Hid (NM B w n s (.slice aa al ac) (.slice ma ml mc)))
    (CC : Hid (∀ W, Calls Try.prog 16 #[.agg #[.int .i64 n.kind, .int .i64 n.node, .int .i64 n.life, .int .i64 n.epoch, .string s, .int .i64 n.func, (.slice aa al ac), .int .i64 n.err, .int .i64 n.val, .int .i64 n.vep, (.slice ma ml mc)]] W fun e w' => ∃ s1 aa1 al1 ac1 ma1 ml1 mc1, e = .returned (Nv o s1 (.slice aa1 al1 ac1) (.slice ma1 ml1 mc1)) ∧ Hid (∀ B W, NM B W n s (.slice aa al ac) (.slice ma ml mc) → NM B W o s1 (.slice aa1 al1 ac1) (.slice ma1 ml1 mc1)) ∧ Below W.heap.size W w'))
    (CM : Hid (∀ W, Below w.heap.size w W → Calls Try.prog 24 #[.agg #[.int .i64 n.kind, .int .i64 n.node, .int .i64 n.life, .int .i64 n.epoch, .string s, .int .i64 n.func, (.slice aa al ac), .int .i64 n.err, .int .i64 n.val, .int .i64 n.vep, (.slice ma ml mc)]] W fun e w' => e = .returned (.bool true) ∧ Below W.heap.size W w'))
    (hI : NIn o) (h20 : o.args.length ≤ 20000) (HK : Hid (o.kind = 6)) :
    Calls Try.prog 12 #[.agg #[.int .i64 n.kind, .int .i64 n.node, .int .i64 n.life, .int .i64 n.epoch, .string s, .int .i64 n.func, (.slice aa al ac), .int .i64 n.err, .int .i64 n.val, .int .i64 n.vep, (.slice ma ml mc)]] w (RP (encN o) w) := by
  have CK := hide (fun W g (hg : g = W.heap.size) => (show Calls Try.prog 25 #[.slice none 0 0, .slice (some ⟨g, 0, none⟩) 1 1] (W.alloc (.cells #[.int .i64 o.kind] 3)) (RQ (encI o.kind) W) from by
    have h := ri1 [] o.kind hI.1.1 none 0 0 W rfl (by omega) (fun _ => ⟨rfl, rfl⟩) (.inl rfl) g hg
    rw [show [] ++ encs [o.kind] = encI o.kind by simp [encs, encI]] at h
    exact h))
  have H20 := hide h20
  have HI := hide hI
  clear h20 hI
  have HX0 := hide (BoxL.new w [.int .i64 n.kind, .int .i64 n.node, .int .i64 n.life, .int .i64 n.epoch, .string s, .int .i64 n.func, (.slice aa al ac), .int .i64 n.err, .int .i64 n.val, .int .i64 n.vep, (.slice ma ml mc)] 31)
  have HB0 := hide (below_new w (.cells #[.int .i64 n.kind, .int .i64 n.node, .int .i64 n.life, .int .i64 n.epoch, .string s, .int .i64 n.func, (.slice aa al ac), .int .i64 n.err, .int .i64 n.val, .int .i64 n.vep, (.slice ma ml mc)] 31))
  obtain ⟨V, hV⟩ : ∃ V, V = w.alloc (.cells #[.int .i64 n.kind, .int .i64 n.node, .int .i64 n.life, .int .i64 n.epoch, .string s, .int .i64 n.func, (.slice aa al ac), .int .i64 n.err, .int .i64 n.val, .int .i64 n.vep, (.slice ma ml mc)] 31) := ⟨_, rfl⟩
  have HX := hide (show BoxL V w.heap.size [.int .i64 n.kind, .int .i64 n.node, .int .i64 n.life, .int .i64 n.epoch, .string s, .int .i64 n.func, (.slice aa al ac), .int .i64 n.err, .int .i64 n.val, .int .i64 n.vep, (.slice ma ml mc)] by rw [hV]; exact HX0.out)
  have HB := hide (show Below w.heap.size w V by rw [hV]; exact HB0.out)
  have HV := hide hV
  clear hV HX0 HB0
  go_enter Try.func12, Try.ntmps12
  go_upto_region 9 with (first
    | (go_at_call 24; go_must (rw [← HV.out]; (with_reducible refine (CM.out V HB.out).mono ?_); rintro e w1 ⟨rfl, hb1⟩; have HX1 := hide (HX.out.below hb1); have HB1 := hide (HB.out.trans (hb1.mono HB.out.size)); obtain ⟨a0, a1, a2, a3, a4, a5, a6, a7, a8, a9, a10⟩ := HX1.out.c11))
    | (go_at_call 16; go_must ((with_reducible refine (CC.out w1).mono ?_); rintro e w2 ⟨s1, aa1, al1, ac1, ma1, ml1, mc1, rfl, hM1, hb2⟩; simp only [Nv]; have HX2 := hide (HX1.out.below hb2); have HB2 := hide (HB1.out.trans (hb2.mono HB1.out.size)); obtain ⟨e0, e1, e2, e3, e4, e5, e6, e7, e8, e9, e10⟩ := HX2.out.c11; obtain ⟨u0, u1, u2, u3, u4, u5, u6, u7, u8, u9, u10⟩ := HX2.out.f11; have HX3 := hide (put11_box HX2.out (.int .i64 o.kind) (.int .i64 o.node) (.int .i64 o.life) (.int .i64 o.epoch) (.string s1) (.int .i64 o.func) (.slice aa1 al1 ac1) (.int .i64 o.err) (.int .i64 o.val) (.int .i64 o.vep) (.slice ma1 ml1 mc1)); have HB3 := hide (put11_below (g := w.heap.size) HB2.out (Nat.le_refl _) (.int .i64 o.kind) (.int .i64 o.node) (.int .i64 o.life) (.int .i64 o.epoch) (.string s1) (.int .i64 o.func) (.slice aa1 al1 ac1) (.int .i64 o.err) (.int .i64 o.val) (.int .i64 o.vep) (.slice ma1 ml1 mc1)); obtain ⟨X, hX⟩ : ∃ X, X = put11 w2 w.heap.size (.int .i64 o.kind) (.int .i64 o.node) (.int .i64 o.life) (.int .i64 o.epoch) (.string s1) (.int .i64 o.func) (.slice aa1 al1 ac1) (.int .i64 o.err) (.int .i64 o.val) (.int .i64 o.vep) (.slice ma1 ml1 mc1) := ⟨_, rfl⟩; rw [← hX] at HX3 HB3; unfold put11 at hX; have HE := hide hX; clear hX; have hMX := hM1.out B X (HM.out.below HB3.out); have HMX := hide hMX; obtain ⟨hid1, hsz1, -, -, ⟨aa1', al1', ac1', eqa, hal1, -, hna1, hra1, -⟩, -⟩ := hMX; simp only [Value.slice.injEq] at eqa; obtain ⟨rfl, rfl, rfl⟩ := eqa; have HID := hide hid1; have HAL := hide hal1.out; have HNA := hide hna1; have HRA := hide hra1; clear hid1 hal1 hna1 hra1 hM1))
    | (go_at_call 25; go_must (rw [← HE.out]; (with_reducible refine (CK.out X _ (by first | rfl | (rw [HE.out]; simp [World.setCell]))).mono ?_); rintro e w3 ⟨q3, m3, c3, rfl, hm3, hc3, hn3, hr3, hb3⟩; have HX4 := hide (HX3.out.below hb3); have HB4 := hide (HB3.out.trans (hb3.mono HB3.out.size)); obtain ⟨Y, cp, kc, hbY, hsY, hokY⟩ := str_row w3 s1 hsz1; rw [HID.out] at hokY; have HOK := hide hokY; have HSY := hide hsY; have HBY := hide hbY; have HX5 := hide (HX4.out.below hbY); have HB5 := hide (HB4.out.trans (hbY.mono HB4.out.size)); have hltY : w.heap.size < Y.heap.size := HX5.out.1; obtain ⟨b0, b1, b2, b3, b4, b5, b6, b7, b8, b9, b10⟩ := HX4.out.c11; obtain ⟨d0, d1, d2, d3, d4, d5, d6, d7, d8, d9, d10⟩ := HX5.out.c11; have hlt1 : w.heap.size < Y.heap.size + 1 := (by omega); have hlt2 : w.heap.size < Y.heap.size + 1 + 1 := (by omega); have hne0 : w.heap.size ≠ Y.heap.size := (by omega); have hne1 : w.heap.size ≠ Y.heap.size + 1 := (by omega); have hne2 : w.heap.size ≠ Y.heap.size + 1 + 1 := (by omega); have z6 := (HX5.out.below (three Y (.cells #[.slice (some ⟨w3.heap.size, 0, none⟩) s1.size cp] 34) (.cells #[.int .i64 o.err, .int .i64 o.val] 3) (.cells #[.int .i64 o.func, .int .i64 (al1 : Int)] 3)).1).c11.2.2.2.2.2.2.1; clear hbY hsY hokY))
    | (at_builtin; go_must (obtain ⟨t1, t2, t3⟩ := three Y (.cells #[.slice (some ⟨w3.heap.size, 0, none⟩) s1.size cp] 34) (.cells #[.int .i64 o.err, .int .i64 o.val] 3) (.cells #[.int .i64 o.func, .int .i64 (al1 : Int)] 3); have hown := owng_new ((Y.alloc (.cells #[.slice (some ⟨w3.heap.size, 0, none⟩) s1.size cp] 34)).alloc (.cells #[.int .i64 o.err, .int .i64 o.val] 3)) [o.func, (al1 : Int)] 2 rfl (by omega); rw [show ((Y.alloc (.cells #[.slice (some ⟨w3.heap.size, 0, none⟩) s1.size cp] 34)).alloc (.cells #[.int .i64 o.err, .int .i64 o.val] 3)).heap.size = Y.heap.size + 1 + 1 by simp] at hown; refine append_i rfl (.tmp 36) (.tmp 38) rfl (Y.heap.size + 1 + 1) (.slice (some ⟨Y.heap.size + 1 + 1, 0, none⟩) 2 2) 2 [o.func, (al1 : Int)] rfl hown aa1 al1 ac1 o.args rfl HNA.out HAL.out ((HRA.out.below hb3).below (HBY.out.trans (t1.mono HBY.out.size))) (by have q1 := HAL.out; have q2 := H20.out; omega) (by simp) ?_; intro v8 w8 ho8 hg8; have HT := hide (And.intro t1 (And.intro t2 t3)); have HOW := hide hown; have HG8 := hide hg8; have HO8 := hide ho8; clear t1 t2 t3 hown hg8 ho8)))
  obtain ⟨g1, g2, g3⟩ := aft _ _ _ _ _ HG8.out
  have HX8 := hide (HX5.out.below g1)
  have HR8 := hide ((hr3.out.below HBY.out).below g1)
  have HT8 := hide (HOK.out.below g1)
  have HRT8 := hide (show Reads w8 (some ⟨Y.heap.size, 0, none⟩) (sV [⟨some ⟨w3.heap.size, 0, none⟩, s1.size, cp, o.id⟩]) from (reads_new Y (sV [⟨some ⟨w3.heap.size, 0, none⟩, s1.size, cp, o.id⟩]) 34).below g2)
  have er := (reads_new (Y.alloc (.cells #[.slice (some ⟨w3.heap.size, 0, none⟩) s1.size cp] 34)) (iV [o.err, o.val]) 3).below g3
  rw [show (Y.alloc (.cells #[.slice (some ⟨w3.heap.size, 0, none⟩) s1.size cp] 34)).heap.size = Y.heap.size + 1 by simp] at er
  have HER := hide er
  obtain ⟨a8, m8, c8, rfl, hm8, hc8, hn8, hr8, -⟩ := owng_row HO8.out
  have HB8 := hide (HB5.out.trans (g1.mono HB5.out.size))
  have HM8 := hm8
  have HN8 := hide hn8
  have HA8 := hide hr8
  have HAM := hide (show ([o.func, (al1 : Int)] ++ o.args).length = m8 from by have q1 := HM8.out; have q2 := HAL.out; simp only [List.length_append, List.length_cons, List.length_nil]; omega)
  have HIE := hide (show In64 [o.err, o.val] from in64_2 HI.out.2.2.1.1 HI.out.2.2.1.2)
  have HIA := hide (show In64 ([o.func, (al1 : Int)] ++ o.args) from in64_a HI.out.2.1.1 (by have q2 := HAL.out; have q3 := H20.out; unfold In1; omega) HI.out.2.1.2)
  have hlk := hm3.out
  have hl10 : (encI o.kind).length ≤ 10 := enc_len _
  have hidl : o.id.length = s1.size := HOK.out.1
  clear hm8 hn8 hr8 hc8 er g1 g2 g3 HG8 HO8 HT HOW z6 hlt1 hlt2 hne0 hne1 hne2 hltY HX HX1 HX2 HX3 HX4 HX5 HB HB1 HB2 HB3 HB4 HB5
  clear a0 a1 a2 a3 a4 a5 a6 a7 a9 a10 e0 e1 e2 e3 e4 e5 e6 e7 e8 e9 e10 u0 u1 u2 u3 u4 u5 u6 u7 u8 u9 u10 b0 b1 b2 b3 b4 b5 b6 b7 b8 b9 b10 d0 d1 d2 d3 d4 d5 d6 d7 d8 d9 d10
  obtain ⟨k0, k1, k2, k3, k4, k5, k6, k7, k8, k9, k10⟩ := HX8.out.c11
  rw [HK.out] at k0
  have C1 := hide (fun g hg => ri3 (encI o.kind) o.epoch o.life o.node HI.out.1.2.2.2 HI.out.1.2.2.1 HI.out.1.2.1 q3 m3 c3 w8 hm3.out (by omega) hn3.out HR8.out g hg)
  have hq9 : (encs [o.epoch, o.life, o.node]).length ≤ 30 := by have := encs_len10 [o.epoch, o.life, o.node]; simpa using this
  have hqt : (encT o.id).length ≤ 10 + o.id.length := by have := enc_len (foldN (o.id.length : Int)); simp only [encT, List.length_append]; omega
  go_wp2_with (first | (go_at_call 25; go_must (first | ((with_reducible refine (C1.out _ rfl).mono ?_); rintro e w9 ⟨q9, m9, c9, rfl, hm9, hc9, hn9, hr9, hb9⟩; have hlk9 := hm9.out; simp only [List.length_append] at hlk9; have HB9 := hide ((HB8.out).trans (hb9.mono (HB8.out).size))))) | (go_at_call 26; go_must ((with_reducible refine (rb ((encI o.kind) ++ encs [o.epoch, o.life, o.node]) o.id q9 m9 c9 Y.heap.size (some ⟨w3.heap.size, 0, none⟩) s1.size cp w9 hm9.out (by omega) hn9.out hr9.out ((HT8.out).below hb9) (by omega) ((HRT8.out).below hb9)).mono ?_); rintro e w10 ⟨q10, m10, c10, rfl, hm10, hc10, hn10, hr10, hb10⟩; have hlk10 := hm10.out; simp only [List.length_append] at hlk10; have HB10 := hide ((HB9.out).trans (hb10.mono (HB9.out).size)))))
  go_ret2
  have ez : encN o = (((encI o.kind) ++ encs [o.epoch, o.life, o.node]) ++ encT o.id) := by
    simp [encN, HK.out, hasView, hasEpoch, hasLife, hasNode, hasId, hasRes, hasFunc, encs, encI]
  rw [ez]
  exact ⟨_, _, _, rfl, hm10, hc10, hn10, hr10, HB10.out⟩

set_option maxRecDepth 100000 in
set_option maxHeartbeats 16000000 in
theorem rpack_7 (n o : No) (s : ByteArray) (aa ma : Option Addr) (al ac ml mc : Nat) (B : Nat) (w : World) (HM : Hid (NM B w n s (.slice aa al ac) (.slice ma ml mc)))
    (CC : Hid (∀ W, Calls Try.prog 16 #[.agg #[.int .i64 n.kind, .int .i64 n.node, .int .i64 n.life, .int .i64 n.epoch, .string s, .int .i64 n.func, (.slice aa al ac), .int .i64 n.err, .int .i64 n.val, .int .i64 n.vep, (.slice ma ml mc)]] W fun e w' => ∃ s1 aa1 al1 ac1 ma1 ml1 mc1, e = .returned (Nv o s1 (.slice aa1 al1 ac1) (.slice ma1 ml1 mc1)) ∧ Hid (∀ B W, NM B W n s (.slice aa al ac) (.slice ma ml mc) → NM B W o s1 (.slice aa1 al1 ac1) (.slice ma1 ml1 mc1)) ∧ Below W.heap.size W w'))
    (CM : Hid (∀ W, Below w.heap.size w W → Calls Try.prog 24 #[.agg #[.int .i64 n.kind, .int .i64 n.node, .int .i64 n.life, .int .i64 n.epoch, .string s, .int .i64 n.func, (.slice aa al ac), .int .i64 n.err, .int .i64 n.val, .int .i64 n.vep, (.slice ma ml mc)]] W fun e w' => e = .returned (.bool true) ∧ Below W.heap.size W w'))
    (hI : NIn o) (h20 : o.args.length ≤ 20000) (HK : Hid (o.kind = 7)) :
    Calls Try.prog 12 #[.agg #[.int .i64 n.kind, .int .i64 n.node, .int .i64 n.life, .int .i64 n.epoch, .string s, .int .i64 n.func, (.slice aa al ac), .int .i64 n.err, .int .i64 n.val, .int .i64 n.vep, (.slice ma ml mc)]] w (RP (encN o) w) := by
  have CK := hide (fun W g (hg : g = W.heap.size) => (show Calls Try.prog 25 #[.slice none 0 0, .slice (some ⟨g, 0, none⟩) 1 1] (W.alloc (.cells #[.int .i64 o.kind] 3)) (RQ (encI o.kind) W) from by
    have h := ri1 [] o.kind hI.1.1 none 0 0 W rfl (by omega) (fun _ => ⟨rfl, rfl⟩) (.inl rfl) g hg
    rw [show [] ++ encs [o.kind] = encI o.kind by simp [encs, encI]] at h
    exact h))
  have H20 := hide h20
  have HI := hide hI
  clear h20 hI
  have HX0 := hide (BoxL.new w [.int .i64 n.kind, .int .i64 n.node, .int .i64 n.life, .int .i64 n.epoch, .string s, .int .i64 n.func, (.slice aa al ac), .int .i64 n.err, .int .i64 n.val, .int .i64 n.vep, (.slice ma ml mc)] 31)
  have HB0 := hide (below_new w (.cells #[.int .i64 n.kind, .int .i64 n.node, .int .i64 n.life, .int .i64 n.epoch, .string s, .int .i64 n.func, (.slice aa al ac), .int .i64 n.err, .int .i64 n.val, .int .i64 n.vep, (.slice ma ml mc)] 31))
  obtain ⟨V, hV⟩ : ∃ V, V = w.alloc (.cells #[.int .i64 n.kind, .int .i64 n.node, .int .i64 n.life, .int .i64 n.epoch, .string s, .int .i64 n.func, (.slice aa al ac), .int .i64 n.err, .int .i64 n.val, .int .i64 n.vep, (.slice ma ml mc)] 31) := ⟨_, rfl⟩
  have HX := hide (show BoxL V w.heap.size [.int .i64 n.kind, .int .i64 n.node, .int .i64 n.life, .int .i64 n.epoch, .string s, .int .i64 n.func, (.slice aa al ac), .int .i64 n.err, .int .i64 n.val, .int .i64 n.vep, (.slice ma ml mc)] by rw [hV]; exact HX0.out)
  have HB := hide (show Below w.heap.size w V by rw [hV]; exact HB0.out)
  have HV := hide hV
  clear hV HX0 HB0
  go_enter Try.func12, Try.ntmps12
  go_upto_region 9 with (first
    | (go_at_call 24; go_must (rw [← HV.out]; (with_reducible refine (CM.out V HB.out).mono ?_); rintro e w1 ⟨rfl, hb1⟩; have HX1 := hide (HX.out.below hb1); have HB1 := hide (HB.out.trans (hb1.mono HB.out.size)); obtain ⟨a0, a1, a2, a3, a4, a5, a6, a7, a8, a9, a10⟩ := HX1.out.c11))
    | (go_at_call 16; go_must ((with_reducible refine (CC.out w1).mono ?_); rintro e w2 ⟨s1, aa1, al1, ac1, ma1, ml1, mc1, rfl, hM1, hb2⟩; simp only [Nv]; have HX2 := hide (HX1.out.below hb2); have HB2 := hide (HB1.out.trans (hb2.mono HB1.out.size)); obtain ⟨e0, e1, e2, e3, e4, e5, e6, e7, e8, e9, e10⟩ := HX2.out.c11; obtain ⟨u0, u1, u2, u3, u4, u5, u6, u7, u8, u9, u10⟩ := HX2.out.f11; have HX3 := hide (put11_box HX2.out (.int .i64 o.kind) (.int .i64 o.node) (.int .i64 o.life) (.int .i64 o.epoch) (.string s1) (.int .i64 o.func) (.slice aa1 al1 ac1) (.int .i64 o.err) (.int .i64 o.val) (.int .i64 o.vep) (.slice ma1 ml1 mc1)); have HB3 := hide (put11_below (g := w.heap.size) HB2.out (Nat.le_refl _) (.int .i64 o.kind) (.int .i64 o.node) (.int .i64 o.life) (.int .i64 o.epoch) (.string s1) (.int .i64 o.func) (.slice aa1 al1 ac1) (.int .i64 o.err) (.int .i64 o.val) (.int .i64 o.vep) (.slice ma1 ml1 mc1)); obtain ⟨X, hX⟩ : ∃ X, X = put11 w2 w.heap.size (.int .i64 o.kind) (.int .i64 o.node) (.int .i64 o.life) (.int .i64 o.epoch) (.string s1) (.int .i64 o.func) (.slice aa1 al1 ac1) (.int .i64 o.err) (.int .i64 o.val) (.int .i64 o.vep) (.slice ma1 ml1 mc1) := ⟨_, rfl⟩; rw [← hX] at HX3 HB3; unfold put11 at hX; have HE := hide hX; clear hX; have hMX := hM1.out B X (HM.out.below HB3.out); have HMX := hide hMX; obtain ⟨hid1, hsz1, -, -, ⟨aa1', al1', ac1', eqa, hal1, -, hna1, hra1, -⟩, -⟩ := hMX; simp only [Value.slice.injEq] at eqa; obtain ⟨rfl, rfl, rfl⟩ := eqa; have HID := hide hid1; have HAL := hide hal1.out; have HNA := hide hna1; have HRA := hide hra1; clear hid1 hal1 hna1 hra1 hM1))
    | (go_at_call 25; go_must (rw [← HE.out]; (with_reducible refine (CK.out X _ (by first | rfl | (rw [HE.out]; simp [World.setCell]))).mono ?_); rintro e w3 ⟨q3, m3, c3, rfl, hm3, hc3, hn3, hr3, hb3⟩; have HX4 := hide (HX3.out.below hb3); have HB4 := hide (HB3.out.trans (hb3.mono HB3.out.size)); obtain ⟨Y, cp, kc, hbY, hsY, hokY⟩ := str_row w3 s1 hsz1; rw [HID.out] at hokY; have HOK := hide hokY; have HSY := hide hsY; have HBY := hide hbY; have HX5 := hide (HX4.out.below hbY); have HB5 := hide (HB4.out.trans (hbY.mono HB4.out.size)); have hltY : w.heap.size < Y.heap.size := HX5.out.1; obtain ⟨b0, b1, b2, b3, b4, b5, b6, b7, b8, b9, b10⟩ := HX4.out.c11; obtain ⟨d0, d1, d2, d3, d4, d5, d6, d7, d8, d9, d10⟩ := HX5.out.c11; have hlt1 : w.heap.size < Y.heap.size + 1 := (by omega); have hlt2 : w.heap.size < Y.heap.size + 1 + 1 := (by omega); have hne0 : w.heap.size ≠ Y.heap.size := (by omega); have hne1 : w.heap.size ≠ Y.heap.size + 1 := (by omega); have hne2 : w.heap.size ≠ Y.heap.size + 1 + 1 := (by omega); have z6 := (HX5.out.below (three Y (.cells #[.slice (some ⟨w3.heap.size, 0, none⟩) s1.size cp] 34) (.cells #[.int .i64 o.err, .int .i64 o.val] 3) (.cells #[.int .i64 o.func, .int .i64 (al1 : Int)] 3)).1).c11.2.2.2.2.2.2.1; clear hbY hsY hokY))
    | (at_builtin; go_must (obtain ⟨t1, t2, t3⟩ := three Y (.cells #[.slice (some ⟨w3.heap.size, 0, none⟩) s1.size cp] 34) (.cells #[.int .i64 o.err, .int .i64 o.val] 3) (.cells #[.int .i64 o.func, .int .i64 (al1 : Int)] 3); have hown := owng_new ((Y.alloc (.cells #[.slice (some ⟨w3.heap.size, 0, none⟩) s1.size cp] 34)).alloc (.cells #[.int .i64 o.err, .int .i64 o.val] 3)) [o.func, (al1 : Int)] 2 rfl (by omega); rw [show ((Y.alloc (.cells #[.slice (some ⟨w3.heap.size, 0, none⟩) s1.size cp] 34)).alloc (.cells #[.int .i64 o.err, .int .i64 o.val] 3)).heap.size = Y.heap.size + 1 + 1 by simp] at hown; refine append_i rfl (.tmp 36) (.tmp 38) rfl (Y.heap.size + 1 + 1) (.slice (some ⟨Y.heap.size + 1 + 1, 0, none⟩) 2 2) 2 [o.func, (al1 : Int)] rfl hown aa1 al1 ac1 o.args rfl HNA.out HAL.out ((HRA.out.below hb3).below (HBY.out.trans (t1.mono HBY.out.size))) (by have q1 := HAL.out; have q2 := H20.out; omega) (by simp) ?_; intro v8 w8 ho8 hg8; have HT := hide (And.intro t1 (And.intro t2 t3)); have HOW := hide hown; have HG8 := hide hg8; have HO8 := hide ho8; clear t1 t2 t3 hown hg8 ho8)))
  obtain ⟨g1, g2, g3⟩ := aft _ _ _ _ _ HG8.out
  have HX8 := hide (HX5.out.below g1)
  have HR8 := hide ((hr3.out.below HBY.out).below g1)
  have HT8 := hide (HOK.out.below g1)
  have HRT8 := hide (show Reads w8 (some ⟨Y.heap.size, 0, none⟩) (sV [⟨some ⟨w3.heap.size, 0, none⟩, s1.size, cp, o.id⟩]) from (reads_new Y (sV [⟨some ⟨w3.heap.size, 0, none⟩, s1.size, cp, o.id⟩]) 34).below g2)
  have er := (reads_new (Y.alloc (.cells #[.slice (some ⟨w3.heap.size, 0, none⟩) s1.size cp] 34)) (iV [o.err, o.val]) 3).below g3
  rw [show (Y.alloc (.cells #[.slice (some ⟨w3.heap.size, 0, none⟩) s1.size cp] 34)).heap.size = Y.heap.size + 1 by simp] at er
  have HER := hide er
  obtain ⟨a8, m8, c8, rfl, hm8, hc8, hn8, hr8, -⟩ := owng_row HO8.out
  have HB8 := hide (HB5.out.trans (g1.mono HB5.out.size))
  have HM8 := hm8
  have HN8 := hide hn8
  have HA8 := hide hr8
  have HAM := hide (show ([o.func, (al1 : Int)] ++ o.args).length = m8 from by have q1 := HM8.out; have q2 := HAL.out; simp only [List.length_append, List.length_cons, List.length_nil]; omega)
  have HIE := hide (show In64 [o.err, o.val] from in64_2 HI.out.2.2.1.1 HI.out.2.2.1.2)
  have HIA := hide (show In64 ([o.func, (al1 : Int)] ++ o.args) from in64_a HI.out.2.1.1 (by have q2 := HAL.out; have q3 := H20.out; unfold In1; omega) HI.out.2.1.2)
  have hlk := hm3.out
  have hl10 : (encI o.kind).length ≤ 10 := enc_len _
  have hidl : o.id.length = s1.size := HOK.out.1
  clear hm8 hn8 hr8 hc8 er g1 g2 g3 HG8 HO8 HT HOW z6 hlt1 hlt2 hne0 hne1 hne2 hltY HX HX1 HX2 HX3 HX4 HX5 HB HB1 HB2 HB3 HB4 HB5
  clear a0 a1 a2 a3 a4 a5 a6 a7 a9 a10 e0 e1 e2 e3 e4 e5 e6 e7 e8 e9 e10 u0 u1 u2 u3 u4 u5 u6 u7 u8 u9 u10 b0 b1 b2 b3 b4 b5 b6 b7 b8 b9 b10 d0 d1 d2 d3 d4 d5 d6 d7 d8 d9 d10
  obtain ⟨k0, k1, k2, k3, k4, k5, k6, k7, k8, k9, k10⟩ := HX8.out.c11
  rw [HK.out] at k0
  have C1 := hide (fun g hg => ri2 (encI o.kind) o.epoch o.node HI.out.1.2.2.2 HI.out.1.2.1 q3 m3 c3 w8 hm3.out (by omega) hn3.out HR8.out g hg)
  have hq9 : (encs [o.epoch, o.node]).length ≤ 20 := by have := encs_len10 [o.epoch, o.node]; simpa using this
  have hqt : (encT o.id).length ≤ 10 + o.id.length := by have := enc_len (foldN (o.id.length : Int)); simp only [encT, List.length_append]; omega
  go_wp2_with (first | (go_at_call 25; go_must (first | ((with_reducible refine (C1.out _ rfl).mono ?_); rintro e w9 ⟨q9, m9, c9, rfl, hm9, hc9, hn9, hr9, hb9⟩; have hlk9 := hm9.out; simp only [List.length_append] at hlk9; have HB9 := hide ((HB8.out).trans (hb9.mono (HB8.out).size))) | ((with_reducible refine (ri (((encI o.kind) ++ encs [o.epoch, o.node]) ++ encT o.id) [o.err, o.val] q10 m10 c10 (some ⟨Y.heap.size + 1, 0, none⟩) 2 2 w10 hm10.out (by omega) hn10.out hr10.out rfl (by omega) (HIE.out) (((HER.out).below hb9).below hb10)).mono ?_); rintro e w11 ⟨q11, m11, c11, rfl, hm11, hc11, hn11, hr11, hb11⟩; have hlk11 := hm11.out; simp only [List.length_append] at hlk11; have HB11 := hide ((HB10.out).trans (hb11.mono (HB10.out).size))))) | (go_at_call 26; go_must ((with_reducible refine (rb ((encI o.kind) ++ encs [o.epoch, o.node]) o.id q9 m9 c9 Y.heap.size (some ⟨w3.heap.size, 0, none⟩) s1.size cp w9 hm9.out (by omega) hn9.out hr9.out ((HT8.out).below hb9) (by omega) ((HRT8.out).below hb9)).mono ?_); rintro e w10 ⟨q10, m10, c10, rfl, hm10, hc10, hn10, hr10, hb10⟩; have hlk10 := hm10.out; simp only [List.length_append] at hlk10; have HB10 := hide ((HB9.out).trans (hb10.mono (HB9.out).size)))))
  go_ret2
  have ez : encN o = ((((encI o.kind) ++ encs [o.epoch, o.node]) ++ encT o.id) ++ encs [o.err, o.val]) := by
    simp [encN, HK.out, hasView, hasEpoch, hasLife, hasNode, hasId, hasRes, hasFunc, encs, encI]
  rw [ez]
  exact ⟨_, _, _, rfl, hm11, hc11, hn11, hr11, HB11.out⟩

set_option maxRecDepth 100000 in
set_option maxHeartbeats 16000000 in
theorem rpack_8 (n o : No) (s : ByteArray) (aa ma : Option Addr) (al ac ml mc : Nat) (B : Nat) (w : World) (HM : Hid (NM B w n s (.slice aa al ac) (.slice ma ml mc)))
    (CC : Hid (∀ W, Calls Try.prog 16 #[.agg #[.int .i64 n.kind, .int .i64 n.node, .int .i64 n.life, .int .i64 n.epoch, .string s, .int .i64 n.func, (.slice aa al ac), .int .i64 n.err, .int .i64 n.val, .int .i64 n.vep, (.slice ma ml mc)]] W fun e w' => ∃ s1 aa1 al1 ac1 ma1 ml1 mc1, e = .returned (Nv o s1 (.slice aa1 al1 ac1) (.slice ma1 ml1 mc1)) ∧ Hid (∀ B W, NM B W n s (.slice aa al ac) (.slice ma ml mc) → NM B W o s1 (.slice aa1 al1 ac1) (.slice ma1 ml1 mc1)) ∧ Below W.heap.size W w'))
    (CM : Hid (∀ W, Below w.heap.size w W → Calls Try.prog 24 #[.agg #[.int .i64 n.kind, .int .i64 n.node, .int .i64 n.life, .int .i64 n.epoch, .string s, .int .i64 n.func, (.slice aa al ac), .int .i64 n.err, .int .i64 n.val, .int .i64 n.vep, (.slice ma ml mc)]] W fun e w' => e = .returned (.bool true) ∧ Below W.heap.size W w'))
    (hI : NIn o) (h20 : o.args.length ≤ 20000) (HK : Hid (o.kind = 8)) :
    Calls Try.prog 12 #[.agg #[.int .i64 n.kind, .int .i64 n.node, .int .i64 n.life, .int .i64 n.epoch, .string s, .int .i64 n.func, (.slice aa al ac), .int .i64 n.err, .int .i64 n.val, .int .i64 n.vep, (.slice ma ml mc)]] w (RP (encN o) w) := by
  have CK := hide (fun W g (hg : g = W.heap.size) => (show Calls Try.prog 25 #[.slice none 0 0, .slice (some ⟨g, 0, none⟩) 1 1] (W.alloc (.cells #[.int .i64 o.kind] 3)) (RQ (encI o.kind) W) from by
    have h := ri1 [] o.kind hI.1.1 none 0 0 W rfl (by omega) (fun _ => ⟨rfl, rfl⟩) (.inl rfl) g hg
    rw [show [] ++ encs [o.kind] = encI o.kind by simp [encs, encI]] at h
    exact h))
  have H20 := hide h20
  have HI := hide hI
  clear h20 hI
  have HX0 := hide (BoxL.new w [.int .i64 n.kind, .int .i64 n.node, .int .i64 n.life, .int .i64 n.epoch, .string s, .int .i64 n.func, (.slice aa al ac), .int .i64 n.err, .int .i64 n.val, .int .i64 n.vep, (.slice ma ml mc)] 31)
  have HB0 := hide (below_new w (.cells #[.int .i64 n.kind, .int .i64 n.node, .int .i64 n.life, .int .i64 n.epoch, .string s, .int .i64 n.func, (.slice aa al ac), .int .i64 n.err, .int .i64 n.val, .int .i64 n.vep, (.slice ma ml mc)] 31))
  obtain ⟨V, hV⟩ : ∃ V, V = w.alloc (.cells #[.int .i64 n.kind, .int .i64 n.node, .int .i64 n.life, .int .i64 n.epoch, .string s, .int .i64 n.func, (.slice aa al ac), .int .i64 n.err, .int .i64 n.val, .int .i64 n.vep, (.slice ma ml mc)] 31) := ⟨_, rfl⟩
  have HX := hide (show BoxL V w.heap.size [.int .i64 n.kind, .int .i64 n.node, .int .i64 n.life, .int .i64 n.epoch, .string s, .int .i64 n.func, (.slice aa al ac), .int .i64 n.err, .int .i64 n.val, .int .i64 n.vep, (.slice ma ml mc)] by rw [hV]; exact HX0.out)
  have HB := hide (show Below w.heap.size w V by rw [hV]; exact HB0.out)
  have HV := hide hV
  clear hV HX0 HB0
  go_enter Try.func12, Try.ntmps12
  go_upto_region 9 with (first
    | (go_at_call 24; go_must (rw [← HV.out]; (with_reducible refine (CM.out V HB.out).mono ?_); rintro e w1 ⟨rfl, hb1⟩; have HX1 := hide (HX.out.below hb1); have HB1 := hide (HB.out.trans (hb1.mono HB.out.size)); obtain ⟨a0, a1, a2, a3, a4, a5, a6, a7, a8, a9, a10⟩ := HX1.out.c11))
    | (go_at_call 16; go_must ((with_reducible refine (CC.out w1).mono ?_); rintro e w2 ⟨s1, aa1, al1, ac1, ma1, ml1, mc1, rfl, hM1, hb2⟩; simp only [Nv]; have HX2 := hide (HX1.out.below hb2); have HB2 := hide (HB1.out.trans (hb2.mono HB1.out.size)); obtain ⟨e0, e1, e2, e3, e4, e5, e6, e7, e8, e9, e10⟩ := HX2.out.c11; obtain ⟨u0, u1, u2, u3, u4, u5, u6, u7, u8, u9, u10⟩ := HX2.out.f11; have HX3 := hide (put11_box HX2.out (.int .i64 o.kind) (.int .i64 o.node) (.int .i64 o.life) (.int .i64 o.epoch) (.string s1) (.int .i64 o.func) (.slice aa1 al1 ac1) (.int .i64 o.err) (.int .i64 o.val) (.int .i64 o.vep) (.slice ma1 ml1 mc1)); have HB3 := hide (put11_below (g := w.heap.size) HB2.out (Nat.le_refl _) (.int .i64 o.kind) (.int .i64 o.node) (.int .i64 o.life) (.int .i64 o.epoch) (.string s1) (.int .i64 o.func) (.slice aa1 al1 ac1) (.int .i64 o.err) (.int .i64 o.val) (.int .i64 o.vep) (.slice ma1 ml1 mc1)); obtain ⟨X, hX⟩ : ∃ X, X = put11 w2 w.heap.size (.int .i64 o.kind) (.int .i64 o.node) (.int .i64 o.life) (.int .i64 o.epoch) (.string s1) (.int .i64 o.func) (.slice aa1 al1 ac1) (.int .i64 o.err) (.int .i64 o.val) (.int .i64 o.vep) (.slice ma1 ml1 mc1) := ⟨_, rfl⟩; rw [← hX] at HX3 HB3; unfold put11 at hX; have HE := hide hX; clear hX; have hMX := hM1.out B X (HM.out.below HB3.out); have HMX := hide hMX; obtain ⟨hid1, hsz1, -, -, ⟨aa1', al1', ac1', eqa, hal1, -, hna1, hra1, -⟩, -⟩ := hMX; simp only [Value.slice.injEq] at eqa; obtain ⟨rfl, rfl, rfl⟩ := eqa; have HID := hide hid1; have HAL := hide hal1.out; have HNA := hide hna1; have HRA := hide hra1; clear hid1 hal1 hna1 hra1 hM1))
    | (go_at_call 25; go_must (rw [← HE.out]; (with_reducible refine (CK.out X _ (by first | rfl | (rw [HE.out]; simp [World.setCell]))).mono ?_); rintro e w3 ⟨q3, m3, c3, rfl, hm3, hc3, hn3, hr3, hb3⟩; have HX4 := hide (HX3.out.below hb3); have HB4 := hide (HB3.out.trans (hb3.mono HB3.out.size)); obtain ⟨Y, cp, kc, hbY, hsY, hokY⟩ := str_row w3 s1 hsz1; rw [HID.out] at hokY; have HOK := hide hokY; have HSY := hide hsY; have HBY := hide hbY; have HX5 := hide (HX4.out.below hbY); have HB5 := hide (HB4.out.trans (hbY.mono HB4.out.size)); have hltY : w.heap.size < Y.heap.size := HX5.out.1; obtain ⟨b0, b1, b2, b3, b4, b5, b6, b7, b8, b9, b10⟩ := HX4.out.c11; obtain ⟨d0, d1, d2, d3, d4, d5, d6, d7, d8, d9, d10⟩ := HX5.out.c11; have hlt1 : w.heap.size < Y.heap.size + 1 := (by omega); have hlt2 : w.heap.size < Y.heap.size + 1 + 1 := (by omega); have hne0 : w.heap.size ≠ Y.heap.size := (by omega); have hne1 : w.heap.size ≠ Y.heap.size + 1 := (by omega); have hne2 : w.heap.size ≠ Y.heap.size + 1 + 1 := (by omega); have z6 := (HX5.out.below (three Y (.cells #[.slice (some ⟨w3.heap.size, 0, none⟩) s1.size cp] 34) (.cells #[.int .i64 o.err, .int .i64 o.val] 3) (.cells #[.int .i64 o.func, .int .i64 (al1 : Int)] 3)).1).c11.2.2.2.2.2.2.1; clear hbY hsY hokY))
    | (at_builtin; go_must (obtain ⟨t1, t2, t3⟩ := three Y (.cells #[.slice (some ⟨w3.heap.size, 0, none⟩) s1.size cp] 34) (.cells #[.int .i64 o.err, .int .i64 o.val] 3) (.cells #[.int .i64 o.func, .int .i64 (al1 : Int)] 3); have hown := owng_new ((Y.alloc (.cells #[.slice (some ⟨w3.heap.size, 0, none⟩) s1.size cp] 34)).alloc (.cells #[.int .i64 o.err, .int .i64 o.val] 3)) [o.func, (al1 : Int)] 2 rfl (by omega); rw [show ((Y.alloc (.cells #[.slice (some ⟨w3.heap.size, 0, none⟩) s1.size cp] 34)).alloc (.cells #[.int .i64 o.err, .int .i64 o.val] 3)).heap.size = Y.heap.size + 1 + 1 by simp] at hown; refine append_i rfl (.tmp 36) (.tmp 38) rfl (Y.heap.size + 1 + 1) (.slice (some ⟨Y.heap.size + 1 + 1, 0, none⟩) 2 2) 2 [o.func, (al1 : Int)] rfl hown aa1 al1 ac1 o.args rfl HNA.out HAL.out ((HRA.out.below hb3).below (HBY.out.trans (t1.mono HBY.out.size))) (by have q1 := HAL.out; have q2 := H20.out; omega) (by simp) ?_; intro v8 w8 ho8 hg8; have HT := hide (And.intro t1 (And.intro t2 t3)); have HOW := hide hown; have HG8 := hide hg8; have HO8 := hide ho8; clear t1 t2 t3 hown hg8 ho8)))
  obtain ⟨g1, g2, g3⟩ := aft _ _ _ _ _ HG8.out
  have HX8 := hide (HX5.out.below g1)
  have HR8 := hide ((hr3.out.below HBY.out).below g1)
  have HT8 := hide (HOK.out.below g1)
  have HRT8 := hide (show Reads w8 (some ⟨Y.heap.size, 0, none⟩) (sV [⟨some ⟨w3.heap.size, 0, none⟩, s1.size, cp, o.id⟩]) from (reads_new Y (sV [⟨some ⟨w3.heap.size, 0, none⟩, s1.size, cp, o.id⟩]) 34).below g2)
  have er := (reads_new (Y.alloc (.cells #[.slice (some ⟨w3.heap.size, 0, none⟩) s1.size cp] 34)) (iV [o.err, o.val]) 3).below g3
  rw [show (Y.alloc (.cells #[.slice (some ⟨w3.heap.size, 0, none⟩) s1.size cp] 34)).heap.size = Y.heap.size + 1 by simp] at er
  have HER := hide er
  obtain ⟨a8, m8, c8, rfl, hm8, hc8, hn8, hr8, -⟩ := owng_row HO8.out
  have HB8 := hide (HB5.out.trans (g1.mono HB5.out.size))
  have HM8 := hm8
  have HN8 := hide hn8
  have HA8 := hide hr8
  have HAM := hide (show ([o.func, (al1 : Int)] ++ o.args).length = m8 from by have q1 := HM8.out; have q2 := HAL.out; simp only [List.length_append, List.length_cons, List.length_nil]; omega)
  have HIE := hide (show In64 [o.err, o.val] from in64_2 HI.out.2.2.1.1 HI.out.2.2.1.2)
  have HIA := hide (show In64 ([o.func, (al1 : Int)] ++ o.args) from in64_a HI.out.2.1.1 (by have q2 := HAL.out; have q3 := H20.out; unfold In1; omega) HI.out.2.1.2)
  have hlk := hm3.out
  have hl10 : (encI o.kind).length ≤ 10 := enc_len _
  have hidl : o.id.length = s1.size := HOK.out.1
  clear hm8 hn8 hr8 hc8 er g1 g2 g3 HG8 HO8 HT HOW z6 hlt1 hlt2 hne0 hne1 hne2 hltY HX HX1 HX2 HX3 HX4 HX5 HB HB1 HB2 HB3 HB4 HB5
  clear a0 a1 a2 a3 a4 a5 a6 a7 a9 a10 e0 e1 e2 e3 e4 e5 e6 e7 e8 e9 e10 u0 u1 u2 u3 u4 u5 u6 u7 u8 u9 u10 b0 b1 b2 b3 b4 b5 b6 b7 b8 b9 b10 d0 d1 d2 d3 d4 d5 d6 d7 d8 d9 d10
  obtain ⟨k0, k1, k2, k3, k4, k5, k6, k7, k8, k9, k10⟩ := HX8.out.c11
  rw [HK.out] at k0
  have hqt : (encT o.id).length ≤ 10 + o.id.length := by have := enc_len (foldN (o.id.length : Int)); simp only [encT, List.length_append]; omega
  go_wp2_with (first | (go_at_call 25; go_must (first | ((with_reducible refine (ri ((encI o.kind) ++ encT o.id) [o.err, o.val] q9 m9 c9 (some ⟨Y.heap.size + 1, 0, none⟩) 2 2 w9 hm9.out (by omega) hn9.out hr9.out rfl (by omega) (HIE.out) ((HER.out).below hb9)).mono ?_); rintro e w10 ⟨q10, m10, c10, rfl, hm10, hc10, hn10, hr10, hb10⟩; have hlk10 := hm10.out; simp only [List.length_append] at hlk10; have HB10 := hide ((HB9.out).trans (hb10.mono (HB9.out).size))))) | (go_at_call 26; go_must ((with_reducible refine (rb (encI o.kind) o.id q3 m3 c3 Y.heap.size (some ⟨w3.heap.size, 0, none⟩) s1.size cp w8 hm3.out (by omega) hn3.out HR8.out (HT8.out) (by omega) (HRT8.out)).mono ?_); rintro e w9 ⟨q9, m9, c9, rfl, hm9, hc9, hn9, hr9, hb9⟩; have hlk9 := hm9.out; simp only [List.length_append] at hlk9; have HB9 := hide ((HB8.out).trans (hb9.mono (HB8.out).size)))))
  go_ret2
  have ez : encN o = (((encI o.kind) ++ encT o.id) ++ encs [o.err, o.val]) := by
    simp [encN, HK.out, hasView, hasEpoch, hasLife, hasNode, hasId, hasRes, hasFunc, encs, encI]
  rw [ez]
  exact ⟨_, _, _, rfl, hm10, hc10, hn10, hr10, HB10.out⟩

set_option maxRecDepth 100000 in
set_option maxHeartbeats 16000000 in
theorem rpack_9 (n o : No) (s : ByteArray) (aa ma : Option Addr) (al ac ml mc : Nat) (B : Nat) (w : World) (HM : Hid (NM B w n s (.slice aa al ac) (.slice ma ml mc)))
    (CC : Hid (∀ W, Calls Try.prog 16 #[.agg #[.int .i64 n.kind, .int .i64 n.node, .int .i64 n.life, .int .i64 n.epoch, .string s, .int .i64 n.func, (.slice aa al ac), .int .i64 n.err, .int .i64 n.val, .int .i64 n.vep, (.slice ma ml mc)]] W fun e w' => ∃ s1 aa1 al1 ac1 ma1 ml1 mc1, e = .returned (Nv o s1 (.slice aa1 al1 ac1) (.slice ma1 ml1 mc1)) ∧ Hid (∀ B W, NM B W n s (.slice aa al ac) (.slice ma ml mc) → NM B W o s1 (.slice aa1 al1 ac1) (.slice ma1 ml1 mc1)) ∧ Below W.heap.size W w'))
    (CM : Hid (∀ W, Below w.heap.size w W → Calls Try.prog 24 #[.agg #[.int .i64 n.kind, .int .i64 n.node, .int .i64 n.life, .int .i64 n.epoch, .string s, .int .i64 n.func, (.slice aa al ac), .int .i64 n.err, .int .i64 n.val, .int .i64 n.vep, (.slice ma ml mc)]] W fun e w' => e = .returned (.bool true) ∧ Below W.heap.size W w'))
    (hI : NIn o) (h20 : o.args.length ≤ 20000) (HK : Hid (o.kind = 9)) :
    Calls Try.prog 12 #[.agg #[.int .i64 n.kind, .int .i64 n.node, .int .i64 n.life, .int .i64 n.epoch, .string s, .int .i64 n.func, (.slice aa al ac), .int .i64 n.err, .int .i64 n.val, .int .i64 n.vep, (.slice ma ml mc)]] w (RP (encN o) w) := by
  have CK := hide (fun W g (hg : g = W.heap.size) => (show Calls Try.prog 25 #[.slice none 0 0, .slice (some ⟨g, 0, none⟩) 1 1] (W.alloc (.cells #[.int .i64 o.kind] 3)) (RQ (encI o.kind) W) from by
    have h := ri1 [] o.kind hI.1.1 none 0 0 W rfl (by omega) (fun _ => ⟨rfl, rfl⟩) (.inl rfl) g hg
    rw [show [] ++ encs [o.kind] = encI o.kind by simp [encs, encI]] at h
    exact h))
  have H20 := hide h20
  have HI := hide hI
  clear h20 hI
  have HX0 := hide (BoxL.new w [.int .i64 n.kind, .int .i64 n.node, .int .i64 n.life, .int .i64 n.epoch, .string s, .int .i64 n.func, (.slice aa al ac), .int .i64 n.err, .int .i64 n.val, .int .i64 n.vep, (.slice ma ml mc)] 31)
  have HB0 := hide (below_new w (.cells #[.int .i64 n.kind, .int .i64 n.node, .int .i64 n.life, .int .i64 n.epoch, .string s, .int .i64 n.func, (.slice aa al ac), .int .i64 n.err, .int .i64 n.val, .int .i64 n.vep, (.slice ma ml mc)] 31))
  obtain ⟨V, hV⟩ : ∃ V, V = w.alloc (.cells #[.int .i64 n.kind, .int .i64 n.node, .int .i64 n.life, .int .i64 n.epoch, .string s, .int .i64 n.func, (.slice aa al ac), .int .i64 n.err, .int .i64 n.val, .int .i64 n.vep, (.slice ma ml mc)] 31) := ⟨_, rfl⟩
  have HX := hide (show BoxL V w.heap.size [.int .i64 n.kind, .int .i64 n.node, .int .i64 n.life, .int .i64 n.epoch, .string s, .int .i64 n.func, (.slice aa al ac), .int .i64 n.err, .int .i64 n.val, .int .i64 n.vep, (.slice ma ml mc)] by rw [hV]; exact HX0.out)
  have HB := hide (show Below w.heap.size w V by rw [hV]; exact HB0.out)
  have HV := hide hV
  clear hV HX0 HB0
  go_enter Try.func12, Try.ntmps12
  go_upto_region 9 with (first
    | (go_at_call 24; go_must (rw [← HV.out]; (with_reducible refine (CM.out V HB.out).mono ?_); rintro e w1 ⟨rfl, hb1⟩; have HX1 := hide (HX.out.below hb1); have HB1 := hide (HB.out.trans (hb1.mono HB.out.size)); obtain ⟨a0, a1, a2, a3, a4, a5, a6, a7, a8, a9, a10⟩ := HX1.out.c11))
    | (go_at_call 16; go_must ((with_reducible refine (CC.out w1).mono ?_); rintro e w2 ⟨s1, aa1, al1, ac1, ma1, ml1, mc1, rfl, hM1, hb2⟩; simp only [Nv]; have HX2 := hide (HX1.out.below hb2); have HB2 := hide (HB1.out.trans (hb2.mono HB1.out.size)); obtain ⟨e0, e1, e2, e3, e4, e5, e6, e7, e8, e9, e10⟩ := HX2.out.c11; obtain ⟨u0, u1, u2, u3, u4, u5, u6, u7, u8, u9, u10⟩ := HX2.out.f11; have HX3 := hide (put11_box HX2.out (.int .i64 o.kind) (.int .i64 o.node) (.int .i64 o.life) (.int .i64 o.epoch) (.string s1) (.int .i64 o.func) (.slice aa1 al1 ac1) (.int .i64 o.err) (.int .i64 o.val) (.int .i64 o.vep) (.slice ma1 ml1 mc1)); have HB3 := hide (put11_below (g := w.heap.size) HB2.out (Nat.le_refl _) (.int .i64 o.kind) (.int .i64 o.node) (.int .i64 o.life) (.int .i64 o.epoch) (.string s1) (.int .i64 o.func) (.slice aa1 al1 ac1) (.int .i64 o.err) (.int .i64 o.val) (.int .i64 o.vep) (.slice ma1 ml1 mc1)); obtain ⟨X, hX⟩ : ∃ X, X = put11 w2 w.heap.size (.int .i64 o.kind) (.int .i64 o.node) (.int .i64 o.life) (.int .i64 o.epoch) (.string s1) (.int .i64 o.func) (.slice aa1 al1 ac1) (.int .i64 o.err) (.int .i64 o.val) (.int .i64 o.vep) (.slice ma1 ml1 mc1) := ⟨_, rfl⟩; rw [← hX] at HX3 HB3; unfold put11 at hX; have HE := hide hX; clear hX; have hMX := hM1.out B X (HM.out.below HB3.out); have HMX := hide hMX; obtain ⟨hid1, hsz1, -, -, ⟨aa1', al1', ac1', eqa, hal1, -, hna1, hra1, -⟩, -⟩ := hMX; simp only [Value.slice.injEq] at eqa; obtain ⟨rfl, rfl, rfl⟩ := eqa; have HID := hide hid1; have HAL := hide hal1.out; have HNA := hide hna1; have HRA := hide hra1; clear hid1 hal1 hna1 hra1 hM1))
    | (go_at_call 25; go_must (rw [← HE.out]; (with_reducible refine (CK.out X _ (by first | rfl | (rw [HE.out]; simp [World.setCell]))).mono ?_); rintro e w3 ⟨q3, m3, c3, rfl, hm3, hc3, hn3, hr3, hb3⟩; have HX4 := hide (HX3.out.below hb3); have HB4 := hide (HB3.out.trans (hb3.mono HB3.out.size)); obtain ⟨Y, cp, kc, hbY, hsY, hokY⟩ := str_row w3 s1 hsz1; rw [HID.out] at hokY; have HOK := hide hokY; have HSY := hide hsY; have HBY := hide hbY; have HX5 := hide (HX4.out.below hbY); have HB5 := hide (HB4.out.trans (hbY.mono HB4.out.size)); have hltY : w.heap.size < Y.heap.size := HX5.out.1; obtain ⟨b0, b1, b2, b3, b4, b5, b6, b7, b8, b9, b10⟩ := HX4.out.c11; obtain ⟨d0, d1, d2, d3, d4, d5, d6, d7, d8, d9, d10⟩ := HX5.out.c11; have hlt1 : w.heap.size < Y.heap.size + 1 := (by omega); have hlt2 : w.heap.size < Y.heap.size + 1 + 1 := (by omega); have hne0 : w.heap.size ≠ Y.heap.size := (by omega); have hne1 : w.heap.size ≠ Y.heap.size + 1 := (by omega); have hne2 : w.heap.size ≠ Y.heap.size + 1 + 1 := (by omega); have z6 := (HX5.out.below (three Y (.cells #[.slice (some ⟨w3.heap.size, 0, none⟩) s1.size cp] 34) (.cells #[.int .i64 o.err, .int .i64 o.val] 3) (.cells #[.int .i64 o.func, .int .i64 (al1 : Int)] 3)).1).c11.2.2.2.2.2.2.1; clear hbY hsY hokY))
    | (at_builtin; go_must (obtain ⟨t1, t2, t3⟩ := three Y (.cells #[.slice (some ⟨w3.heap.size, 0, none⟩) s1.size cp] 34) (.cells #[.int .i64 o.err, .int .i64 o.val] 3) (.cells #[.int .i64 o.func, .int .i64 (al1 : Int)] 3); have hown := owng_new ((Y.alloc (.cells #[.slice (some ⟨w3.heap.size, 0, none⟩) s1.size cp] 34)).alloc (.cells #[.int .i64 o.err, .int .i64 o.val] 3)) [o.func, (al1 : Int)] 2 rfl (by omega); rw [show ((Y.alloc (.cells #[.slice (some ⟨w3.heap.size, 0, none⟩) s1.size cp] 34)).alloc (.cells #[.int .i64 o.err, .int .i64 o.val] 3)).heap.size = Y.heap.size + 1 + 1 by simp] at hown; refine append_i rfl (.tmp 36) (.tmp 38) rfl (Y.heap.size + 1 + 1) (.slice (some ⟨Y.heap.size + 1 + 1, 0, none⟩) 2 2) 2 [o.func, (al1 : Int)] rfl hown aa1 al1 ac1 o.args rfl HNA.out HAL.out ((HRA.out.below hb3).below (HBY.out.trans (t1.mono HBY.out.size))) (by have q1 := HAL.out; have q2 := H20.out; omega) (by simp) ?_; intro v8 w8 ho8 hg8; have HT := hide (And.intro t1 (And.intro t2 t3)); have HOW := hide hown; have HG8 := hide hg8; have HO8 := hide ho8; clear t1 t2 t3 hown hg8 ho8)))
  obtain ⟨g1, g2, g3⟩ := aft _ _ _ _ _ HG8.out
  have HX8 := hide (HX5.out.below g1)
  have HR8 := hide ((hr3.out.below HBY.out).below g1)
  have HT8 := hide (HOK.out.below g1)
  have HRT8 := hide (show Reads w8 (some ⟨Y.heap.size, 0, none⟩) (sV [⟨some ⟨w3.heap.size, 0, none⟩, s1.size, cp, o.id⟩]) from (reads_new Y (sV [⟨some ⟨w3.heap.size, 0, none⟩, s1.size, cp, o.id⟩]) 34).below g2)
  have er := (reads_new (Y.alloc (.cells #[.slice (some ⟨w3.heap.size, 0, none⟩) s1.size cp] 34)) (iV [o.err, o.val]) 3).below g3
  rw [show (Y.alloc (.cells #[.slice (some ⟨w3.heap.size, 0, none⟩) s1.size cp] 34)).heap.size = Y.heap.size + 1 by simp] at er
  have HER := hide er
  obtain ⟨a8, m8, c8, rfl, hm8, hc8, hn8, hr8, -⟩ := owng_row HO8.out
  have HB8 := hide (HB5.out.trans (g1.mono HB5.out.size))
  have HM8 := hm8
  have HN8 := hide hn8
  have HA8 := hide hr8
  have HAM := hide (show ([o.func, (al1 : Int)] ++ o.args).length = m8 from by have q1 := HM8.out; have q2 := HAL.out; simp only [List.length_append, List.length_cons, List.length_nil]; omega)
  have HIE := hide (show In64 [o.err, o.val] from in64_2 HI.out.2.2.1.1 HI.out.2.2.1.2)
  have HIA := hide (show In64 ([o.func, (al1 : Int)] ++ o.args) from in64_a HI.out.2.1.1 (by have q2 := HAL.out; have q3 := H20.out; unfold In1; omega) HI.out.2.1.2)
  have hlk := hm3.out
  have hl10 : (encI o.kind).length ≤ 10 := enc_len _
  have hidl : o.id.length = s1.size := HOK.out.1
  clear hm8 hn8 hr8 hc8 er g1 g2 g3 HG8 HO8 HT HOW z6 hlt1 hlt2 hne0 hne1 hne2 hltY HX HX1 HX2 HX3 HX4 HX5 HB HB1 HB2 HB3 HB4 HB5
  clear a0 a1 a2 a3 a4 a5 a6 a7 a9 a10 e0 e1 e2 e3 e4 e5 e6 e7 e8 e9 e10 u0 u1 u2 u3 u4 u5 u6 u7 u8 u9 u10 b0 b1 b2 b3 b4 b5 b6 b7 b8 b9 b10 d0 d1 d2 d3 d4 d5 d6 d7 d8 d9 d10
  obtain ⟨k0, k1, k2, k3, k4, k5, k6, k7, k8, k9, k10⟩ := HX8.out.c11
  rw [HK.out] at k0
  have C1 := hide (fun g hg => ri1 (encI o.kind) o.node HI.out.1.2.1 q3 m3 c3 w8 hm3.out (by omega) hn3.out HR8.out g hg)
  have hq9 : (encs [o.node]).length ≤ 10 := by have := encs_len10 [o.node]; simpa using this
  have hqt : (encT o.id).length ≤ 10 + o.id.length := by have := enc_len (foldN (o.id.length : Int)); simp only [encT, List.length_append]; omega
  go_wp2_with (first | (go_at_call 25; go_must (first | ((with_reducible refine (C1.out _ rfl).mono ?_); rintro e w9 ⟨q9, m9, c9, rfl, hm9, hc9, hn9, hr9, hb9⟩; have hlk9 := hm9.out; simp only [List.length_append] at hlk9; have HB9 := hide ((HB8.out).trans (hb9.mono (HB8.out).size))))) | (go_at_call 26; go_must ((with_reducible refine (rb ((encI o.kind) ++ encs [o.node]) o.id q9 m9 c9 Y.heap.size (some ⟨w3.heap.size, 0, none⟩) s1.size cp w9 hm9.out (by omega) hn9.out hr9.out ((HT8.out).below hb9) (by omega) ((HRT8.out).below hb9)).mono ?_); rintro e w10 ⟨q10, m10, c10, rfl, hm10, hc10, hn10, hr10, hb10⟩; have hlk10 := hm10.out; simp only [List.length_append] at hlk10; have HB10 := hide ((HB9.out).trans (hb10.mono (HB9.out).size)))))
  go_ret2
  have ez : encN o = (((encI o.kind) ++ encs [o.node]) ++ encT o.id) := by
    simp [encN, HK.out, hasView, hasEpoch, hasLife, hasNode, hasId, hasRes, hasFunc, encs, encI]
  rw [ez]
  exact ⟨_, _, _, rfl, hm10, hc10, hn10, hr10, HB10.out⟩

set_option maxRecDepth 100000 in
set_option maxHeartbeats 16000000 in
theorem rpack_10 (n o : No) (s : ByteArray) (aa ma : Option Addr) (al ac ml mc : Nat) (B : Nat) (w : World) (HM : Hid (NM B w n s (.slice aa al ac) (.slice ma ml mc)))
    (CC : Hid (∀ W, Calls Try.prog 16 #[.agg #[.int .i64 n.kind, .int .i64 n.node, .int .i64 n.life, .int .i64 n.epoch, .string s, .int .i64 n.func, (.slice aa al ac), .int .i64 n.err, .int .i64 n.val, .int .i64 n.vep, (.slice ma ml mc)]] W fun e w' => ∃ s1 aa1 al1 ac1 ma1 ml1 mc1, e = .returned (Nv o s1 (.slice aa1 al1 ac1) (.slice ma1 ml1 mc1)) ∧ Hid (∀ B W, NM B W n s (.slice aa al ac) (.slice ma ml mc) → NM B W o s1 (.slice aa1 al1 ac1) (.slice ma1 ml1 mc1)) ∧ Below W.heap.size W w'))
    (CM : Hid (∀ W, Below w.heap.size w W → Calls Try.prog 24 #[.agg #[.int .i64 n.kind, .int .i64 n.node, .int .i64 n.life, .int .i64 n.epoch, .string s, .int .i64 n.func, (.slice aa al ac), .int .i64 n.err, .int .i64 n.val, .int .i64 n.vep, (.slice ma ml mc)]] W fun e w' => e = .returned (.bool true) ∧ Below W.heap.size W w'))
    (hI : NIn o) (h20 : o.args.length ≤ 20000) (HK : Hid (o.kind = 10)) :
    Calls Try.prog 12 #[.agg #[.int .i64 n.kind, .int .i64 n.node, .int .i64 n.life, .int .i64 n.epoch, .string s, .int .i64 n.func, (.slice aa al ac), .int .i64 n.err, .int .i64 n.val, .int .i64 n.vep, (.slice ma ml mc)]] w (RP (encN o) w) := by
  have CK := hide (fun W g (hg : g = W.heap.size) => (show Calls Try.prog 25 #[.slice none 0 0, .slice (some ⟨g, 0, none⟩) 1 1] (W.alloc (.cells #[.int .i64 o.kind] 3)) (RQ (encI o.kind) W) from by
    have h := ri1 [] o.kind hI.1.1 none 0 0 W rfl (by omega) (fun _ => ⟨rfl, rfl⟩) (.inl rfl) g hg
    rw [show [] ++ encs [o.kind] = encI o.kind by simp [encs, encI]] at h
    exact h))
  have H20 := hide h20
  have HI := hide hI
  clear h20 hI
  have HX0 := hide (BoxL.new w [.int .i64 n.kind, .int .i64 n.node, .int .i64 n.life, .int .i64 n.epoch, .string s, .int .i64 n.func, (.slice aa al ac), .int .i64 n.err, .int .i64 n.val, .int .i64 n.vep, (.slice ma ml mc)] 31)
  have HB0 := hide (below_new w (.cells #[.int .i64 n.kind, .int .i64 n.node, .int .i64 n.life, .int .i64 n.epoch, .string s, .int .i64 n.func, (.slice aa al ac), .int .i64 n.err, .int .i64 n.val, .int .i64 n.vep, (.slice ma ml mc)] 31))
  obtain ⟨V, hV⟩ : ∃ V, V = w.alloc (.cells #[.int .i64 n.kind, .int .i64 n.node, .int .i64 n.life, .int .i64 n.epoch, .string s, .int .i64 n.func, (.slice aa al ac), .int .i64 n.err, .int .i64 n.val, .int .i64 n.vep, (.slice ma ml mc)] 31) := ⟨_, rfl⟩
  have HX := hide (show BoxL V w.heap.size [.int .i64 n.kind, .int .i64 n.node, .int .i64 n.life, .int .i64 n.epoch, .string s, .int .i64 n.func, (.slice aa al ac), .int .i64 n.err, .int .i64 n.val, .int .i64 n.vep, (.slice ma ml mc)] by rw [hV]; exact HX0.out)
  have HB := hide (show Below w.heap.size w V by rw [hV]; exact HB0.out)
  have HV := hide hV
  clear hV HX0 HB0
  go_enter Try.func12, Try.ntmps12
  go_upto_region 9 with (first
    | (go_at_call 24; go_must (rw [← HV.out]; (with_reducible refine (CM.out V HB.out).mono ?_); rintro e w1 ⟨rfl, hb1⟩; have HX1 := hide (HX.out.below hb1); have HB1 := hide (HB.out.trans (hb1.mono HB.out.size)); obtain ⟨a0, a1, a2, a3, a4, a5, a6, a7, a8, a9, a10⟩ := HX1.out.c11))
    | (go_at_call 16; go_must ((with_reducible refine (CC.out w1).mono ?_); rintro e w2 ⟨s1, aa1, al1, ac1, ma1, ml1, mc1, rfl, hM1, hb2⟩; simp only [Nv]; have HX2 := hide (HX1.out.below hb2); have HB2 := hide (HB1.out.trans (hb2.mono HB1.out.size)); obtain ⟨e0, e1, e2, e3, e4, e5, e6, e7, e8, e9, e10⟩ := HX2.out.c11; obtain ⟨u0, u1, u2, u3, u4, u5, u6, u7, u8, u9, u10⟩ := HX2.out.f11; have HX3 := hide (put11_box HX2.out (.int .i64 o.kind) (.int .i64 o.node) (.int .i64 o.life) (.int .i64 o.epoch) (.string s1) (.int .i64 o.func) (.slice aa1 al1 ac1) (.int .i64 o.err) (.int .i64 o.val) (.int .i64 o.vep) (.slice ma1 ml1 mc1)); have HB3 := hide (put11_below (g := w.heap.size) HB2.out (Nat.le_refl _) (.int .i64 o.kind) (.int .i64 o.node) (.int .i64 o.life) (.int .i64 o.epoch) (.string s1) (.int .i64 o.func) (.slice aa1 al1 ac1) (.int .i64 o.err) (.int .i64 o.val) (.int .i64 o.vep) (.slice ma1 ml1 mc1)); obtain ⟨X, hX⟩ : ∃ X, X = put11 w2 w.heap.size (.int .i64 o.kind) (.int .i64 o.node) (.int .i64 o.life) (.int .i64 o.epoch) (.string s1) (.int .i64 o.func) (.slice aa1 al1 ac1) (.int .i64 o.err) (.int .i64 o.val) (.int .i64 o.vep) (.slice ma1 ml1 mc1) := ⟨_, rfl⟩; rw [← hX] at HX3 HB3; unfold put11 at hX; have HE := hide hX; clear hX; have hMX := hM1.out B X (HM.out.below HB3.out); have HMX := hide hMX; obtain ⟨hid1, hsz1, -, -, ⟨aa1', al1', ac1', eqa, hal1, -, hna1, hra1, -⟩, -⟩ := hMX; simp only [Value.slice.injEq] at eqa; obtain ⟨rfl, rfl, rfl⟩ := eqa; have HID := hide hid1; have HAL := hide hal1.out; have HNA := hide hna1; have HRA := hide hra1; clear hid1 hal1 hna1 hra1 hM1))
    | (go_at_call 25; go_must (rw [← HE.out]; (with_reducible refine (CK.out X _ (by first | rfl | (rw [HE.out]; simp [World.setCell]))).mono ?_); rintro e w3 ⟨q3, m3, c3, rfl, hm3, hc3, hn3, hr3, hb3⟩; have HX4 := hide (HX3.out.below hb3); have HB4 := hide (HB3.out.trans (hb3.mono HB3.out.size)); obtain ⟨Y, cp, kc, hbY, hsY, hokY⟩ := str_row w3 s1 hsz1; rw [HID.out] at hokY; have HOK := hide hokY; have HSY := hide hsY; have HBY := hide hbY; have HX5 := hide (HX4.out.below hbY); have HB5 := hide (HB4.out.trans (hbY.mono HB4.out.size)); have hltY : w.heap.size < Y.heap.size := HX5.out.1; obtain ⟨b0, b1, b2, b3, b4, b5, b6, b7, b8, b9, b10⟩ := HX4.out.c11; obtain ⟨d0, d1, d2, d3, d4, d5, d6, d7, d8, d9, d10⟩ := HX5.out.c11; have hlt1 : w.heap.size < Y.heap.size + 1 := (by omega); have hlt2 : w.heap.size < Y.heap.size + 1 + 1 := (by omega); have hne0 : w.heap.size ≠ Y.heap.size := (by omega); have hne1 : w.heap.size ≠ Y.heap.size + 1 := (by omega); have hne2 : w.heap.size ≠ Y.heap.size + 1 + 1 := (by omega); have z6 := (HX5.out.below (three Y (.cells #[.slice (some ⟨w3.heap.size, 0, none⟩) s1.size cp] 34) (.cells #[.int .i64 o.err, .int .i64 o.val] 3) (.cells #[.int .i64 o.func, .int .i64 (al1 : Int)] 3)).1).c11.2.2.2.2.2.2.1; clear hbY hsY hokY))
    | (at_builtin; go_must (obtain ⟨t1, t2, t3⟩ := three Y (.cells #[.slice (some ⟨w3.heap.size, 0, none⟩) s1.size cp] 34) (.cells #[.int .i64 o.err, .int .i64 o.val] 3) (.cells #[.int .i64 o.func, .int .i64 (al1 : Int)] 3); have hown := owng_new ((Y.alloc (.cells #[.slice (some ⟨w3.heap.size, 0, none⟩) s1.size cp] 34)).alloc (.cells #[.int .i64 o.err, .int .i64 o.val] 3)) [o.func, (al1 : Int)] 2 rfl (by omega); rw [show ((Y.alloc (.cells #[.slice (some ⟨w3.heap.size, 0, none⟩) s1.size cp] 34)).alloc (.cells #[.int .i64 o.err, .int .i64 o.val] 3)).heap.size = Y.heap.size + 1 + 1 by simp] at hown; refine append_i rfl (.tmp 36) (.tmp 38) rfl (Y.heap.size + 1 + 1) (.slice (some ⟨Y.heap.size + 1 + 1, 0, none⟩) 2 2) 2 [o.func, (al1 : Int)] rfl hown aa1 al1 ac1 o.args rfl HNA.out HAL.out ((HRA.out.below hb3).below (HBY.out.trans (t1.mono HBY.out.size))) (by have q1 := HAL.out; have q2 := H20.out; omega) (by simp) ?_; intro v8 w8 ho8 hg8; have HT := hide (And.intro t1 (And.intro t2 t3)); have HOW := hide hown; have HG8 := hide hg8; have HO8 := hide ho8; clear t1 t2 t3 hown hg8 ho8)))
  obtain ⟨g1, g2, g3⟩ := aft _ _ _ _ _ HG8.out
  have HX8 := hide (HX5.out.below g1)
  have HR8 := hide ((hr3.out.below HBY.out).below g1)
  have HT8 := hide (HOK.out.below g1)
  have HRT8 := hide (show Reads w8 (some ⟨Y.heap.size, 0, none⟩) (sV [⟨some ⟨w3.heap.size, 0, none⟩, s1.size, cp, o.id⟩]) from (reads_new Y (sV [⟨some ⟨w3.heap.size, 0, none⟩, s1.size, cp, o.id⟩]) 34).below g2)
  have er := (reads_new (Y.alloc (.cells #[.slice (some ⟨w3.heap.size, 0, none⟩) s1.size cp] 34)) (iV [o.err, o.val]) 3).below g3
  rw [show (Y.alloc (.cells #[.slice (some ⟨w3.heap.size, 0, none⟩) s1.size cp] 34)).heap.size = Y.heap.size + 1 by simp] at er
  have HER := hide er
  obtain ⟨a8, m8, c8, rfl, hm8, hc8, hn8, hr8, -⟩ := owng_row HO8.out
  have HB8 := hide (HB5.out.trans (g1.mono HB5.out.size))
  have HM8 := hm8
  have HN8 := hide hn8
  have HA8 := hide hr8
  have HAM := hide (show ([o.func, (al1 : Int)] ++ o.args).length = m8 from by have q1 := HM8.out; have q2 := HAL.out; simp only [List.length_append, List.length_cons, List.length_nil]; omega)
  have HIE := hide (show In64 [o.err, o.val] from in64_2 HI.out.2.2.1.1 HI.out.2.2.1.2)
  have HIA := hide (show In64 ([o.func, (al1 : Int)] ++ o.args) from in64_a HI.out.2.1.1 (by have q2 := HAL.out; have q3 := H20.out; unfold In1; omega) HI.out.2.1.2)
  have hlk := hm3.out
  have hl10 : (encI o.kind).length ≤ 10 := enc_len _
  have hidl : o.id.length = s1.size := HOK.out.1
  clear hm8 hn8 hr8 hc8 er g1 g2 g3 HG8 HO8 HT HOW z6 hlt1 hlt2 hne0 hne1 hne2 hltY HX HX1 HX2 HX3 HX4 HX5 HB HB1 HB2 HB3 HB4 HB5
  clear a0 a1 a2 a3 a4 a5 a6 a7 a9 a10 e0 e1 e2 e3 e4 e5 e6 e7 e8 e9 e10 u0 u1 u2 u3 u4 u5 u6 u7 u8 u9 u10 b0 b1 b2 b3 b4 b5 b6 b7 b8 b9 b10 d0 d1 d2 d3 d4 d5 d6 d7 d8 d9 d10
  obtain ⟨k0, k1, k2, k3, k4, k5, k6, k7, k8, k9, k10⟩ := HX8.out.c11
  rw [HK.out] at k0
  have C1 := hide (fun g hg => ri2 (encI o.kind) o.epoch o.node HI.out.1.2.2.2 HI.out.1.2.1 q3 m3 c3 w8 hm3.out (by omega) hn3.out HR8.out g hg)
  have hq9 : (encs [o.epoch, o.node]).length ≤ 20 := by have := encs_len10 [o.epoch, o.node]; simpa using this
  have hqt : (encT o.id).length ≤ 10 + o.id.length := by have := enc_len (foldN (o.id.length : Int)); simp only [encT, List.length_append]; omega
  go_wp2_with (first | (go_at_call 25; go_must (first | ((with_reducible refine (C1.out _ rfl).mono ?_); rintro e w9 ⟨q9, m9, c9, rfl, hm9, hc9, hn9, hr9, hb9⟩; have hlk9 := hm9.out; simp only [List.length_append] at hlk9; have HB9 := hide ((HB8.out).trans (hb9.mono (HB8.out).size))) | ((with_reducible refine (ri (((encI o.kind) ++ encs [o.epoch, o.node]) ++ encT o.id) ([o.func, (al1 : Int)] ++ o.args) q10 m10 c10 a8 m8 c8 w10 hm10.out (by omega) hn10.out hr10.out HAM.out (by have q1 := HM8.out; have q2 := HAL.out; have q3 := H20.out; omega) (HIA.out) (((HA8.out).below hb9).below hb10)).mono ?_); rintro e w11 ⟨q11, m11, c11, rfl, hm11, hc11, hn11, hr11, hb11⟩; have hlk11 := hm11.out; simp only [List.length_append] at hlk11; have HB11 := hide ((HB10.out).trans (hb11.mono (HB10.out).size))))) | (go_at_call 26; go_must ((with_reducible refine (rb ((encI o.kind) ++ encs [o.epoch, o.node]) o.id q9 m9 c9 Y.heap.size (some ⟨w3.heap.size, 0, none⟩) s1.size cp w9 hm9.out (by omega) hn9.out hr9.out ((HT8.out).below hb9) (by omega) ((HRT8.out).below hb9)).mono ?_); rintro e w10 ⟨q10, m10, c10, rfl, hm10, hc10, hn10, hr10, hb10⟩; have hlk10 := hm10.out; simp only [List.length_append] at hlk10; have HB10 := hide ((HB9.out).trans (hb10.mono (HB9.out).size)))))
  go_ret2
  have ez : encN o = ((((encI o.kind) ++ encs [o.epoch, o.node]) ++ encT o.id) ++ encs ([o.func, (al1 : Int)] ++ o.args)) := by
    simp [encN, HK.out, hasView, hasEpoch, hasLife, hasNode, hasId, hasRes, hasFunc, encs, encI, ← HAL.out]
  rw [ez]
  exact ⟨_, _, _, rfl, hm11, hc11, hn11, hr11, HB11.out⟩

end Go.Proofs.Ytgkpioleipefmaa
