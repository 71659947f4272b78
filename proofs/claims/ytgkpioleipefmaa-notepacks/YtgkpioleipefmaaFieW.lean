/- NoteFields' walk. -/
import Derived.Test.YtgkpioleipefmaaNoD
import Derived.Test.YtgkpioleipefmaaNoG
namespace Go.Proofs.Ytgkpioleipefmaa
namespace noteFields
open Go.RowKit Go.ChangeShapes Go.WideShapes Go.ChangeAt Go.Deep
attribute [local go_sem ↓] Go.wp_at_zero Go.wp_at_succ
set_option linter.unusedSimpArgs false

/-- A note that is not big. -/
def Small (s : ByteArray) (al ml : Nat) : Prop := s.size ≤ 500 ∧ al ≤ 200 ∧ ml ≤ 200
theorem small_mem {W : World} {n : No} {s : ByteArray} {aa ma : Option Addr} {al ac ml mc : Nat} (h : ArgN W n s aa al ac ma ml mc) (hs : Small s al ml) : NM 0 W n s (.slice aa al ac) (.slice ma ml mc) := by
  obtain ⟨h1, h2, h3⟩ := hs
  have e1 := h.hal
  have e2 := h.hml
  exact ⟨h.hid, by omega, by omega, by omega, ⟨aa, al, ac, rfl, e1, h.hac, h.han, h.har, fun _ _ => Nat.zero_le _⟩, ⟨ma, ml, mc, rfl, e2, h.hmc, h.hmn, h.hmr, fun _ _ => Nat.zero_le _⟩⟩
set_option maxRecDepth 100000 in
set_option maxHeartbeats 16000000 in
theorem bigA (n1 n2 : No) (s1 s2 : ByteArray) (aa1 ma1 aa2 ma2 : Option Addr) (al1 ac1 ml1 mc1 al2 ac2 ml2 mc2 : Nat) (w : World) (hs : s1.size ≤ maxLen) (hb : 500 < s1.size ∨ 200 < al1 ∨ 200 < ml1) : Calls Try.prog 6 #[.agg #[.int .i64 n1.kind, .int .i64 n1.node, .int .i64 n1.life, .int .i64 n1.epoch, .string s1, .int .i64 n1.func, .slice aa1 al1 ac1, .int .i64 n1.err, .int .i64 n1.val, .int .i64 n1.vep, .slice ma1 ml1 mc1], .agg #[.int .i64 n2.kind, .int .i64 n2.node, .int .i64 n2.life, .int .i64 n2.epoch, .string s2, .int .i64 n2.func, .slice aa2 al2 ac2, .int .i64 n2.err, .int .i64 n2.val, .int .i64 n2.vep, .slice ma2 ml2 mc2]] w fun e w' => e = .returned (.bool true) ∧ Below w.heap.size w w' := by
  have CB := hide (fun W => big_yes n1.kind n1.node n1.life n1.epoch s1 n1.func aa1 al1 ac1 n1.err n1.val n1.vep ma1 ml1 mc1 W hs hb)
  clear hs hb
  obtain ⟨hx1, hx2, hx3, hx4⟩ := box2 w [.int .i64 n1.kind, .int .i64 n1.node, .int .i64 n1.life, .int .i64 n1.epoch, .string s1, .int .i64 n1.func, .slice aa1 al1 ac1, .int .i64 n1.err, .int .i64 n1.val, .int .i64 n1.vep, .slice ma1 ml1 mc1] [.int .i64 n2.kind, .int .i64 n2.node, .int .i64 n2.life, .int .i64 n2.epoch, .string s2, .int .i64 n2.func, .slice aa2 al2 ac2, .int .i64 n2.err, .int .i64 n2.val, .int .i64 n2.vep, .slice ma2 ml2 mc2] 31 31
  obtain ⟨V, hV⟩ : ∃ V, V = (w.alloc (.cells #[.int .i64 n1.kind, .int .i64 n1.node, .int .i64 n1.life, .int .i64 n1.epoch, .string s1, .int .i64 n1.func, .slice aa1 al1 ac1, .int .i64 n1.err, .int .i64 n1.val, .int .i64 n1.vep, .slice ma1 ml1 mc1] 31)).alloc (.cells #[.int .i64 n2.kind, .int .i64 n2.node, .int .i64 n2.life, .int .i64 n2.epoch, .string s2, .int .i64 n2.func, .slice aa2 al2 ac2, .int .i64 n2.err, .int .i64 n2.val, .int .i64 n2.vep, .slice ma2 ml2 mc2] 31) := ⟨_, rfl⟩
  have HX := hide (show BoxL V w.heap.size [.int .i64 n1.kind, .int .i64 n1.node, .int .i64 n1.life, .int .i64 n1.epoch, .string s1, .int .i64 n1.func, .slice aa1 al1 ac1, .int .i64 n1.err, .int .i64 n1.val, .int .i64 n1.vep, .slice ma1 ml1 mc1] by rw [hV]; exact hx1)
  have HY := hide (show BoxL V (w.heap.size + 1) [.int .i64 n2.kind, .int .i64 n2.node, .int .i64 n2.life, .int .i64 n2.epoch, .string s2, .int .i64 n2.func, .slice aa2 al2 ac2, .int .i64 n2.err, .int .i64 n2.val, .int .i64 n2.vep, .slice ma2 ml2 mc2] by rw [hV]; exact hx2)
  have HB := hide (show Below w.heap.size w V by rw [hV]; exact hx3)
  have HV := hide hV
  clear hx1 hx2 hx3 hx4 hV
  go_enter Try.func6, Try.ntmps6
  go_wp2_with (first | (go_at_call 9; go_must (rw [← HV.out]; (with_reducible refine (alive_any V).mono ?_); rintro e w1 ⟨rfl, hb1⟩; have HX1 := hide (HX.out.below hb1); have HY1 := hide (HY.out.below hb1); have HB1 := hide (HB.out.trans (hb1.mono HB.out.size)); obtain ⟨k0, k1, k2, k3, k4, k5, k6, k7, k8, k9, k10⟩ := HX1.out.c11)) | (go_at_call 10; go_must ((with_reducible refine (CB.out w1).mono ?_); rintro e w2 ⟨rfl, hb2⟩)))
  go_ret
  exact ⟨rfl, HB1.out.trans (hb2.mono HB1.out.size)⟩

set_option maxRecDepth 100000 in
set_option maxHeartbeats 16000000 in
theorem bigB (n1 n2 : No) (s1 s2 : ByteArray) (aa1 ma1 aa2 ma2 : Option Addr) (al1 ac1 ml1 mc1 al2 ac2 ml2 mc2 : Nat) (w : World) (q1 : Small s1 al1 ml1) (hs : s2.size ≤ maxLen) (hb : 500 < s2.size ∨ 200 < al2 ∨ 200 < ml2) : Calls Try.prog 6 #[.agg #[.int .i64 n1.kind, .int .i64 n1.node, .int .i64 n1.life, .int .i64 n1.epoch, .string s1, .int .i64 n1.func, .slice aa1 al1 ac1, .int .i64 n1.err, .int .i64 n1.val, .int .i64 n1.vep, .slice ma1 ml1 mc1], .agg #[.int .i64 n2.kind, .int .i64 n2.node, .int .i64 n2.life, .int .i64 n2.epoch, .string s2, .int .i64 n2.func, .slice aa2 al2 ac2, .int .i64 n2.err, .int .i64 n2.val, .int .i64 n2.vep, .slice ma2 ml2 mc2]] w fun e w' => e = .returned (.bool true) ∧ Below w.heap.size w w' := by
  have CB := hide (fun W => big_no n1.kind n1.node n1.life n1.epoch s1 n1.func aa1 al1 ac1 n1.err n1.val n1.vep ma1 ml1 mc1 W q1.1 q1.2.1 q1.2.2)
  have CD := hide (fun W => big_yes n2.kind n2.node n2.life n2.epoch s2 n2.func aa2 al2 ac2 n2.err n2.val n2.vep ma2 ml2 mc2 W hs hb)
  clear hs hb q1
  obtain ⟨hx1, hx2, hx3, hx4⟩ := box2 w [.int .i64 n1.kind, .int .i64 n1.node, .int .i64 n1.life, .int .i64 n1.epoch, .string s1, .int .i64 n1.func, .slice aa1 al1 ac1, .int .i64 n1.err, .int .i64 n1.val, .int .i64 n1.vep, .slice ma1 ml1 mc1] [.int .i64 n2.kind, .int .i64 n2.node, .int .i64 n2.life, .int .i64 n2.epoch, .string s2, .int .i64 n2.func, .slice aa2 al2 ac2, .int .i64 n2.err, .int .i64 n2.val, .int .i64 n2.vep, .slice ma2 ml2 mc2] 31 31
  obtain ⟨V, hV⟩ : ∃ V, V = (w.alloc (.cells #[.int .i64 n1.kind, .int .i64 n1.node, .int .i64 n1.life, .int .i64 n1.epoch, .string s1, .int .i64 n1.func, .slice aa1 al1 ac1, .int .i64 n1.err, .int .i64 n1.val, .int .i64 n1.vep, .slice ma1 ml1 mc1] 31)).alloc (.cells #[.int .i64 n2.kind, .int .i64 n2.node, .int .i64 n2.life, .int .i64 n2.epoch, .string s2, .int .i64 n2.func, .slice aa2 al2 ac2, .int .i64 n2.err, .int .i64 n2.val, .int .i64 n2.vep, .slice ma2 ml2 mc2] 31) := ⟨_, rfl⟩
  have HX := hide (show BoxL V w.heap.size [.int .i64 n1.kind, .int .i64 n1.node, .int .i64 n1.life, .int .i64 n1.epoch, .string s1, .int .i64 n1.func, .slice aa1 al1 ac1, .int .i64 n1.err, .int .i64 n1.val, .int .i64 n1.vep, .slice ma1 ml1 mc1] by rw [hV]; exact hx1)
  have HY := hide (show BoxL V (w.heap.size + 1) [.int .i64 n2.kind, .int .i64 n2.node, .int .i64 n2.life, .int .i64 n2.epoch, .string s2, .int .i64 n2.func, .slice aa2 al2 ac2, .int .i64 n2.err, .int .i64 n2.val, .int .i64 n2.vep, .slice ma2 ml2 mc2] by rw [hV]; exact hx2)
  have HB := hide (show Below w.heap.size w V by rw [hV]; exact hx3)
  have HV := hide hV
  clear hx1 hx2 hx3 hx4 hV
  go_enter Try.func6, Try.ntmps6
  go_wp2_with (first | (go_at_call 9; go_must (rw [← HV.out]; (with_reducible refine (alive_any V).mono ?_); rintro e w1 ⟨rfl, hb1⟩; have HX1 := hide (HX.out.below hb1); have HY1 := hide (HY.out.below hb1); have HB1 := hide (HB.out.trans (hb1.mono HB.out.size)); obtain ⟨k0, k1, k2, k3, k4, k5, k6, k7, k8, k9, k10⟩ := HX1.out.c11)) | (go_at_call 10; first | ((with_reducible refine (CB.out w1).mono ?_); rintro e w2 ⟨rfl, hb2⟩; have HX2 := hide (HX1.out.below hb2); have HY2 := hide (HY1.out.below hb2); have HB2 := hide (HB1.out.trans (hb2.mono HB1.out.size)); obtain ⟨d0, d1, d2, d3, d4, d5, d6, d7, d8, d9, d10⟩ := HY2.out.c11; have kk := HX2.out.c11) | (go_must ((with_reducible refine (CD.out w2).mono ?_); rintro e w3 ⟨rfl, hb3⟩))))
  go_ret
  exact ⟨rfl, HB2.out.trans (hb3.mono HB2.out.size)⟩

set_option maxRecDepth 100000 in
set_option maxHeartbeats 16000000 in
theorem noA (n1 n2 : No) (s1 s2 : ByteArray) (aa1 ma1 aa2 ma2 : Option Addr) (al1 ac1 ml1 mc1 al2 ac2 ml2 mc2 : Nat) (w : World) (q1 : Small s1 al1 ml1) (q2 : Small s2 al2 ml2) (o1 : ArgN w n1 s1 aa1 al1 ac1 ma1 ml1 mc1) (o2 : ArgN w n2 s2 aa2 al2 ac2 ma2 ml2 mc2) (hm1 : mayN (clearN n1) = false) : Calls Try.prog 6 #[.agg #[.int .i64 n1.kind, .int .i64 n1.node, .int .i64 n1.life, .int .i64 n1.epoch, .string s1, .int .i64 n1.func, .slice aa1 al1 ac1, .int .i64 n1.err, .int .i64 n1.val, .int .i64 n1.vep, .slice ma1 ml1 mc1], .agg #[.int .i64 n2.kind, .int .i64 n2.node, .int .i64 n2.life, .int .i64 n2.epoch, .string s2, .int .i64 n2.func, .slice aa2 al2 ac2, .int .i64 n2.err, .int .i64 n2.val, .int .i64 n2.vep, .slice ma2 ml2 mc2]] w fun e w' => e = .returned (.bool true) ∧ Below w.heap.size w w' := by
  have CB := hide (fun W => big_no n1.kind n1.node n1.life n1.epoch s1 n1.func aa1 al1 ac1 n1.err n1.val n1.vep ma1 ml1 mc1 W q1.1 q1.2.1 q1.2.2)
  have CD := hide (fun W => big_no n2.kind n2.node n2.life n2.epoch s2 n2.func aa2 al2 ac2 n2.err n2.val n2.vep ma2 ml2 mc2 W q2.1 q2.2.1 q2.2.2)
  have CP := hide (fun W (hb : Below w.heap.size w W) => packN n1 s1 (.slice aa1 al1 ac1) (.slice ma1 ml1 mc1) 0 W ((small_mem o1 q1).below hb) o1.inn hm1)
  simp only [Nv] at CP
  have CQ := hide (fun W (hb : Below w.heap.size w W) => (show Calls Try.prog 11 #[Nv n2 s2 (.slice aa2 al2 ac2) (.slice ma2 ml2 mc2)] W fun e w' => ∃ a m c f, e = .returned (.tuple #[.slice a m c, .int .i64 f]) ∧ Below W.heap.size W w' from by
    by_cases hm2 : mayN (clearN n2) = true
    · refine (packQ n2 s2 _ _ 0 W ((small_mem o2 q2).below hb) o2.inn hm2).mono ?_
      rintro e w' ⟨a, m, c, rfl, _, _, _, h⟩
      exact ⟨a, m, c, 0, rfl, h⟩
    · refine (packN n2 s2 _ _ 0 W ((small_mem o2 q2).below hb) o2.inn (by simpa using hm2)).mono ?_
      rintro e w' ⟨rfl, h⟩
      exact ⟨none, 0, 0, 1, rfl, h⟩))
  simp only [Nv] at CQ
  clear q1 q2 o1 o2 hm1
  obtain ⟨hx1, hx2, hx3, hx4⟩ := box2 w [.int .i64 n1.kind, .int .i64 n1.node, .int .i64 n1.life, .int .i64 n1.epoch, .string s1, .int .i64 n1.func, .slice aa1 al1 ac1, .int .i64 n1.err, .int .i64 n1.val, .int .i64 n1.vep, .slice ma1 ml1 mc1] [.int .i64 n2.kind, .int .i64 n2.node, .int .i64 n2.life, .int .i64 n2.epoch, .string s2, .int .i64 n2.func, .slice aa2 al2 ac2, .int .i64 n2.err, .int .i64 n2.val, .int .i64 n2.vep, .slice ma2 ml2 mc2] 31 31
  obtain ⟨V, hV⟩ : ∃ V, V = (w.alloc (.cells #[.int .i64 n1.kind, .int .i64 n1.node, .int .i64 n1.life, .int .i64 n1.epoch, .string s1, .int .i64 n1.func, .slice aa1 al1 ac1, .int .i64 n1.err, .int .i64 n1.val, .int .i64 n1.vep, .slice ma1 ml1 mc1] 31)).alloc (.cells #[.int .i64 n2.kind, .int .i64 n2.node, .int .i64 n2.life, .int .i64 n2.epoch, .string s2, .int .i64 n2.func, .slice aa2 al2 ac2, .int .i64 n2.err, .int .i64 n2.val, .int .i64 n2.vep, .slice ma2 ml2 mc2] 31) := ⟨_, rfl⟩
  have HX := hide (show BoxL V w.heap.size [.int .i64 n1.kind, .int .i64 n1.node, .int .i64 n1.life, .int .i64 n1.epoch, .string s1, .int .i64 n1.func, .slice aa1 al1 ac1, .int .i64 n1.err, .int .i64 n1.val, .int .i64 n1.vep, .slice ma1 ml1 mc1] by rw [hV]; exact hx1)
  have HY := hide (show BoxL V (w.heap.size + 1) [.int .i64 n2.kind, .int .i64 n2.node, .int .i64 n2.life, .int .i64 n2.epoch, .string s2, .int .i64 n2.func, .slice aa2 al2 ac2, .int .i64 n2.err, .int .i64 n2.val, .int .i64 n2.vep, .slice ma2 ml2 mc2] by rw [hV]; exact hx2)
  have HB := hide (show Below w.heap.size w V by rw [hV]; exact hx3)
  have HV := hide hV
  clear hx1 hx2 hx3 hx4 hV
  go_enter Try.func6, Try.ntmps6
  go_wp2_with (first
    | (go_at_call 9; go_must (rw [← HV.out]; (with_reducible refine (alive_any V).mono ?_); rintro e w1 ⟨rfl, hb1⟩; have HX1 := hide (HX.out.below hb1); have HY1 := hide (HY.out.below hb1); have HB1 := hide (HB.out.trans (hb1.mono HB.out.size)); obtain ⟨k0, k1, k2, k3, k4, k5, k6, k7, k8, k9, k10⟩ := HX1.out.c11))
    | (go_at_call 10; first | ((with_reducible refine (CB.out w1).mono ?_); rintro e w2 ⟨rfl, hb2⟩; have HX2 := hide (HX1.out.below hb2); have HY2 := hide (HY1.out.below hb2); have HB2 := hide (HB1.out.trans (hb2.mono HB1.out.size)); obtain ⟨d0, d1, d2, d3, d4, d5, d6, d7, d8, d9, d10⟩ := HY2.out.c11; have kk := HX2.out.c11) | ((with_reducible refine (CD.out w2).mono ?_); rintro e w3 ⟨rfl, hb3⟩; have HX3 := hide (HX2.out.below hb3); have HY3 := hide (HY2.out.below hb3); have HB3 := hide (HB2.out.trans (hb3.mono HB2.out.size)); obtain ⟨g0, g1, g2, g3, g4, g5, g6, g7, g8, g9, g10⟩ := HX3.out.c11))
    | (go_at_call 11; first
        | ((with_reducible refine (CP.out _ HB3.out).mono ?_); rintro e w4 ⟨rfl, hb4⟩; have HX4 := hide (HX3.out.below hb4); have HY4 := hide (HY3.out.below hb4); have HB4 := hide (HB3.out.trans (hb4.mono HB3.out.size)); obtain ⟨p0, p1, p2, p3, p4, p5, p6, p7, p8, p9, p10⟩ := HY4.out.c11)
        | ((with_reducible refine (CQ.out _ HB4.out).mono ?_); rintro e w5 ⟨a5, m5, c5, f5, rfl, hb5⟩; have HB5 := hide (HB4.out.trans (hb5.mono HB4.out.size))))
    | (go_at_call 13; go_must ((with_reducible refine (lnum_any _ _).mono ?_); rintro e wz ⟨rfl, rfl⟩)))
  go_ret
  exact ⟨rfl, HB5.out⟩

set_option maxRecDepth 100000 in
set_option maxHeartbeats 16000000 in
theorem noB (n1 n2 : No) (s1 s2 : ByteArray) (aa1 ma1 aa2 ma2 : Option Addr) (al1 ac1 ml1 mc1 al2 ac2 ml2 mc2 : Nat) (w : World) (q1 : Small s1 al1 ml1) (q2 : Small s2 al2 ml2) (o1 : ArgN w n1 s1 aa1 al1 ac1 ma1 ml1 mc1) (o2 : ArgN w n2 s2 aa2 al2 ac2 ma2 ml2 mc2) (hm1 : mayN (clearN n1) = true) (hm2 : mayN (clearN n2) = false) : Calls Try.prog 6 #[.agg #[.int .i64 n1.kind, .int .i64 n1.node, .int .i64 n1.life, .int .i64 n1.epoch, .string s1, .int .i64 n1.func, .slice aa1 al1 ac1, .int .i64 n1.err, .int .i64 n1.val, .int .i64 n1.vep, .slice ma1 ml1 mc1], .agg #[.int .i64 n2.kind, .int .i64 n2.node, .int .i64 n2.life, .int .i64 n2.epoch, .string s2, .int .i64 n2.func, .slice aa2 al2 ac2, .int .i64 n2.err, .int .i64 n2.val, .int .i64 n2.vep, .slice ma2 ml2 mc2]] w fun e w' => e = .returned (.bool true) ∧ Below w.heap.size w w' := by
  have CB := hide (fun W => big_no n1.kind n1.node n1.life n1.epoch s1 n1.func aa1 al1 ac1 n1.err n1.val n1.vep ma1 ml1 mc1 W q1.1 q1.2.1 q1.2.2)
  have CD := hide (fun W => big_no n2.kind n2.node n2.life n2.epoch s2 n2.func aa2 al2 ac2 n2.err n2.val n2.vep ma2 ml2 mc2 W q2.1 q2.2.1 q2.2.2)
  have CP := hide (fun W (hb : Below w.heap.size w W) => packQ n1 s1 (.slice aa1 al1 ac1) (.slice ma1 ml1 mc1) 0 W ((small_mem o1 q1).below hb) o1.inn hm1)
  simp only [Nv] at CP
  have CQ := hide (fun W (hb : Below w.heap.size w W) => packN n2 s2 (.slice aa2 al2 ac2) (.slice ma2 ml2 mc2) 0 W ((small_mem o2 q2).below hb) o2.inn hm2)
  simp only [Nv] at CQ
  have HZ := hide (encN_pos (clearN n1))
  generalize encN (clearN n1) = Z at CP HZ
  clear q1 q2 o1 o2 hm1 hm2
  obtain ⟨hx1, hx2, hx3, hx4⟩ := box2 w [.int .i64 n1.kind, .int .i64 n1.node, .int .i64 n1.life, .int .i64 n1.epoch, .string s1, .int .i64 n1.func, .slice aa1 al1 ac1, .int .i64 n1.err, .int .i64 n1.val, .int .i64 n1.vep, .slice ma1 ml1 mc1] [.int .i64 n2.kind, .int .i64 n2.node, .int .i64 n2.life, .int .i64 n2.epoch, .string s2, .int .i64 n2.func, .slice aa2 al2 ac2, .int .i64 n2.err, .int .i64 n2.val, .int .i64 n2.vep, .slice ma2 ml2 mc2] 31 31
  obtain ⟨V, hV⟩ : ∃ V, V = (w.alloc (.cells #[.int .i64 n1.kind, .int .i64 n1.node, .int .i64 n1.life, .int .i64 n1.epoch, .string s1, .int .i64 n1.func, .slice aa1 al1 ac1, .int .i64 n1.err, .int .i64 n1.val, .int .i64 n1.vep, .slice ma1 ml1 mc1] 31)).alloc (.cells #[.int .i64 n2.kind, .int .i64 n2.node, .int .i64 n2.life, .int .i64 n2.epoch, .string s2, .int .i64 n2.func, .slice aa2 al2 ac2, .int .i64 n2.err, .int .i64 n2.val, .int .i64 n2.vep, .slice ma2 ml2 mc2] 31) := ⟨_, rfl⟩
  have HX := hide (show BoxL V w.heap.size [.int .i64 n1.kind, .int .i64 n1.node, .int .i64 n1.life, .int .i64 n1.epoch, .string s1, .int .i64 n1.func, .slice aa1 al1 ac1, .int .i64 n1.err, .int .i64 n1.val, .int .i64 n1.vep, .slice ma1 ml1 mc1] by rw [hV]; exact hx1)
  have HY := hide (show BoxL V (w.heap.size + 1) [.int .i64 n2.kind, .int .i64 n2.node, .int .i64 n2.life, .int .i64 n2.epoch, .string s2, .int .i64 n2.func, .slice aa2 al2 ac2, .int .i64 n2.err, .int .i64 n2.val, .int .i64 n2.vep, .slice ma2 ml2 mc2] by rw [hV]; exact hx2)
  have HB := hide (show Below w.heap.size w V by rw [hV]; exact hx3)
  have HV := hide hV
  clear hx1 hx2 hx3 hx4 hV
  go_enter Try.func6, Try.ntmps6
  go_wp2_with (first
    | (go_at_call 9; go_must (rw [← HV.out]; (with_reducible refine (alive_any V).mono ?_); rintro e w1 ⟨rfl, hb1⟩; have HX1 := hide (HX.out.below hb1); have HY1 := hide (HY.out.below hb1); have HB1 := hide (HB.out.trans (hb1.mono HB.out.size)); obtain ⟨k0, k1, k2, k3, k4, k5, k6, k7, k8, k9, k10⟩ := HX1.out.c11))
    | (go_at_call 10; first | ((with_reducible refine (CB.out w1).mono ?_); rintro e w2 ⟨rfl, hb2⟩; have HX2 := hide (HX1.out.below hb2); have HY2 := hide (HY1.out.below hb2); have HB2 := hide (HB1.out.trans (hb2.mono HB1.out.size)); obtain ⟨d0, d1, d2, d3, d4, d5, d6, d7, d8, d9, d10⟩ := HY2.out.c11; have kk := HX2.out.c11) | ((with_reducible refine (CD.out w2).mono ?_); rintro e w3 ⟨rfl, hb3⟩; have HX3 := hide (HX2.out.below hb3); have HY3 := hide (HY2.out.below hb3); have HB3 := hide (HB2.out.trans (hb3.mono HB2.out.size)); obtain ⟨g0, g1, g2, g3, g4, g5, g6, g7, g8, g9, g10⟩ := HX3.out.c11))
    | (go_at_call 11; first
        | ((with_reducible refine (CP.out _ HB3.out).mono ?_); rintro e w4 ⟨a4, m4, c4, rfl, hm4, -, -, hb4⟩; have hm0 : ((m4 : Int) == 0) = false := (by have := HZ.out; have := hm4.out; rw [beq_eq_false_iff_ne]; omega); have HX4 := hide (HX3.out.below hb4); have HY4 := hide (HY3.out.below hb4); have HB4 := hide (HB3.out.trans (hb4.mono HB3.out.size)); obtain ⟨p0, p1, p2, p3, p4, p5, p6, p7, p8, p9, p10⟩ := HY4.out.c11)
        | ((with_reducible refine (CQ.out _ HB4.out).mono ?_); rintro e w5 ⟨rfl, hb5⟩; have HB5 := hide (HB4.out.trans (hb5.mono HB4.out.size))))
    | (go_at_call 13; go_must ((with_reducible refine (lnum_any _ _).mono ?_); rintro e wz ⟨rfl, rfl⟩)))
  go_ret
  exact ⟨rfl, HB5.out⟩

set_option maxRecDepth 100000 in
set_option maxHeartbeats 16000000 in
theorem both (n1 n2 : No) (s1 s2 : ByteArray) (aa1 ma1 aa2 ma2 : Option Addr) (al1 ac1 ml1 mc1 al2 ac2 ml2 mc2 : Nat) (w : World) (q1 : Small s1 al1 ml1) (q2 : Small s2 al2 ml2) (o1 : ArgN w n1 s1 aa1 al1 ac1 ma1 ml1 mc1) (o2 : ArgN w n2 s2 aa2 al2 ac2 ma2 ml2 mc2) (hm1 : mayN (clearN n1) = true) (hm2 : mayN (clearN n2) = true) : Calls Try.prog 6 #[.agg #[.int .i64 n1.kind, .int .i64 n1.node, .int .i64 n1.life, .int .i64 n1.epoch, .string s1, .int .i64 n1.func, .slice aa1 al1 ac1, .int .i64 n1.err, .int .i64 n1.val, .int .i64 n1.vep, .slice ma1 ml1 mc1], .agg #[.int .i64 n2.kind, .int .i64 n2.node, .int .i64 n2.life, .int .i64 n2.epoch, .string s2, .int .i64 n2.func, .slice aa2 al2 ac2, .int .i64 n2.err, .int .i64 n2.val, .int .i64 n2.vep, .slice ma2 ml2 mc2]] w fun e w' => e = .returned (.bool true) ∧ Below w.heap.size w w' := by
  have CB := hide (fun W => big_no n1.kind n1.node n1.life n1.epoch s1 n1.func aa1 al1 ac1 n1.err n1.val n1.vep ma1 ml1 mc1 W q1.1 q1.2.1 q1.2.2)
  have CD := hide (fun W => big_no n2.kind n2.node n2.life n2.epoch s2 n2.func aa2 al2 ac2 n2.err n2.val n2.vep ma2 ml2 mc2 W q2.1 q2.2.1 q2.2.2)
  have CP := hide (fun W (hb : Below w.heap.size w W) => packQ n1 s1 (.slice aa1 al1 ac1) (.slice ma1 ml1 mc1) 0 W ((small_mem o1 q1).below hb) o1.inn hm1)
  simp only [Nv] at CP
  have CQ := hide (fun W (hb : Below w.heap.size w W) => packQ n2 s2 (.slice aa2 al2 ac2) (.slice ma2 ml2 mc2) 0 W ((small_mem o2 q2).below hb) o2.inn hm2)
  simp only [Nv] at CQ
  have hl1 := o1.hal
  have hl2 := o2.hal
  have hk1 := o1.hml
  have hk2 := o2.hml
  have hi1 : n1.id.length ≤ 500 := by rw [← o1.hid]; simpa [uN] using q1.1
  have hi2 : n2.id.length ≤ 500 := by rw [← o2.hid]; simpa [uN] using q2.1
  have hq1 := q1.2
  have hq2 := q2.2
  have c1 := clear_len n1
  have c2 := clear_len n2
  have hb1 : Byt (clearN n1).id := by
    intro x hx
    have hx' : x ∈ n1.id := by
      unfold clearN at hx
      split at hx
      · simp only at hx
        split at hx
        · exact hx
        · cases hx
      · cases hx
    rw [← o1.hid] at hx'
    simp only [uN, List.mem_map] at hx'
    obtain ⟨y, _, rfl⟩ := hx'
    exact UInt8.toNat_lt y
  have hb2 : Byt (clearN n2).id := by
    intro x hx
    have hx' : x ∈ n2.id := by
      unfold clearN at hx
      split at hx
      · simp only at hx
        split at hx
        · exact hx
        · cases hx
      · cases hx
    rw [← o2.hid] at hx'
    simp only [uN, List.mem_map] at hx'
    obtain ⟨y, _, rfl⟩ := hx'
    exact UInt8.toNat_lt y
  have hB1 := encN_byt (clearN n1) (clear_in o1.inn) hb1 (by omega) (by omega) (by omega)
  have hB2 := encN_byt (clearN n2) (clear_in o2.inn) hb2 (by omega) (by omega) (by omega)
  have hN1 : NoteOf (encN (clearN n1)) (clearN n1) := ⟨hm1, clear_twice n1, (clear_in o1.inn).2.2.1.2, (clear_in o1.inn).2.1.2, rfl⟩
  have hN2 : NoteOf (encN (clearN n2)) (clearN n2) := ⟨hm2, clear_twice n2, (clear_in o2.inn).2.2.1.2, (clear_in o2.inn).2.1.2, rfl⟩
  have hEQ : encN (clearN n1) = encN (clearN n2) ↔ clearN n1 = clearN n2 := ⟨fun h => note_one (bs := encN (clearN n1)) hN1 (by rw [h]; exact hN2), fun h => by rw [h]⟩
  have hQ := bstr_eq hB1 hB2
  have CC := hide (fun W (hb : Below w.heap.size w W) => clear_any n1 s1 (.slice aa1 al1 ac1) (.slice ma1 ml1 mc1) 0 W ((small_mem o1 q1).below hb))
  have CPP := hide (fun W s av mv B (h : NM B W (clearN n1) s av mv) => packQ (clearN n1) s av mv B W h (clear_in o1.inn) (by rw [clear_twice]; exact hm1))
  rw [clear_twice] at CPP
  unfold NPost at CC
  simp only [Nv] at CC CPP
  have CR1 := hide (fun W (hb : Below w.heap.size w W) => rclear_any n1 s1 aa1 ma1 al1 ac1 ml1 mc1 0 W ((small_mem o1 q1).below hb))
  have CR2 := hide (fun W (hb : Below w.heap.size w W) => rclear_any n2 s2 aa2 ma2 al2 ac2 ml2 mc2 0 W ((small_mem o2 q2).below hb))
  obtain ⟨QB, hQB⟩ : ∃ QB, QB = decide (encN (clearN n1) = encN (clearN n2)) := ⟨_, rfl⟩
  rw [← hQB] at hQ
  have CS := hide (fun W s s' av mv av' mv' (h : NM 0 W (clearN n1) s av mv) (h' : NM 0 W (clearN n2) s' av' mv') => (show Calls Try.prog 14 #[Nv (clearN n1) s av mv, Nv (clearN n2) s' av' mv'] W fun e w' => e = .returned (.bool QB) ∧ Below W.heap.size W w' from by
    refine (sameNote_any (clearN n1) (clearN n2) s s' av mv av' mv' 0 0 W h h').mono ?_
    rintro e w' ⟨R, rfl, hR, hb⟩
    have : R = QB := by
      rw [hQB]
      by_cases hc : clearN n1 = clearN n2
      · rw [hR.2 hc, decide_eq_true (hEQ.2 hc)]
      · rw [decide_eq_false (fun h => hc (hEQ.1 h))]
        exact Bool.eq_false_iff.2 (fun h => hc (hR.1 h))
    rw [this]
    exact ⟨rfl, hb⟩))
  simp only [Nv] at CR1 CR2 CS
  generalize encN (clearN n1) = Z1 at CP CPP hQ hQB hEQ hB1 hN1
  generalize encN (clearN n2) = Z2 at CQ hQ hQB hEQ hB2 hN2
  generalize clearN n1 = m1 at CC CPP CR1 CS hEQ hN1 hb1 c1 hm1
  generalize clearN n2 = m2 at CR2 CS hEQ hN2 hb2 c2 hm2
  have HQ := hide hQ
  clear hQ hQB hEQ hN1 hN2 hB1 hB2 hb1 hb2 c1 c2 hq1 hq2 hi1 hi2 hl1 hl2 hk1 hk2 q1 q2 o1 o2 hm1 hm2
  obtain ⟨hx1, hx2, hx3, hx4⟩ := box2 w [.int .i64 n1.kind, .int .i64 n1.node, .int .i64 n1.life, .int .i64 n1.epoch, .string s1, .int .i64 n1.func, .slice aa1 al1 ac1, .int .i64 n1.err, .int .i64 n1.val, .int .i64 n1.vep, .slice ma1 ml1 mc1] [.int .i64 n2.kind, .int .i64 n2.node, .int .i64 n2.life, .int .i64 n2.epoch, .string s2, .int .i64 n2.func, .slice aa2 al2 ac2, .int .i64 n2.err, .int .i64 n2.val, .int .i64 n2.vep, .slice ma2 ml2 mc2] 31 31
  obtain ⟨V, hV⟩ : ∃ V, V = (w.alloc (.cells #[.int .i64 n1.kind, .int .i64 n1.node, .int .i64 n1.life, .int .i64 n1.epoch, .string s1, .int .i64 n1.func, .slice aa1 al1 ac1, .int .i64 n1.err, .int .i64 n1.val, .int .i64 n1.vep, .slice ma1 ml1 mc1] 31)).alloc (.cells #[.int .i64 n2.kind, .int .i64 n2.node, .int .i64 n2.life, .int .i64 n2.epoch, .string s2, .int .i64 n2.func, .slice aa2 al2 ac2, .int .i64 n2.err, .int .i64 n2.val, .int .i64 n2.vep, .slice ma2 ml2 mc2] 31) := ⟨_, rfl⟩
  have HX := hide (show BoxL V w.heap.size [.int .i64 n1.kind, .int .i64 n1.node, .int .i64 n1.life, .int .i64 n1.epoch, .string s1, .int .i64 n1.func, .slice aa1 al1 ac1, .int .i64 n1.err, .int .i64 n1.val, .int .i64 n1.vep, .slice ma1 ml1 mc1] by rw [hV]; exact hx1)
  have HY := hide (show BoxL V (w.heap.size + 1) [.int .i64 n2.kind, .int .i64 n2.node, .int .i64 n2.life, .int .i64 n2.epoch, .string s2, .int .i64 n2.func, .slice aa2 al2 ac2, .int .i64 n2.err, .int .i64 n2.val, .int .i64 n2.vep, .slice ma2 ml2 mc2] by rw [hV]; exact hx2)
  have HB := hide (show Below w.heap.size w V by rw [hV]; exact hx3)
  have HV := hide hV
  clear hx1 hx2 hx3 hx4 hV
  go_enter Try.func6, Try.ntmps6
  go_wp2_with (first
    | (go_at_call 9; go_must (rw [← HV.out]; (with_reducible refine (alive_any V).mono ?_); rintro e w1 ⟨rfl, hb1⟩; have HX1 := hide (HX.out.below hb1); have HY1 := hide (HY.out.below hb1); have HB1 := hide (HB.out.trans (hb1.mono HB.out.size)); obtain ⟨k0, k1, k2, k3, k4, k5, k6, k7, k8, k9, k10⟩ := HX1.out.c11))
    | (go_at_call 10; first | ((with_reducible refine (CB.out w1).mono ?_); rintro e w2 ⟨rfl, hb2⟩; have HX2 := hide (HX1.out.below hb2); have HY2 := hide (HY1.out.below hb2); have HB2 := hide (HB1.out.trans (hb2.mono HB1.out.size)); obtain ⟨d0, d1, d2, d3, d4, d5, d6, d7, d8, d9, d10⟩ := HY2.out.c11; have kk := HX2.out.c11) | ((with_reducible refine (CD.out w2).mono ?_); rintro e w3 ⟨rfl, hb3⟩; have HX3 := hide (HX2.out.below hb3); have HY3 := hide (HY2.out.below hb3); have HB3 := hide (HB2.out.trans (hb3.mono HB2.out.size)); obtain ⟨g0, g1, g2, g3, g4, g5, g6, g7, g8, g9, g10⟩ := HX3.out.c11))
    | (go_at_call 11; first
        | ((with_reducible refine (CP.out _ HB3.out).mono ?_); rintro e w4 ⟨a4, m4, c4, rfl, hm4, -, hr4, hb4⟩; have HX4 := hide (HX3.out.below hb4); have HY4 := hide (HY3.out.below hb4); have HB4 := hide (HB3.out.trans (hb4.mono HB3.out.size)); obtain ⟨p0, p1, p2, p3, p4, p5, p6, p7, p8, p9, p10⟩ := HY4.out.c11)
        | ((with_reducible refine (CQ.out _ HB4.out).mono ?_); rintro e w5 ⟨a5, m5, c5, rfl, hm5, -, hr5, hb5⟩; have HB5 := hide (HB4.out.trans (hb5.mono HB4.out.size)); have HX5 := hide (HX4.out.below hb5); have HY5 := hide (HY4.out.below hb5); obtain ⟨v0, v1, v2, v3, v4, v5, v6, v7, v8, v9, v10⟩ := HX5.out.c11)
        | ((with_reducible refine (CPP.out _ _ _ _ _ HM6.out).mono ?_); rintro e w7 ⟨a7, m7, c7, rfl, hm7, -, hr7, hb7⟩; have HB7 := hide (HB6.out.trans (hb7.mono HB6.out.size)); have HX7 := hide ((HX5.out.below hb6).below hb7); have HY7 := hide ((HY5.out.below hb6).below hb7)))
    | (go_at_call 15; go_must ((with_reducible refine (CC.out _ HB5.out).mono ?_); rintro e w6 ⟨s6, av6, mv6, rfl, hM6, hb6⟩; have HM6 := hide hM6; obtain ⟨-, -, -, -, ⟨a6, l6, c6, rfl, -⟩, ⟨b6, j6, e6, rfl, -⟩⟩ := hM6; have HB6 := hide (HB5.out.trans (hb6.mono HB5.out.size))))
    | (go_at_call 13; go_must ((with_reducible refine (lnum_any _ _).mono ?_); rintro e wz ⟨rfl, rfl⟩)))
  have HSA := hide (fun (W : World) (h : Below w7.heap.size w7 W) => run_str (S := bstr Z1) rfl hm4.out (((((hr4.out.below hb5).below hb6).below hb7)).below h) c4)
  have HSB := hide (fun (W : World) (h : Below w7.heap.size w7 W) => run_str (S := bstr Z2) rfl hm5.out ((((hr5.out.below hb6).below hb7)).below h) c5)
  have HSC := hide (fun (W : World) (h : Below w7.heap.size w7 W) => run_str (S := bstr Z1) rfl hm7.out (hr7.out.below h) c7)
  have hQ := HQ.out
  have hQ1 : ((bstr Z1).toList == (bstr Z1).toList) = true := by simp
  generalize bstr Z1 = S1 at HSA HSC hQ hQ1
  generalize bstr Z2 = S2 at HSB hQ
  refine wp_region_noPanic ?_
  have hN : Below w7.heap.size w7 w7.drew := (Below.refl _ _).drew
  refine wp_region_held_drew (S := fun W => Below w7.heap.size w7 W) (by kernel_rfl) ((Below.refl _ _).drew) (fun hHeld => ?_)
  refine takeD (i := 0) (d := some 58) (v := ?_) rfl rfl (by kernel_rfl) (by kernel_rfl) (by kernel_rfl) (fun _ _ _ h => h) (Or.inl ⟨by rfl, ?_⟩) (by assumption) ?_
  rotate_left
  · intro w hSw
    go_simp
    try (with_reducible rfl)
  try simp only [Act.put, List.setIfInBounds_toArray, List.set_cons_zero, List.set_cons_succ]
  refine takeD (i := 1) (d := some 59) (v := ?_) rfl rfl (by kernel_rfl) (by kernel_rfl) (by kernel_rfl) (fun _ _ _ h => h) (Or.inl ⟨by rfl, ?_⟩) (by assumption) ?_
  rotate_left
  · intro w hSw
    have hcv := HSA.out _ hSw
    go_simp
    try (with_reducible rfl)
  try simp only [Act.put, List.setIfInBounds_toArray, List.set_cons_zero, List.set_cons_succ]
  refine takeD (i := 2) (d := some 60) (v := ?_) rfl rfl (by kernel_rfl) (by kernel_rfl) (by kernel_rfl) (fun _ _ _ h => h) (Or.inl ⟨by rfl, ?_⟩) (by assumption) ?_
  rotate_left
  · intro w hSw
    go_simp
    try (with_reducible rfl)
  try simp only [Act.put, List.setIfInBounds_toArray, List.set_cons_zero, List.set_cons_succ]
  refine takeD (i := 3) (d := some 61) (v := ?_) rfl rfl (by kernel_rfl) (by kernel_rfl) (by kernel_rfl) (fun _ _ _ h => h) (Or.inl ⟨by rfl, ?_⟩) (by assumption) ?_
  rotate_left
  · intro w hSw
    have hcv := HSC.out _ hSw
    go_simp
    try (with_reducible rfl)
  try simp only [Act.put, List.setIfInBounds_toArray, List.set_cons_zero, List.set_cons_succ]
  refine takeD (i := 4) (d := some 62) (v := ?_) rfl rfl (by kernel_rfl) (by kernel_rfl) (by kernel_rfl) (fun _ _ _ h => h) (Or.inl ⟨by rfl, ?_⟩) (by assumption) ?_
  rotate_left
  · intro w hSw
    go_simp
    try (with_reducible rfl)
  try simp only [Act.put, List.setIfInBounds_toArray, List.set_cons_zero, List.set_cons_succ]
  refine takeD (i := 5) (d := some 63) (v := ?_) rfl rfl (by kernel_rfl) (by kernel_rfl) (by kernel_rfl) (fun _ _ _ h => h) (Or.inl ⟨by rfl, ?_⟩) (by assumption) ?_
  rotate_left
  · intro w hSw
    go_simp
    try (with_reducible rfl)
  try simp only [Act.put, List.setIfInBounds_toArray, List.set_cons_zero, List.set_cons_succ]
  refine takeD (i := 6) (d := some 64) (v := ?_) rfl rfl (by kernel_rfl) (by kernel_rfl) (by kernel_rfl) (fun _ _ _ h => h) (Or.inl ⟨by rfl, ?_⟩) (by assumption) ?_
  rotate_left
  · intro w hSw
    go_simp
    try (with_reducible rfl)
  try simp only [Act.put, List.setIfInBounds_toArray, List.set_cons_zero, List.set_cons_succ]
  refine takeD (i := 7) (d := some 65) (v := ?_) rfl rfl (by kernel_rfl) (by kernel_rfl) (by kernel_rfl) (fun _ _ _ h => h) (Or.inl ⟨by rfl, ?_⟩) (by assumption) ?_
  rotate_left
  · intro w hSw
    have hcv := HSA.out _ hSw
    go_simp
    try (with_reducible rfl)
  try simp only [Act.put, List.setIfInBounds_toArray, List.set_cons_zero, List.set_cons_succ]
  refine takeD (i := 8) (d := some 66) (v := ?_) rfl rfl (by kernel_rfl) (by kernel_rfl) (by kernel_rfl) (fun _ _ _ h => h) (Or.inl ⟨by rfl, ?_⟩) (by assumption) ?_
  rotate_left
  · intro w hSw
    go_simp
    try (with_reducible rfl)
  try simp only [Act.put, List.setIfInBounds_toArray, List.set_cons_zero, List.set_cons_succ]
  refine takeD (i := 9) (d := some 67) (v := ?_) rfl rfl (by kernel_rfl) (by kernel_rfl) (by kernel_rfl) (fun _ _ _ h => h) (Or.inl ⟨by rfl, ?_⟩) (by assumption) ?_
  rotate_left
  · intro w hSw
    have hcv := HSB.out _ hSw
    go_simp
    try (with_reducible rfl)
  try simp only [Act.put, List.setIfInBounds_toArray, List.set_cons_zero, List.set_cons_succ]
  refine takeD (i := 10) (d := some 68) (v := ?_) rfl rfl (by kernel_rfl) (by kernel_rfl) (by kernel_rfl) (fun _ _ _ h => h) (Or.inl ⟨by rfl, ?_⟩) (by assumption) ?_
  rotate_left
  · intro w hSw
    go_simp
    try (with_reducible rfl)
  try simp only [Act.put, List.setIfInBounds_toArray, List.set_cons_zero, List.set_cons_succ]
  refine takeD (i := 11) (d := some 69) (v := ?_) rfl rfl (by kernel_rfl) (by kernel_rfl) (by kernel_rfl) (fun _ _ _ h => h) (Or.inl ⟨by rfl, ?_⟩) (by assumption) ?_
  rotate_left
  · intro w hSw
    obtain ⟨k0, k1, k2, k3, k4, k5, k6, k7, k8, k9, k10⟩ := (HX7.out.below hSw).c11
    go_simp
    try (with_reducible rfl)
  try simp only [Act.put, List.setIfInBounds_toArray, List.set_cons_zero, List.set_cons_succ]
  refine takeD (i := 13) (d := some 71) (v := ?_) rfl rfl (by kernel_rfl) (by kernel_rfl) (by kernel_rfl) (fun _ _ _ h => h) (Or.inl ⟨by rfl, ?_⟩) (by assumption) ?_
  rotate_left
  · intro w hSw
    obtain ⟨k0, k1, k2, k3, k4, k5, k6, k7, k8, k9, k10⟩ := (HY7.out.below hSw).c11
    go_simp
    try (with_reducible rfl)
  try simp only [Act.put, List.setIfInBounds_toArray, List.set_cons_zero, List.set_cons_succ]
  refine wpAnyH_ready (rs := [12]) (by kernel_rfl) (by simp) ?_
  refine AllReadyH.cons rfl (fun K hK => ?_) AllReadyH.nil
  go_simp
  refine (CR1.out _ (HB7.out.trans (hHeld.mono HB7.out.size))).mono ?_
  rintro e w8 ⟨sa, av, mv, rfl, hM8, hb8⟩
  have HM8 := hide hM8
  obtain ⟨-, -, -, -, ⟨ca, cl, cc, rfl, -⟩, ⟨da, dl, dc, rfl, -⟩⟩ := hM8
  have hT8 : Below w7.heap.size w7 w8 := hHeld.trans (hb8.mono hHeld.size)
  have HT8 := hide hT8
  go_wp2_with fail
  clear hHeld
  refine hK.out _ _ (HT8.out) (fun hHeld => ?_)
  clear hK K
  try simp only [Act.put, List.setIfInBounds_toArray, List.set_cons_zero, List.set_cons_succ]
  refine wpAnyH_ready (rs := [14]) (by kernel_rfl) (by simp) ?_
  refine AllReadyH.cons rfl (fun K hK => ?_) AllReadyH.nil
  go_simp
  refine (CR2.out w8 (HB7.out.trans (HT8.out.mono HB7.out.size))).mono ?_
  rintro e w9 ⟨sb, bv, nv, rfl, hM9, hb9⟩
  have HM9 := hide hM9
  have HM89 := hide (HM8.out.below hb9)
  obtain ⟨-, -, -, -, ⟨fa, fl, fc, rfl, -⟩, ⟨ga, gl, gc, rfl, -⟩⟩ := hM9
  have hT9 : Below w7.heap.size w7 w9 := HT8.out.trans (hb9.mono HT8.out.size)
  have HT9 := hide hT9
  go_wp2_with fail
  clear hHeld
  refine hK.out _ _ (HT9.out) (fun hHeld => ?_)
  clear hK K
  try simp only [Act.put, List.setIfInBounds_toArray, List.set_cons_zero, List.set_cons_succ]
  refine wpAnyH_ready (rs := [15]) (by kernel_rfl) (by simp) ?_
  refine AllReadyH.cons rfl (fun K hK => ?_) AllReadyH.nil
  go_simp
  refine (CS.out w9 sa sb _ _ _ _ HM89.out HM9.out).mono ?_
  rintro e w10 ⟨rfl, hb10⟩
  have hT10 : Below w7.heap.size w7 w10 := HT9.out.trans (hb10.mono HT9.out.size)
  have HT10 := hide hT10
  go_wp2_with fail
  clear hHeld
  refine hK.out _ _ (HT10.out) (fun hHeld => ?_)
  clear hK K
  try simp only [Act.put, List.setIfInBounds_toArray, List.set_cons_zero, List.set_cons_succ]
  refine takeD (i := 16) (d := some 74) (v := ?_) rfl rfl (by kernel_rfl) (by kernel_rfl) (by kernel_rfl) (fun _ _ _ h => h) (Or.inl ⟨by rfl, ?_⟩) (by assumption) ?_
  rotate_left
  · intro w hSw
    go_simp
    try (with_reducible rfl)
  try simp only [Act.put, List.setIfInBounds_toArray, List.set_cons_zero, List.set_cons_succ]
  refine takeD (i := 17) (d := some 75) (v := ?_) rfl rfl (by kernel_rfl) (by kernel_rfl) (by kernel_rfl) (fun _ _ _ h => h) (Or.inl ⟨by rfl, ?_⟩) (by assumption) ?_
  rotate_left
  · intro w hSw
    go_simp
    try (with_reducible rfl)
  try simp only [Act.put, List.setIfInBounds_toArray, List.set_cons_zero, List.set_cons_succ]
  refine takeD (i := 18) (d := some 4) (v := ?_) rfl rfl (by kernel_rfl) (by kernel_rfl) (by kernel_rfl) (fun _ _ _ h => h) (Or.inl ⟨by rfl, ?_⟩) (by assumption) ?_
  rotate_left
  · intro w hSw
    go_simp
    try (with_reducible rfl)
  try simp only [Act.put, List.setIfInBounds_toArray, List.set_cons_zero, List.set_cons_succ]
  refine wpAnyH_done (by kernel_rfl) ?_ _
  refine NoPanic.normal ?_
  go_wp2
  go_ret
  exact ⟨rfl, HB7.out.trans (HT10.out.mono HB7.out.size)⟩

theorem walk (n1 : No) (s1 : ByteArray) (aa1 : Option Addr) (al1 ac1 : Nat) (ma1 : Option Addr) (ml1 mc1 : Nat) (n2 : No) (s2 : ByteArray) (aa2 : Option Addr) (al2 ac2 : Nat) (ma2 : Option Addr) (ml2 mc2 : Nat) (w : World) (o1 : ArgN w n1 s1 aa1 al1 ac1 ma1 ml1 mc1) (o2 : ArgN w n2 s2 aa2 al2 ac2 ma2 ml2 mc2) :
    Calls Try.prog 6 #[Nv n1 s1 (.slice aa1 al1 ac1) (.slice ma1 ml1 mc1), Nv n2 s2 (.slice aa2 al2 ac2) (.slice ma2 ml2 mc2)] w fun e w' => e = .returned (.bool true) ∧ Below w.heap.size w w' := by
  by_cases b1 : 500 < s1.size ∨ 200 < al1 ∨ 200 < ml1
  · exact bigA n1 n2 s1 s2 aa1 ma1 aa2 ma2 al1 ac1 ml1 mc1 al2 ac2 ml2 mc2 w o1.hsz b1
  · have q1 : Small s1 al1 ml1 := ⟨by omega, by omega, by omega⟩
    by_cases b2 : 500 < s2.size ∨ 200 < al2 ∨ 200 < ml2
    · exact bigB n1 n2 s1 s2 aa1 ma1 aa2 ma2 al1 ac1 ml1 mc1 al2 ac2 ml2 mc2 w q1 o2.hsz b2
    · have q2 : Small s2 al2 ml2 := ⟨by omega, by omega, by omega⟩
      cases h1 : mayN (clearN n1) with
      | false => exact noA n1 n2 s1 s2 aa1 ma1 aa2 ma2 al1 ac1 ml1 mc1 al2 ac2 ml2 mc2 w q1 q2 o1 o2 h1
      | true =>
        cases h2 : mayN (clearN n2) with
        | false => exact noB n1 n2 s1 s2 aa1 ma1 aa2 ma2 al1 ac1 ml1 mc1 al2 ac2 ml2 mc2 w q1 q2 o1 o2 h1 h2
        | true => exact both n1 n2 s1 s2 aa1 ma1 aa2 ma2 al1 ac1 ml1 mc1 al2 ac2 ml2 mc2 w q1 q2 o1 o2 h1 h2
end noteFields
end Go.Proofs.Ytgkpioleipefmaa
