/- gleanerref10.Clear; Big. -/
import Derived.Test.YtgkpioleipefmaaResW
import Derived.Test.YtgkpioleipefmaaArgN
import Derived.Deep.Cut
namespace Go.Proofs.Ytgkpioleipefmaa
open Go.RowKit Go.ChangeShapes Go.WideShapes Go.ChangeAt Go.Deep

theorem box3 (w : World) (L M N : List Value) (t u v : TypeId) : BoxL (((w.alloc (.cells L.toArray t)).alloc (.cells M.toArray u)).alloc (.cells N.toArray v)) w.heap.size L ∧ BoxL (((w.alloc (.cells L.toArray t)).alloc (.cells M.toArray u)).alloc (.cells N.toArray v)) (w.heap.size + 1) M ∧ BoxL (((w.alloc (.cells L.toArray t)).alloc (.cells M.toArray u)).alloc (.cells N.toArray v)) (w.heap.size + 1 + 1) N ∧ Below w.heap.size w (((w.alloc (.cells L.toArray t)).alloc (.cells M.toArray u)).alloc (.cells N.toArray v)) := by
  obtain ⟨h1, h2, h3, h4⟩ := box2 w L M t u
  have b := below_new ((w.alloc (.cells L.toArray t)).alloc (.cells M.toArray u)) (.cells N.toArray v)
  have h := BoxL.new ((w.alloc (.cells L.toArray t)).alloc (.cells M.toArray u)) N v
  rw [h4] at h
  exact ⟨h1.below b, h2.below b, h, h3.trans (b.mono h3.size)⟩

set_option maxRecDepth 100000 in
set_option maxHeartbeats 8000000 in
theorem rclear_1 (nd lf ep : Int) (id : List Nat) (s : ByteArray) (fn : Int) (args : List Int) (aa : Option Addr) (al ac : Nat) (er va ve : Int) (mem : List (Int × Int)) (ma : Option Addr) (ml mc : Nat) (B : Nat) (w : World) (hM : NM B w ⟨1, nd, lf, ep, id, fn, args, er, va, ve, mem⟩ s (.slice aa al ac) (.slice ma ml mc)) :
    Calls Try.prog 16 #[.agg #[.int .i64 1, .int .i64 nd, .int .i64 lf, .int .i64 ep, .string s, .int .i64 fn, .slice aa al ac, .int .i64 er, .int .i64 va, .int .i64 ve, .slice ma ml mc]] w fun e w' => ∃ s' av' mv', e = .returned (Nv (clearN ⟨1, nd, lf, ep, id, fn, args, er, va, ve, mem⟩) s' av' mv') ∧ NM B w' (clearN ⟨1, nd, lf, ep, id, fn, args, er, va, ve, mem⟩) s' av' mv' ∧ Below w.heap.size w w' := by
  rw [show clearN ⟨1, nd, lf, ep, id, fn, args, er, va, ve, mem⟩ = ⟨1, nd, lf, 0, [], 0, [], 0, 0, 0, []⟩ by simp [clearN, isKind, hasNode, hasLife, hasEpoch, hasId, hasFunc, hasRes, hasView]]
  obtain ⟨hx1, hx2, hx3, hx4⟩ := box3 w [.int .i64 1, .int .i64 nd, .int .i64 lf, .int .i64 ep, .string s, .int .i64 fn, .slice aa al ac, .int .i64 er, .int .i64 va, .int .i64 ve, .slice ma ml mc] [.int .i64 0, .int .i64 0, .int .i64 0, .int .i64 0, .string ⟨#[]⟩, .int .i64 0, .slice none 0 0, .int .i64 0, .int .i64 0, .int .i64 0, .slice none 0 0] [.int .i64 1, .int .i64 0, .int .i64 0, .int .i64 0, .string ⟨#[]⟩, .int .i64 0, .slice none 0 0, .int .i64 0, .int .i64 0, .int .i64 0, .slice none 0 0] 31 31 31
  obtain ⟨V, hV⟩ : ∃ V, V = ((w.alloc (.cells #[.int .i64 1, .int .i64 nd, .int .i64 lf, .int .i64 ep, .string s, .int .i64 fn, .slice aa al ac, .int .i64 er, .int .i64 va, .int .i64 ve, .slice ma ml mc] 31)).alloc (.cells #[.int .i64 0, .int .i64 0, .int .i64 0, .int .i64 0, .string ⟨#[]⟩, .int .i64 0, .slice none 0 0, .int .i64 0, .int .i64 0, .int .i64 0, .slice none 0 0] 31)).alloc (.cells #[.int .i64 1, .int .i64 0, .int .i64 0, .int .i64 0, .string ⟨#[]⟩, .int .i64 0, .slice none 0 0, .int .i64 0, .int .i64 0, .int .i64 0, .slice none 0 0] 31) := ⟨_, rfl⟩
  have HX := hide (show BoxL V w.heap.size [.int .i64 1, .int .i64 nd, .int .i64 lf, .int .i64 ep, .string s, .int .i64 fn, .slice aa al ac, .int .i64 er, .int .i64 va, .int .i64 ve, .slice ma ml mc] by rw [hV]; exact hx1)
  have HY := hide (show BoxL V (w.heap.size + 1) [.int .i64 0, .int .i64 0, .int .i64 0, .int .i64 0, .string ⟨#[]⟩, .int .i64 0, .slice none 0 0, .int .i64 0, .int .i64 0, .int .i64 0, .slice none 0 0] by rw [hV]; exact hx2)
  have HW := hide (show BoxL V (w.heap.size + 1 + 1) [.int .i64 1, .int .i64 0, .int .i64 0, .int .i64 0, .string ⟨#[]⟩, .int .i64 0, .slice none 0 0, .int .i64 0, .int .i64 0, .int .i64 0, .slice none 0 0] by rw [hV]; exact hx3)
  have HB := hide (show Below w.heap.size w V by rw [hV]; exact hx4)
  have HM := hide hM
  have HV := hide hV
  clear hx1 hx2 hx3 hx4 hV hM
  go_enter Try.func16, Try.ntmps16
  go_upto_region 2 with fail
  rw [← HV.out]
  obtain ⟨k0, k1, k2, k3, k4, k5, k6, k7, k8, k9, k10⟩ := HX.out.c11
  obtain ⟨d0, d1, d2, d3, d4, d5, d6, d7, d8, d9, d10⟩ := HW.out.c11
  obtain ⟨f0, f1, f2, f3, f4, f5, f6, f7, f8, f9, f10⟩ := HW.out.f11
  go_upto_region 20 with fail
  have HY2 := hide (box_other (g := w.heap.size + 1 + 1) (o := 2) (v := .int .i64 lf) (box_other (g := w.heap.size + 1 + 1) (o := 1) (v := .int .i64 nd) HY.out (by omega)) (by omega))
  have HB2 := hide (below_put (g := w.heap.size + 1 + 1) (o := 2) (v := .int .i64 lf) (below_put (g := w.heap.size + 1 + 1) (o := 1) (v := .int .i64 nd) HB.out (by omega)) (by omega))
  have HW2 := hide (show BoxL ((V.setCell ⟨w.heap.size + 1 + 1, 1, none⟩ (.int .i64 nd)).setCell ⟨w.heap.size + 1 + 1, 2, none⟩ (.int .i64 lf)) (w.heap.size + 1 + 1) [.int .i64 1, .int .i64 nd, .int .i64 lf, .int .i64 0, .string ⟨#[]⟩, .int .i64 0, .slice none 0 0, .int .i64 0, .int .i64 0, .int .i64 0, .slice none 0 0] from ((HW.out.put 1 (.int .i64 nd)).put 2 (.int .i64 lf)))
  obtain ⟨X, hX⟩ : ∃ X, X = ((V.setCell ⟨w.heap.size + 1 + 1, 1, none⟩ (.int .i64 nd)).setCell ⟨w.heap.size + 1 + 1, 2, none⟩ (.int .i64 lf)) := ⟨_, rfl⟩
  rw [← hX] at HY2 HB2 HW2
  rw [← hX]
  clear hX k0 k1 k2 k3 k4 k5 k6 k7 k8 k9 k10 d0 d1 d2 d3 d4 d5 d6 d7 d8 d9 d10 f0 f1 f2 f3 f4 f5 f6 f7 f8 f9 f10
  obtain ⟨k0, k1, k2, k3, k4, k5, k6, k7, k8, k9, k10⟩ := HW2.out.c11
  obtain ⟨e0, e1, e2, e3, e4, e5, e6, e7, e8, e9, e10⟩ := HY2.out.c11
  obtain ⟨u0, u1, u2, u3, u4, u5, u6, u7, u8, u9, u10⟩ := HY2.out.f11
  go_wp2
  have HX8 := hide (put11_box HY2.out (.int .i64 1) (.int .i64 nd) (.int .i64 lf) (.int .i64 0) (.string ⟨#[]⟩) (.int .i64 0) (.slice none 0 0) (.int .i64 0) (.int .i64 0) (.int .i64 0) (.slice none 0 0))
  have HB8 := hide (put11_below (g := w.heap.size + 1) HB2.out (by omega) (.int .i64 1) (.int .i64 nd) (.int .i64 lf) (.int .i64 0) (.string ⟨#[]⟩) (.int .i64 0) (.slice none 0 0) (.int .i64 0) (.int .i64 0) (.int .i64 0) (.slice none 0 0))
  obtain ⟨Y, hY⟩ : ∃ Y, Y = put11 X (w.heap.size + 1) (.int .i64 1) (.int .i64 nd) (.int .i64 lf) (.int .i64 0) (.string ⟨#[]⟩) (.int .i64 0) (.slice none 0 0) (.int .i64 0) (.int .i64 0) (.int .i64 0) (.slice none 0 0) := ⟨_, rfl⟩
  rw [← hY] at HX8 HB8
  unfold put11 at hY
  rw [← hY]
  clear hY
  obtain ⟨x0, x1, x2, x3, x4, x5, x6, x7, x8, x9, x10⟩ := HX8.out.c11
  refine bodyPost_ret (v := .agg #[.int .i64 1, .int .i64 nd, .int .i64 lf, .int .i64 0, .string ⟨#[]⟩, .int .i64 0, .slice none 0 0, .int .i64 0, .int .i64 0, .int .i64 0, .slice none 0 0]) (by simp [results, Try.results16, go_sem, x0, x1, x2, x3, x4, x5, x6, x7, x8, x9, x10]) rfl ?_
  refine ⟨⟨#[]⟩, (.slice none 0 0), (.slice none 0 0), rfl, ?_, HB8.out⟩
  obtain ⟨h1, h2, h3, h4, h5, h6⟩ := HM.out.below HB8.out
  exact ⟨rfl, (by show (0 : Nat) ≤ 20000; omega), (by show (0 : Nat) ≤ 20000; omega), (by show (0 : Nat) ≤ 20000; omega), RowV.nil _ _, RowV.nil _ _⟩

set_option maxRecDepth 100000 in
set_option maxHeartbeats 8000000 in
theorem rclear_2 (nd lf ep : Int) (id : List Nat) (s : ByteArray) (fn : Int) (args : List Int) (aa : Option Addr) (al ac : Nat) (er va ve : Int) (mem : List (Int × Int)) (ma : Option Addr) (ml mc : Nat) (B : Nat) (w : World) (hM : NM B w ⟨2, nd, lf, ep, id, fn, args, er, va, ve, mem⟩ s (.slice aa al ac) (.slice ma ml mc)) :
    Calls Try.prog 16 #[.agg #[.int .i64 2, .int .i64 nd, .int .i64 lf, .int .i64 ep, .string s, .int .i64 fn, .slice aa al ac, .int .i64 er, .int .i64 va, .int .i64 ve, .slice ma ml mc]] w fun e w' => ∃ s' av' mv', e = .returned (Nv (clearN ⟨2, nd, lf, ep, id, fn, args, er, va, ve, mem⟩) s' av' mv') ∧ NM B w' (clearN ⟨2, nd, lf, ep, id, fn, args, er, va, ve, mem⟩) s' av' mv' ∧ Below w.heap.size w w' := by
  rw [show clearN ⟨2, nd, lf, ep, id, fn, args, er, va, ve, mem⟩ = ⟨2, 0, 0, 0, [], 0, [], 0, 0, ve, mem⟩ by simp [clearN, isKind, hasNode, hasLife, hasEpoch, hasId, hasFunc, hasRes, hasView]]
  obtain ⟨hx1, hx2, hx3, hx4⟩ := box3 w [.int .i64 2, .int .i64 nd, .int .i64 lf, .int .i64 ep, .string s, .int .i64 fn, .slice aa al ac, .int .i64 er, .int .i64 va, .int .i64 ve, .slice ma ml mc] [.int .i64 0, .int .i64 0, .int .i64 0, .int .i64 0, .string ⟨#[]⟩, .int .i64 0, .slice none 0 0, .int .i64 0, .int .i64 0, .int .i64 0, .slice none 0 0] [.int .i64 2, .int .i64 0, .int .i64 0, .int .i64 0, .string ⟨#[]⟩, .int .i64 0, .slice none 0 0, .int .i64 0, .int .i64 0, .int .i64 0, .slice none 0 0] 31 31 31
  obtain ⟨V, hV⟩ : ∃ V, V = ((w.alloc (.cells #[.int .i64 2, .int .i64 nd, .int .i64 lf, .int .i64 ep, .string s, .int .i64 fn, .slice aa al ac, .int .i64 er, .int .i64 va, .int .i64 ve, .slice ma ml mc] 31)).alloc (.cells #[.int .i64 0, .int .i64 0, .int .i64 0, .int .i64 0, .string ⟨#[]⟩, .int .i64 0, .slice none 0 0, .int .i64 0, .int .i64 0, .int .i64 0, .slice none 0 0] 31)).alloc (.cells #[.int .i64 2, .int .i64 0, .int .i64 0, .int .i64 0, .string ⟨#[]⟩, .int .i64 0, .slice none 0 0, .int .i64 0, .int .i64 0, .int .i64 0, .slice none 0 0] 31) := ⟨_, rfl⟩
  have HX := hide (show BoxL V w.heap.size [.int .i64 2, .int .i64 nd, .int .i64 lf, .int .i64 ep, .string s, .int .i64 fn, .slice aa al ac, .int .i64 er, .int .i64 va, .int .i64 ve, .slice ma ml mc] by rw [hV]; exact hx1)
  have HY := hide (show BoxL V (w.heap.size + 1) [.int .i64 0, .int .i64 0, .int .i64 0, .int .i64 0, .string ⟨#[]⟩, .int .i64 0, .slice none 0 0, .int .i64 0, .int .i64 0, .int .i64 0, .slice none 0 0] by rw [hV]; exact hx2)
  have HW := hide (show BoxL V (w.heap.size + 1 + 1) [.int .i64 2, .int .i64 0, .int .i64 0, .int .i64 0, .string ⟨#[]⟩, .int .i64 0, .slice none 0 0, .int .i64 0, .int .i64 0, .int .i64 0, .slice none 0 0] by rw [hV]; exact hx3)
  have HB := hide (show Below w.heap.size w V by rw [hV]; exact hx4)
  have HM := hide hM
  have HV := hide hV
  clear hx1 hx2 hx3 hx4 hV hM
  go_enter Try.func16, Try.ntmps16
  go_upto_region 2 with fail
  rw [← HV.out]
  obtain ⟨k0, k1, k2, k3, k4, k5, k6, k7, k8, k9, k10⟩ := HX.out.c11
  obtain ⟨d0, d1, d2, d3, d4, d5, d6, d7, d8, d9, d10⟩ := HW.out.c11
  obtain ⟨f0, f1, f2, f3, f4, f5, f6, f7, f8, f9, f10⟩ := HW.out.f11
  go_upto_region 20 with fail
  have HY2 := hide (box_other (g := w.heap.size + 1 + 1) (o := 10) (v := .slice ma ml mc) (box_other (g := w.heap.size + 1 + 1) (o := 9) (v := .int .i64 ve) HY.out (by omega)) (by omega))
  have HB2 := hide (below_put (g := w.heap.size + 1 + 1) (o := 10) (v := .slice ma ml mc) (below_put (g := w.heap.size + 1 + 1) (o := 9) (v := .int .i64 ve) HB.out (by omega)) (by omega))
  have HW2 := hide (show BoxL ((V.setCell ⟨w.heap.size + 1 + 1, 9, none⟩ (.int .i64 ve)).setCell ⟨w.heap.size + 1 + 1, 10, none⟩ (.slice ma ml mc)) (w.heap.size + 1 + 1) [.int .i64 2, .int .i64 0, .int .i64 0, .int .i64 0, .string ⟨#[]⟩, .int .i64 0, .slice none 0 0, .int .i64 0, .int .i64 0, .int .i64 ve, .slice ma ml mc] from ((HW.out.put 9 (.int .i64 ve)).put 10 (.slice ma ml mc)))
  obtain ⟨X, hX⟩ : ∃ X, X = ((V.setCell ⟨w.heap.size + 1 + 1, 9, none⟩ (.int .i64 ve)).setCell ⟨w.heap.size + 1 + 1, 10, none⟩ (.slice ma ml mc)) := ⟨_, rfl⟩
  rw [← hX] at HY2 HB2 HW2
  rw [← hX]
  clear hX k0 k1 k2 k3 k4 k5 k6 k7 k8 k9 k10 d0 d1 d2 d3 d4 d5 d6 d7 d8 d9 d10 f0 f1 f2 f3 f4 f5 f6 f7 f8 f9 f10
  obtain ⟨k0, k1, k2, k3, k4, k5, k6, k7, k8, k9, k10⟩ := HW2.out.c11
  obtain ⟨e0, e1, e2, e3, e4, e5, e6, e7, e8, e9, e10⟩ := HY2.out.c11
  obtain ⟨u0, u1, u2, u3, u4, u5, u6, u7, u8, u9, u10⟩ := HY2.out.f11
  go_wp2
  have HX8 := hide (put11_box HY2.out (.int .i64 2) (.int .i64 0) (.int .i64 0) (.int .i64 0) (.string ⟨#[]⟩) (.int .i64 0) (.slice none 0 0) (.int .i64 0) (.int .i64 0) (.int .i64 ve) (.slice ma ml mc))
  have HB8 := hide (put11_below (g := w.heap.size + 1) HB2.out (by omega) (.int .i64 2) (.int .i64 0) (.int .i64 0) (.int .i64 0) (.string ⟨#[]⟩) (.int .i64 0) (.slice none 0 0) (.int .i64 0) (.int .i64 0) (.int .i64 ve) (.slice ma ml mc))
  obtain ⟨Y, hY⟩ : ∃ Y, Y = put11 X (w.heap.size + 1) (.int .i64 2) (.int .i64 0) (.int .i64 0) (.int .i64 0) (.string ⟨#[]⟩) (.int .i64 0) (.slice none 0 0) (.int .i64 0) (.int .i64 0) (.int .i64 ve) (.slice ma ml mc) := ⟨_, rfl⟩
  rw [← hY] at HX8 HB8
  unfold put11 at hY
  rw [← hY]
  clear hY
  obtain ⟨x0, x1, x2, x3, x4, x5, x6, x7, x8, x9, x10⟩ := HX8.out.c11
  refine bodyPost_ret (v := .agg #[.int .i64 2, .int .i64 0, .int .i64 0, .int .i64 0, .string ⟨#[]⟩, .int .i64 0, .slice none 0 0, .int .i64 0, .int .i64 0, .int .i64 ve, .slice ma ml mc]) (by simp [results, Try.results16, go_sem, x0, x1, x2, x3, x4, x5, x6, x7, x8, x9, x10]) rfl ?_
  refine ⟨⟨#[]⟩, (.slice none 0 0), (.slice ma ml mc), rfl, ?_, HB8.out⟩
  obtain ⟨h1, h2, h3, h4, h5, h6⟩ := HM.out.below HB8.out
  exact ⟨rfl, (by show (0 : Nat) ≤ 20000; omega), (by show (0 : Nat) ≤ 20000; omega), h4, RowV.nil _ _, h6⟩

set_option maxRecDepth 100000 in
set_option maxHeartbeats 8000000 in
theorem rclear_3 (nd lf ep : Int) (id : List Nat) (s : ByteArray) (fn : Int) (args : List Int) (aa : Option Addr) (al ac : Nat) (er va ve : Int) (mem : List (Int × Int)) (ma : Option Addr) (ml mc : Nat) (B : Nat) (w : World) (hM : NM B w ⟨3, nd, lf, ep, id, fn, args, er, va, ve, mem⟩ s (.slice aa al ac) (.slice ma ml mc)) :
    Calls Try.prog 16 #[.agg #[.int .i64 3, .int .i64 nd, .int .i64 lf, .int .i64 ep, .string s, .int .i64 fn, .slice aa al ac, .int .i64 er, .int .i64 va, .int .i64 ve, .slice ma ml mc]] w fun e w' => ∃ s' av' mv', e = .returned (Nv (clearN ⟨3, nd, lf, ep, id, fn, args, er, va, ve, mem⟩) s' av' mv') ∧ NM B w' (clearN ⟨3, nd, lf, ep, id, fn, args, er, va, ve, mem⟩) s' av' mv' ∧ Below w.heap.size w w' := by
  rw [show clearN ⟨3, nd, lf, ep, id, fn, args, er, va, ve, mem⟩ = ⟨3, nd, 0, ep, [], 0, [], 0, 0, 0, []⟩ by simp [clearN, isKind, hasNode, hasLife, hasEpoch, hasId, hasFunc, hasRes, hasView]]
  obtain ⟨hx1, hx2, hx3, hx4⟩ := box3 w [.int .i64 3, .int .i64 nd, .int .i64 lf, .int .i64 ep, .string s, .int .i64 fn, .slice aa al ac, .int .i64 er, .int .i64 va, .int .i64 ve, .slice ma ml mc] [.int .i64 0, .int .i64 0, .int .i64 0, .int .i64 0, .string ⟨#[]⟩, .int .i64 0, .slice none 0 0, .int .i64 0, .int .i64 0, .int .i64 0, .slice none 0 0] [.int .i64 3, .int .i64 0, .int .i64 0, .int .i64 0, .string ⟨#[]⟩, .int .i64 0, .slice none 0 0, .int .i64 0, .int .i64 0, .int .i64 0, .slice none 0 0] 31 31 31
  obtain ⟨V, hV⟩ : ∃ V, V = ((w.alloc (.cells #[.int .i64 3, .int .i64 nd, .int .i64 lf, .int .i64 ep, .string s, .int .i64 fn, .slice aa al ac, .int .i64 er, .int .i64 va, .int .i64 ve, .slice ma ml mc] 31)).alloc (.cells #[.int .i64 0, .int .i64 0, .int .i64 0, .int .i64 0, .string ⟨#[]⟩, .int .i64 0, .slice none 0 0, .int .i64 0, .int .i64 0, .int .i64 0, .slice none 0 0] 31)).alloc (.cells #[.int .i64 3, .int .i64 0, .int .i64 0, .int .i64 0, .string ⟨#[]⟩, .int .i64 0, .slice none 0 0, .int .i64 0, .int .i64 0, .int .i64 0, .slice none 0 0] 31) := ⟨_, rfl⟩
  have HX := hide (show BoxL V w.heap.size [.int .i64 3, .int .i64 nd, .int .i64 lf, .int .i64 ep, .string s, .int .i64 fn, .slice aa al ac, .int .i64 er, .int .i64 va, .int .i64 ve, .slice ma ml mc] by rw [hV]; exact hx1)
  have HY := hide (show BoxL V (w.heap.size + 1) [.int .i64 0, .int .i64 0, .int .i64 0, .int .i64 0, .string ⟨#[]⟩, .int .i64 0, .slice none 0 0, .int .i64 0, .int .i64 0, .int .i64 0, .slice none 0 0] by rw [hV]; exact hx2)
  have HW := hide (show BoxL V (w.heap.size + 1 + 1) [.int .i64 3, .int .i64 0, .int .i64 0, .int .i64 0, .string ⟨#[]⟩, .int .i64 0, .slice none 0 0, .int .i64 0, .int .i64 0, .int .i64 0, .slice none 0 0] by rw [hV]; exact hx3)
  have HB := hide (show Below w.heap.size w V by rw [hV]; exact hx4)
  have HM := hide hM
  have HV := hide hV
  clear hx1 hx2 hx3 hx4 hV hM
  go_enter Try.func16, Try.ntmps16
  go_upto_region 2 with fail
  rw [← HV.out]
  obtain ⟨k0, k1, k2, k3, k4, k5, k6, k7, k8, k9, k10⟩ := HX.out.c11
  obtain ⟨d0, d1, d2, d3, d4, d5, d6, d7, d8, d9, d10⟩ := HW.out.c11
  obtain ⟨f0, f1, f2, f3, f4, f5, f6, f7, f8, f9, f10⟩ := HW.out.f11
  go_upto_region 20 with fail
  have HY2 := hide (box_other (g := w.heap.size + 1 + 1) (o := 3) (v := .int .i64 ep) (box_other (g := w.heap.size + 1 + 1) (o := 1) (v := .int .i64 nd) HY.out (by omega)) (by omega))
  have HB2 := hide (below_put (g := w.heap.size + 1 + 1) (o := 3) (v := .int .i64 ep) (below_put (g := w.heap.size + 1 + 1) (o := 1) (v := .int .i64 nd) HB.out (by omega)) (by omega))
  have HW2 := hide (show BoxL ((V.setCell ⟨w.heap.size + 1 + 1, 1, none⟩ (.int .i64 nd)).setCell ⟨w.heap.size + 1 + 1, 3, none⟩ (.int .i64 ep)) (w.heap.size + 1 + 1) [.int .i64 3, .int .i64 nd, .int .i64 0, .int .i64 ep, .string ⟨#[]⟩, .int .i64 0, .slice none 0 0, .int .i64 0, .int .i64 0, .int .i64 0, .slice none 0 0] from ((HW.out.put 1 (.int .i64 nd)).put 3 (.int .i64 ep)))
  obtain ⟨X, hX⟩ : ∃ X, X = ((V.setCell ⟨w.heap.size + 1 + 1, 1, none⟩ (.int .i64 nd)).setCell ⟨w.heap.size + 1 + 1, 3, none⟩ (.int .i64 ep)) := ⟨_, rfl⟩
  rw [← hX] at HY2 HB2 HW2
  rw [← hX]
  clear hX k0 k1 k2 k3 k4 k5 k6 k7 k8 k9 k10 d0 d1 d2 d3 d4 d5 d6 d7 d8 d9 d10 f0 f1 f2 f3 f4 f5 f6 f7 f8 f9 f10
  obtain ⟨k0, k1, k2, k3, k4, k5, k6, k7, k8, k9, k10⟩ := HW2.out.c11
  obtain ⟨e0, e1, e2, e3, e4, e5, e6, e7, e8, e9, e10⟩ := HY2.out.c11
  obtain ⟨u0, u1, u2, u3, u4, u5, u6, u7, u8, u9, u10⟩ := HY2.out.f11
  go_wp2
  have HX8 := hide (put11_box HY2.out (.int .i64 3) (.int .i64 nd) (.int .i64 0) (.int .i64 ep) (.string ⟨#[]⟩) (.int .i64 0) (.slice none 0 0) (.int .i64 0) (.int .i64 0) (.int .i64 0) (.slice none 0 0))
  have HB8 := hide (put11_below (g := w.heap.size + 1) HB2.out (by omega) (.int .i64 3) (.int .i64 nd) (.int .i64 0) (.int .i64 ep) (.string ⟨#[]⟩) (.int .i64 0) (.slice none 0 0) (.int .i64 0) (.int .i64 0) (.int .i64 0) (.slice none 0 0))
  obtain ⟨Y, hY⟩ : ∃ Y, Y = put11 X (w.heap.size + 1) (.int .i64 3) (.int .i64 nd) (.int .i64 0) (.int .i64 ep) (.string ⟨#[]⟩) (.int .i64 0) (.slice none 0 0) (.int .i64 0) (.int .i64 0) (.int .i64 0) (.slice none 0 0) := ⟨_, rfl⟩
  rw [← hY] at HX8 HB8
  unfold put11 at hY
  rw [← hY]
  clear hY
  obtain ⟨x0, x1, x2, x3, x4, x5, x6, x7, x8, x9, x10⟩ := HX8.out.c11
  refine bodyPost_ret (v := .agg #[.int .i64 3, .int .i64 nd, .int .i64 0, .int .i64 ep, .string ⟨#[]⟩, .int .i64 0, .slice none 0 0, .int .i64 0, .int .i64 0, .int .i64 0, .slice none 0 0]) (by simp [results, Try.results16, go_sem, x0, x1, x2, x3, x4, x5, x6, x7, x8, x9, x10]) rfl ?_
  refine ⟨⟨#[]⟩, (.slice none 0 0), (.slice none 0 0), rfl, ?_, HB8.out⟩
  obtain ⟨h1, h2, h3, h4, h5, h6⟩ := HM.out.below HB8.out
  exact ⟨rfl, (by show (0 : Nat) ≤ 20000; omega), (by show (0 : Nat) ≤ 20000; omega), (by show (0 : Nat) ≤ 20000; omega), RowV.nil _ _, RowV.nil _ _⟩

set_option maxRecDepth 100000 in
set_option maxHeartbeats 8000000 in
theorem rclear_4 (nd lf ep : Int) (id : List Nat) (s : ByteArray) (fn : Int) (args : List Int) (aa : Option Addr) (al ac : Nat) (er va ve : Int) (mem : List (Int × Int)) (ma : Option Addr) (ml mc : Nat) (B : Nat) (w : World) (hM : NM B w ⟨4, nd, lf, ep, id, fn, args, er, va, ve, mem⟩ s (.slice aa al ac) (.slice ma ml mc)) :
    Calls Try.prog 16 #[.agg #[.int .i64 4, .int .i64 nd, .int .i64 lf, .int .i64 ep, .string s, .int .i64 fn, .slice aa al ac, .int .i64 er, .int .i64 va, .int .i64 ve, .slice ma ml mc]] w fun e w' => ∃ s' av' mv', e = .returned (Nv (clearN ⟨4, nd, lf, ep, id, fn, args, er, va, ve, mem⟩) s' av' mv') ∧ NM B w' (clearN ⟨4, nd, lf, ep, id, fn, args, er, va, ve, mem⟩) s' av' mv' ∧ Below w.heap.size w w' := by
  rw [show clearN ⟨4, nd, lf, ep, id, fn, args, er, va, ve, mem⟩ = ⟨4, 0, lf, ep, id, fn, args, 0, 0, 0, []⟩ by simp [clearN, isKind, hasNode, hasLife, hasEpoch, hasId, hasFunc, hasRes, hasView]]
  obtain ⟨hx1, hx2, hx3, hx4⟩ := box3 w [.int .i64 4, .int .i64 nd, .int .i64 lf, .int .i64 ep, .string s, .int .i64 fn, .slice aa al ac, .int .i64 er, .int .i64 va, .int .i64 ve, .slice ma ml mc] [.int .i64 0, .int .i64 0, .int .i64 0, .int .i64 0, .string ⟨#[]⟩, .int .i64 0, .slice none 0 0, .int .i64 0, .int .i64 0, .int .i64 0, .slice none 0 0] [.int .i64 4, .int .i64 0, .int .i64 0, .int .i64 0, .string ⟨#[]⟩, .int .i64 0, .slice none 0 0, .int .i64 0, .int .i64 0, .int .i64 0, .slice none 0 0] 31 31 31
  obtain ⟨V, hV⟩ : ∃ V, V = ((w.alloc (.cells #[.int .i64 4, .int .i64 nd, .int .i64 lf, .int .i64 ep, .string s, .int .i64 fn, .slice aa al ac, .int .i64 er, .int .i64 va, .int .i64 ve, .slice ma ml mc] 31)).alloc (.cells #[.int .i64 0, .int .i64 0, .int .i64 0, .int .i64 0, .string ⟨#[]⟩, .int .i64 0, .slice none 0 0, .int .i64 0, .int .i64 0, .int .i64 0, .slice none 0 0] 31)).alloc (.cells #[.int .i64 4, .int .i64 0, .int .i64 0, .int .i64 0, .string ⟨#[]⟩, .int .i64 0, .slice none 0 0, .int .i64 0, .int .i64 0, .int .i64 0, .slice none 0 0] 31) := ⟨_, rfl⟩
  have HX := hide (show BoxL V w.heap.size [.int .i64 4, .int .i64 nd, .int .i64 lf, .int .i64 ep, .string s, .int .i64 fn, .slice aa al ac, .int .i64 er, .int .i64 va, .int .i64 ve, .slice ma ml mc] by rw [hV]; exact hx1)
  have HY := hide (show BoxL V (w.heap.size + 1) [.int .i64 0, .int .i64 0, .int .i64 0, .int .i64 0, .string ⟨#[]⟩, .int .i64 0, .slice none 0 0, .int .i64 0, .int .i64 0, .int .i64 0, .slice none 0 0] by rw [hV]; exact hx2)
  have HW := hide (show BoxL V (w.heap.size + 1 + 1) [.int .i64 4, .int .i64 0, .int .i64 0, .int .i64 0, .string ⟨#[]⟩, .int .i64 0, .slice none 0 0, .int .i64 0, .int .i64 0, .int .i64 0, .slice none 0 0] by rw [hV]; exact hx3)
  have HB := hide (show Below w.heap.size w V by rw [hV]; exact hx4)
  have HM := hide hM
  have HV := hide hV
  clear hx1 hx2 hx3 hx4 hV hM
  go_enter Try.func16, Try.ntmps16
  go_upto_region 2 with fail
  rw [← HV.out]
  obtain ⟨k0, k1, k2, k3, k4, k5, k6, k7, k8, k9, k10⟩ := HX.out.c11
  obtain ⟨d0, d1, d2, d3, d4, d5, d6, d7, d8, d9, d10⟩ := HW.out.c11
  obtain ⟨f0, f1, f2, f3, f4, f5, f6, f7, f8, f9, f10⟩ := HW.out.f11
  go_upto_region 20 with fail
  have HY2 := hide (box_other (g := w.heap.size + 1 + 1) (o := 6) (v := .slice aa al ac) (box_other (g := w.heap.size + 1 + 1) (o := 5) (v := .int .i64 fn) (box_other (g := w.heap.size + 1 + 1) (o := 4) (v := .string s) (box_other (g := w.heap.size + 1 + 1) (o := 3) (v := .int .i64 ep) (box_other (g := w.heap.size + 1 + 1) (o := 2) (v := .int .i64 lf) HY.out (by omega)) (by omega)) (by omega)) (by omega)) (by omega))
  have HB2 := hide (below_put (g := w.heap.size + 1 + 1) (o := 6) (v := .slice aa al ac) (below_put (g := w.heap.size + 1 + 1) (o := 5) (v := .int .i64 fn) (below_put (g := w.heap.size + 1 + 1) (o := 4) (v := .string s) (below_put (g := w.heap.size + 1 + 1) (o := 3) (v := .int .i64 ep) (below_put (g := w.heap.size + 1 + 1) (o := 2) (v := .int .i64 lf) HB.out (by omega)) (by omega)) (by omega)) (by omega)) (by omega))
  have HW2 := hide (show BoxL (((((V.setCell ⟨w.heap.size + 1 + 1, 2, none⟩ (.int .i64 lf)).setCell ⟨w.heap.size + 1 + 1, 3, none⟩ (.int .i64 ep)).setCell ⟨w.heap.size + 1 + 1, 4, none⟩ (.string s)).setCell ⟨w.heap.size + 1 + 1, 5, none⟩ (.int .i64 fn)).setCell ⟨w.heap.size + 1 + 1, 6, none⟩ (.slice aa al ac)) (w.heap.size + 1 + 1) [.int .i64 4, .int .i64 0, .int .i64 lf, .int .i64 ep, .string s, .int .i64 fn, .slice aa al ac, .int .i64 0, .int .i64 0, .int .i64 0, .slice none 0 0] from (((((HW.out.put 2 (.int .i64 lf)).put 3 (.int .i64 ep)).put 4 (.string s)).put 5 (.int .i64 fn)).put 6 (.slice aa al ac)))
  obtain ⟨X, hX⟩ : ∃ X, X = (((((V.setCell ⟨w.heap.size + 1 + 1, 2, none⟩ (.int .i64 lf)).setCell ⟨w.heap.size + 1 + 1, 3, none⟩ (.int .i64 ep)).setCell ⟨w.heap.size + 1 + 1, 4, none⟩ (.string s)).setCell ⟨w.heap.size + 1 + 1, 5, none⟩ (.int .i64 fn)).setCell ⟨w.heap.size + 1 + 1, 6, none⟩ (.slice aa al ac)) := ⟨_, rfl⟩
  rw [← hX] at HY2 HB2 HW2
  rw [← hX]
  clear hX k0 k1 k2 k3 k4 k5 k6 k7 k8 k9 k10 d0 d1 d2 d3 d4 d5 d6 d7 d8 d9 d10 f0 f1 f2 f3 f4 f5 f6 f7 f8 f9 f10
  obtain ⟨k0, k1, k2, k3, k4, k5, k6, k7, k8, k9, k10⟩ := HW2.out.c11
  obtain ⟨e0, e1, e2, e3, e4, e5, e6, e7, e8, e9, e10⟩ := HY2.out.c11
  obtain ⟨u0, u1, u2, u3, u4, u5, u6, u7, u8, u9, u10⟩ := HY2.out.f11
  go_wp2
  have HX8 := hide (put11_box HY2.out (.int .i64 4) (.int .i64 0) (.int .i64 lf) (.int .i64 ep) (.string s) (.int .i64 fn) (.slice aa al ac) (.int .i64 0) (.int .i64 0) (.int .i64 0) (.slice none 0 0))
  have HB8 := hide (put11_below (g := w.heap.size + 1) HB2.out (by omega) (.int .i64 4) (.int .i64 0) (.int .i64 lf) (.int .i64 ep) (.string s) (.int .i64 fn) (.slice aa al ac) (.int .i64 0) (.int .i64 0) (.int .i64 0) (.slice none 0 0))
  obtain ⟨Y, hY⟩ : ∃ Y, Y = put11 X (w.heap.size + 1) (.int .i64 4) (.int .i64 0) (.int .i64 lf) (.int .i64 ep) (.string s) (.int .i64 fn) (.slice aa al ac) (.int .i64 0) (.int .i64 0) (.int .i64 0) (.slice none 0 0) := ⟨_, rfl⟩
  rw [← hY] at HX8 HB8
  unfold put11 at hY
  rw [← hY]
  clear hY
  obtain ⟨x0, x1, x2, x3, x4, x5, x6, x7, x8, x9, x10⟩ := HX8.out.c11
  refine bodyPost_ret (v := .agg #[.int .i64 4, .int .i64 0, .int .i64 lf, .int .i64 ep, .string s, .int .i64 fn, .slice aa al ac, .int .i64 0, .int .i64 0, .int .i64 0, .slice none 0 0]) (by simp [results, Try.results16, go_sem, x0, x1, x2, x3, x4, x5, x6, x7, x8, x9, x10]) rfl ?_
  refine ⟨s, (.slice aa al ac), (.slice none 0 0), rfl, ?_, HB8.out⟩
  obtain ⟨h1, h2, h3, h4, h5, h6⟩ := HM.out.below HB8.out
  exact ⟨h1, h2, h3, (by show (0 : Nat) ≤ 20000; omega), h5, RowV.nil _ _⟩

set_option maxRecDepth 100000 in
set_option maxHeartbeats 8000000 in
theorem rclear_5 (nd lf ep : Int) (id : List Nat) (s : ByteArray) (fn : Int) (args : List Int) (aa : Option Addr) (al ac : Nat) (er va ve : Int) (mem : List (Int × Int)) (ma : Option Addr) (ml mc : Nat) (B : Nat) (w : World) (hM : NM B w ⟨5, nd, lf, ep, id, fn, args, er, va, ve, mem⟩ s (.slice aa al ac) (.slice ma ml mc)) :
    Calls Try.prog 16 #[.agg #[.int .i64 5, .int .i64 nd, .int .i64 lf, .int .i64 ep, .string s, .int .i64 fn, .slice aa al ac, .int .i64 er, .int .i64 va, .int .i64 ve, .slice ma ml mc]] w fun e w' => ∃ s' av' mv', e = .returned (Nv (clearN ⟨5, nd, lf, ep, id, fn, args, er, va, ve, mem⟩) s' av' mv') ∧ NM B w' (clearN ⟨5, nd, lf, ep, id, fn, args, er, va, ve, mem⟩) s' av' mv' ∧ Below w.heap.size w w' := by
  rw [show clearN ⟨5, nd, lf, ep, id, fn, args, er, va, ve, mem⟩ = ⟨5, nd, lf, ep, id, 0, [], 0, 0, 0, []⟩ by simp [clearN, isKind, hasNode, hasLife, hasEpoch, hasId, hasFunc, hasRes, hasView]]
  obtain ⟨hx1, hx2, hx3, hx4⟩ := box3 w [.int .i64 5, .int .i64 nd, .int .i64 lf, .int .i64 ep, .string s, .int .i64 fn, .slice aa al ac, .int .i64 er, .int .i64 va, .int .i64 ve, .slice ma ml mc] [.int .i64 0, .int .i64 0, .int .i64 0, .int .i64 0, .string ⟨#[]⟩, .int .i64 0, .slice none 0 0, .int .i64 0, .int .i64 0, .int .i64 0, .slice none 0 0] [.int .i64 5, .int .i64 0, .int .i64 0, .int .i64 0, .string ⟨#[]⟩, .int .i64 0, .slice none 0 0, .int .i64 0, .int .i64 0, .int .i64 0, .slice none 0 0] 31 31 31
  obtain ⟨V, hV⟩ : ∃ V, V = ((w.alloc (.cells #[.int .i64 5, .int .i64 nd, .int .i64 lf, .int .i64 ep, .string s, .int .i64 fn, .slice aa al ac, .int .i64 er, .int .i64 va, .int .i64 ve, .slice ma ml mc] 31)).alloc (.cells #[.int .i64 0, .int .i64 0, .int .i64 0, .int .i64 0, .string ⟨#[]⟩, .int .i64 0, .slice none 0 0, .int .i64 0, .int .i64 0, .int .i64 0, .slice none 0 0] 31)).alloc (.cells #[.int .i64 5, .int .i64 0, .int .i64 0, .int .i64 0, .string ⟨#[]⟩, .int .i64 0, .slice none 0 0, .int .i64 0, .int .i64 0, .int .i64 0, .slice none 0 0] 31) := ⟨_, rfl⟩
  have HX := hide (show BoxL V w.heap.size [.int .i64 5, .int .i64 nd, .int .i64 lf, .int .i64 ep, .string s, .int .i64 fn, .slice aa al ac, .int .i64 er, .int .i64 va, .int .i64 ve, .slice ma ml mc] by rw [hV]; exact hx1)
  have HY := hide (show BoxL V (w.heap.size + 1) [.int .i64 0, .int .i64 0, .int .i64 0, .int .i64 0, .string ⟨#[]⟩, .int .i64 0, .slice none 0 0, .int .i64 0, .int .i64 0, .int .i64 0, .slice none 0 0] by rw [hV]; exact hx2)
  have HW := hide (show BoxL V (w.heap.size + 1 + 1) [.int .i64 5, .int .i64 0, .int .i64 0, .int .i64 0, .string ⟨#[]⟩, .int .i64 0, .slice none 0 0, .int .i64 0, .int .i64 0, .int .i64 0, .slice none 0 0] by rw [hV]; exact hx3)
  have HB := hide (show Below w.heap.size w V by rw [hV]; exact hx4)
  have HM := hide hM
  have HV := hide hV
  clear hx1 hx2 hx3 hx4 hV hM
  go_enter Try.func16, Try.ntmps16
  go_upto_region 2 with fail
  rw [← HV.out]
  obtain ⟨k0, k1, k2, k3, k4, k5, k6, k7, k8, k9, k10⟩ := HX.out.c11
  obtain ⟨d0, d1, d2, d3, d4, d5, d6, d7, d8, d9, d10⟩ := HW.out.c11
  obtain ⟨f0, f1, f2, f3, f4, f5, f6, f7, f8, f9, f10⟩ := HW.out.f11
  go_upto_region 20 with fail
  have HY2 := hide (box_other (g := w.heap.size + 1 + 1) (o := 4) (v := .string s) (box_other (g := w.heap.size + 1 + 1) (o := 3) (v := .int .i64 ep) (box_other (g := w.heap.size + 1 + 1) (o := 2) (v := .int .i64 lf) (box_other (g := w.heap.size + 1 + 1) (o := 1) (v := .int .i64 nd) HY.out (by omega)) (by omega)) (by omega)) (by omega))
  have HB2 := hide (below_put (g := w.heap.size + 1 + 1) (o := 4) (v := .string s) (below_put (g := w.heap.size + 1 + 1) (o := 3) (v := .int .i64 ep) (below_put (g := w.heap.size + 1 + 1) (o := 2) (v := .int .i64 lf) (below_put (g := w.heap.size + 1 + 1) (o := 1) (v := .int .i64 nd) HB.out (by omega)) (by omega)) (by omega)) (by omega))
  have HW2 := hide (show BoxL ((((V.setCell ⟨w.heap.size + 1 + 1, 1, none⟩ (.int .i64 nd)).setCell ⟨w.heap.size + 1 + 1, 2, none⟩ (.int .i64 lf)).setCell ⟨w.heap.size + 1 + 1, 3, none⟩ (.int .i64 ep)).setCell ⟨w.heap.size + 1 + 1, 4, none⟩ (.string s)) (w.heap.size + 1 + 1) [.int .i64 5, .int .i64 nd, .int .i64 lf, .int .i64 ep, .string s, .int .i64 0, .slice none 0 0, .int .i64 0, .int .i64 0, .int .i64 0, .slice none 0 0] from ((((HW.out.put 1 (.int .i64 nd)).put 2 (.int .i64 lf)).put 3 (.int .i64 ep)).put 4 (.string s)))
  obtain ⟨X, hX⟩ : ∃ X, X = ((((V.setCell ⟨w.heap.size + 1 + 1, 1, none⟩ (.int .i64 nd)).setCell ⟨w.heap.size + 1 + 1, 2, none⟩ (.int .i64 lf)).setCell ⟨w.heap.size + 1 + 1, 3, none⟩ (.int .i64 ep)).setCell ⟨w.heap.size + 1 + 1, 4, none⟩ (.string s)) := ⟨_, rfl⟩
  rw [← hX] at HY2 HB2 HW2
  rw [← hX]
  clear hX k0 k1 k2 k3 k4 k5 k6 k7 k8 k9 k10 d0 d1 d2 d3 d4 d5 d6 d7 d8 d9 d10 f0 f1 f2 f3 f4 f5 f6 f7 f8 f9 f10
  obtain ⟨k0, k1, k2, k3, k4, k5, k6, k7, k8, k9, k10⟩ := HW2.out.c11
  obtain ⟨e0, e1, e2, e3, e4, e5, e6, e7, e8, e9, e10⟩ := HY2.out.c11
  obtain ⟨u0, u1, u2, u3, u4, u5, u6, u7, u8, u9, u10⟩ := HY2.out.f11
  go_wp2
  have HX8 := hide (put11_box HY2.out (.int .i64 5) (.int .i64 nd) (.int .i64 lf) (.int .i64 ep) (.string s) (.int .i64 0) (.slice none 0 0) (.int .i64 0) (.int .i64 0) (.int .i64 0) (.slice none 0 0))
  have HB8 := hide (put11_below (g := w.heap.size + 1) HB2.out (by omega) (.int .i64 5) (.int .i64 nd) (.int .i64 lf) (.int .i64 ep) (.string s) (.int .i64 0) (.slice none 0 0) (.int .i64 0) (.int .i64 0) (.int .i64 0) (.slice none 0 0))
  obtain ⟨Y, hY⟩ : ∃ Y, Y = put11 X (w.heap.size + 1) (.int .i64 5) (.int .i64 nd) (.int .i64 lf) (.int .i64 ep) (.string s) (.int .i64 0) (.slice none 0 0) (.int .i64 0) (.int .i64 0) (.int .i64 0) (.slice none 0 0) := ⟨_, rfl⟩
  rw [← hY] at HX8 HB8
  unfold put11 at hY
  rw [← hY]
  clear hY
  obtain ⟨x0, x1, x2, x3, x4, x5, x6, x7, x8, x9, x10⟩ := HX8.out.c11
  refine bodyPost_ret (v := .agg #[.int .i64 5, .int .i64 nd, .int .i64 lf, .int .i64 ep, .string s, .int .i64 0, .slice none 0 0, .int .i64 0, .int .i64 0, .int .i64 0, .slice none 0 0]) (by simp [results, Try.results16, go_sem, x0, x1, x2, x3, x4, x5, x6, x7, x8, x9, x10]) rfl ?_
  refine ⟨s, (.slice none 0 0), (.slice none 0 0), rfl, ?_, HB8.out⟩
  obtain ⟨h1, h2, h3, h4, h5, h6⟩ := HM.out.below HB8.out
  exact ⟨h1, h2, (by show (0 : Nat) ≤ 20000; omega), (by show (0 : Nat) ≤ 20000; omega), RowV.nil _ _, RowV.nil _ _⟩

set_option maxRecDepth 100000 in
set_option maxHeartbeats 8000000 in
theorem rclear_6 (nd lf ep : Int) (id : List Nat) (s : ByteArray) (fn : Int) (args : List Int) (aa : Option Addr) (al ac : Nat) (er va ve : Int) (mem : List (Int × Int)) (ma : Option Addr) (ml mc : Nat) (B : Nat) (w : World) (hM : NM B w ⟨6, nd, lf, ep, id, fn, args, er, va, ve, mem⟩ s (.slice aa al ac) (.slice ma ml mc)) :
    Calls Try.prog 16 #[.agg #[.int .i64 6, .int .i64 nd, .int .i64 lf, .int .i64 ep, .string s, .int .i64 fn, .slice aa al ac, .int .i64 er, .int .i64 va, .int .i64 ve, .slice ma ml mc]] w fun e w' => ∃ s' av' mv', e = .returned (Nv (clearN ⟨6, nd, lf, ep, id, fn, args, er, va, ve, mem⟩) s' av' mv') ∧ NM B w' (clearN ⟨6, nd, lf, ep, id, fn, args, er, va, ve, mem⟩) s' av' mv' ∧ Below w.heap.size w w' := by
  rw [show clearN ⟨6, nd, lf, ep, id, fn, args, er, va, ve, mem⟩ = ⟨6, nd, lf, ep, id, 0, [], 0, 0, 0, []⟩ by simp [clearN, isKind, hasNode, hasLife, hasEpoch, hasId, hasFunc, hasRes, hasView]]
  obtain ⟨hx1, hx2, hx3, hx4⟩ := box3 w [.int .i64 6, .int .i64 nd, .int .i64 lf, .int .i64 ep, .string s, .int .i64 fn, .slice aa al ac, .int .i64 er, .int .i64 va, .int .i64 ve, .slice ma ml mc] [.int .i64 0, .int .i64 0, .int .i64 0, .int .i64 0, .string ⟨#[]⟩, .int .i64 0, .slice none 0 0, .int .i64 0, .int .i64 0, .int .i64 0, .slice none 0 0] [.int .i64 6, .int .i64 0, .int .i64 0, .int .i64 0, .string ⟨#[]⟩, .int .i64 0, .slice none 0 0, .int .i64 0, .int .i64 0, .int .i64 0, .slice none 0 0] 31 31 31
  obtain ⟨V, hV⟩ : ∃ V, V = ((w.alloc (.cells #[.int .i64 6, .int .i64 nd, .int .i64 lf, .int .i64 ep, .string s, .int .i64 fn, .slice aa al ac, .int .i64 er, .int .i64 va, .int .i64 ve, .slice ma ml mc] 31)).alloc (.cells #[.int .i64 0, .int .i64 0, .int .i64 0, .int .i64 0, .string ⟨#[]⟩, .int .i64 0, .slice none 0 0, .int .i64 0, .int .i64 0, .int .i64 0, .slice none 0 0] 31)).alloc (.cells #[.int .i64 6, .int .i64 0, .int .i64 0, .int .i64 0, .string ⟨#[]⟩, .int .i64 0, .slice none 0 0, .int .i64 0, .int .i64 0, .int .i64 0, .slice none 0 0] 31) := ⟨_, rfl⟩
  have HX := hide (show BoxL V w.heap.size [.int .i64 6, .int .i64 nd, .int .i64 lf, .int .i64 ep, .string s, .int .i64 fn, .slice aa al ac, .int .i64 er, .int .i64 va, .int .i64 ve, .slice ma ml mc] by rw [hV]; exact hx1)
  have HY := hide (show BoxL V (w.heap.size + 1) [.int .i64 0, .int .i64 0, .int .i64 0, .int .i64 0, .string ⟨#[]⟩, .int .i64 0, .slice none 0 0, .int .i64 0, .int .i64 0, .int .i64 0, .slice none 0 0] by rw [hV]; exact hx2)
  have HW := hide (show BoxL V (w.heap.size + 1 + 1) [.int .i64 6, .int .i64 0, .int .i64 0, .int .i64 0, .string ⟨#[]⟩, .int .i64 0, .slice none 0 0, .int .i64 0, .int .i64 0, .int .i64 0, .slice none 0 0] by rw [hV]; exact hx3)
  have HB := hide (show Below w.heap.size w V by rw [hV]; exact hx4)
  have HM := hide hM
  have HV := hide hV
  clear hx1 hx2 hx3 hx4 hV hM
  go_enter Try.func16, Try.ntmps16
  go_upto_region 2 with fail
  rw [← HV.out]
  obtain ⟨k0, k1, k2, k3, k4, k5, k6, k7, k8, k9, k10⟩ := HX.out.c11
  obtain ⟨d0, d1, d2, d3, d4, d5, d6, d7, d8, d9, d10⟩ := HW.out.c11
  obtain ⟨f0, f1, f2, f3, f4, f5, f6, f7, f8, f9, f10⟩ := HW.out.f11
  go_upto_region 20 with fail
  have HY2 := hide (box_other (g := w.heap.size + 1 + 1) (o := 4) (v := .string s) (box_other (g := w.heap.size + 1 + 1) (o := 3) (v := .int .i64 ep) (box_other (g := w.heap.size + 1 + 1) (o := 2) (v := .int .i64 lf) (box_other (g := w.heap.size + 1 + 1) (o := 1) (v := .int .i64 nd) HY.out (by omega)) (by omega)) (by omega)) (by omega))
  have HB2 := hide (below_put (g := w.heap.size + 1 + 1) (o := 4) (v := .string s) (below_put (g := w.heap.size + 1 + 1) (o := 3) (v := .int .i64 ep) (below_put (g := w.heap.size + 1 + 1) (o := 2) (v := .int .i64 lf) (below_put (g := w.heap.size + 1 + 1) (o := 1) (v := .int .i64 nd) HB.out (by omega)) (by omega)) (by omega)) (by omega))
  have HW2 := hide (show BoxL ((((V.setCell ⟨w.heap.size + 1 + 1, 1, none⟩ (.int .i64 nd)).setCell ⟨w.heap.size + 1 + 1, 2, none⟩ (.int .i64 lf)).setCell ⟨w.heap.size + 1 + 1, 3, none⟩ (.int .i64 ep)).setCell ⟨w.heap.size + 1 + 1, 4, none⟩ (.string s)) (w.heap.size + 1 + 1) [.int .i64 6, .int .i64 nd, .int .i64 lf, .int .i64 ep, .string s, .int .i64 0, .slice none 0 0, .int .i64 0, .int .i64 0, .int .i64 0, .slice none 0 0] from ((((HW.out.put 1 (.int .i64 nd)).put 2 (.int .i64 lf)).put 3 (.int .i64 ep)).put 4 (.string s)))
  obtain ⟨X, hX⟩ : ∃ X, X = ((((V.setCell ⟨w.heap.size + 1 + 1, 1, none⟩ (.int .i64 nd)).setCell ⟨w.heap.size + 1 + 1, 2, none⟩ (.int .i64 lf)).setCell ⟨w.heap.size + 1 + 1, 3, none⟩ (.int .i64 ep)).setCell ⟨w.heap.size + 1 + 1, 4, none⟩ (.string s)) := ⟨_, rfl⟩
  rw [← hX] at HY2 HB2 HW2
  rw [← hX]
  clear hX k0 k1 k2 k3 k4 k5 k6 k7 k8 k9 k10 d0 d1 d2 d3 d4 d5 d6 d7 d8 d9 d10 f0 f1 f2 f3 f4 f5 f6 f7 f8 f9 f10
  obtain ⟨k0, k1, k2, k3, k4, k5, k6, k7, k8, k9, k10⟩ := HW2.out.c11
  obtain ⟨e0, e1, e2, e3, e4, e5, e6, e7, e8, e9, e10⟩ := HY2.out.c11
  obtain ⟨u0, u1, u2, u3, u4, u5, u6, u7, u8, u9, u10⟩ := HY2.out.f11
  go_wp2
  have HX8 := hide (put11_box HY2.out (.int .i64 6) (.int .i64 nd) (.int .i64 lf) (.int .i64 ep) (.string s) (.int .i64 0) (.slice none 0 0) (.int .i64 0) (.int .i64 0) (.int .i64 0) (.slice none 0 0))
  have HB8 := hide (put11_below (g := w.heap.size + 1) HB2.out (by omega) (.int .i64 6) (.int .i64 nd) (.int .i64 lf) (.int .i64 ep) (.string s) (.int .i64 0) (.slice none 0 0) (.int .i64 0) (.int .i64 0) (.int .i64 0) (.slice none 0 0))
  obtain ⟨Y, hY⟩ : ∃ Y, Y = put11 X (w.heap.size + 1) (.int .i64 6) (.int .i64 nd) (.int .i64 lf) (.int .i64 ep) (.string s) (.int .i64 0) (.slice none 0 0) (.int .i64 0) (.int .i64 0) (.int .i64 0) (.slice none 0 0) := ⟨_, rfl⟩
  rw [← hY] at HX8 HB8
  unfold put11 at hY
  rw [← hY]
  clear hY
  obtain ⟨x0, x1, x2, x3, x4, x5, x6, x7, x8, x9, x10⟩ := HX8.out.c11
  refine bodyPost_ret (v := .agg #[.int .i64 6, .int .i64 nd, .int .i64 lf, .int .i64 ep, .string s, .int .i64 0, .slice none 0 0, .int .i64 0, .int .i64 0, .int .i64 0, .slice none 0 0]) (by simp [results, Try.results16, go_sem, x0, x1, x2, x3, x4, x5, x6, x7, x8, x9, x10]) rfl ?_
  refine ⟨s, (.slice none 0 0), (.slice none 0 0), rfl, ?_, HB8.out⟩
  obtain ⟨h1, h2, h3, h4, h5, h6⟩ := HM.out.below HB8.out
  exact ⟨h1, h2, (by show (0 : Nat) ≤ 20000; omega), (by show (0 : Nat) ≤ 20000; omega), RowV.nil _ _, RowV.nil _ _⟩

set_option maxRecDepth 100000 in
set_option maxHeartbeats 8000000 in
theorem rclear_7 (nd lf ep : Int) (id : List Nat) (s : ByteArray) (fn : Int) (args : List Int) (aa : Option Addr) (al ac : Nat) (er va ve : Int) (mem : List (Int × Int)) (ma : Option Addr) (ml mc : Nat) (B : Nat) (w : World) (hM : NM B w ⟨7, nd, lf, ep, id, fn, args, er, va, ve, mem⟩ s (.slice aa al ac) (.slice ma ml mc)) :
    Calls Try.prog 16 #[.agg #[.int .i64 7, .int .i64 nd, .int .i64 lf, .int .i64 ep, .string s, .int .i64 fn, .slice aa al ac, .int .i64 er, .int .i64 va, .int .i64 ve, .slice ma ml mc]] w fun e w' => ∃ s' av' mv', e = .returned (Nv (clearN ⟨7, nd, lf, ep, id, fn, args, er, va, ve, mem⟩) s' av' mv') ∧ NM B w' (clearN ⟨7, nd, lf, ep, id, fn, args, er, va, ve, mem⟩) s' av' mv' ∧ Below w.heap.size w w' := by
  rw [show clearN ⟨7, nd, lf, ep, id, fn, args, er, va, ve, mem⟩ = ⟨7, nd, 0, ep, id, 0, [], er, va, 0, []⟩ by simp [clearN, isKind, hasNode, hasLife, hasEpoch, hasId, hasFunc, hasRes, hasView]]
  obtain ⟨hx1, hx2, hx3, hx4⟩ := box3 w [.int .i64 7, .int .i64 nd, .int .i64 lf, .int .i64 ep, .string s, .int .i64 fn, .slice aa al ac, .int .i64 er, .int .i64 va, .int .i64 ve, .slice ma ml mc] [.int .i64 0, .int .i64 0, .int .i64 0, .int .i64 0, .string ⟨#[]⟩, .int .i64 0, .slice none 0 0, .int .i64 0, .int .i64 0, .int .i64 0, .slice none 0 0] [.int .i64 7, .int .i64 0, .int .i64 0, .int .i64 0, .string ⟨#[]⟩, .int .i64 0, .slice none 0 0, .int .i64 0, .int .i64 0, .int .i64 0, .slice none 0 0] 31 31 31
  obtain ⟨V, hV⟩ : ∃ V, V = ((w.alloc (.cells #[.int .i64 7, .int .i64 nd, .int .i64 lf, .int .i64 ep, .string s, .int .i64 fn, .slice aa al ac, .int .i64 er, .int .i64 va, .int .i64 ve, .slice ma ml mc] 31)).alloc (.cells #[.int .i64 0, .int .i64 0, .int .i64 0, .int .i64 0, .string ⟨#[]⟩, .int .i64 0, .slice none 0 0, .int .i64 0, .int .i64 0, .int .i64 0, .slice none 0 0] 31)).alloc (.cells #[.int .i64 7, .int .i64 0, .int .i64 0, .int .i64 0, .string ⟨#[]⟩, .int .i64 0, .slice none 0 0, .int .i64 0, .int .i64 0, .int .i64 0, .slice none 0 0] 31) := ⟨_, rfl⟩
  have HX := hide (show BoxL V w.heap.size [.int .i64 7, .int .i64 nd, .int .i64 lf, .int .i64 ep, .string s, .int .i64 fn, .slice aa al ac, .int .i64 er, .int .i64 va, .int .i64 ve, .slice ma ml mc] by rw [hV]; exact hx1)
  have HY := hide (show BoxL V (w.heap.size + 1) [.int .i64 0, .int .i64 0, .int .i64 0, .int .i64 0, .string ⟨#[]⟩, .int .i64 0, .slice none 0 0, .int .i64 0, .int .i64 0, .int .i64 0, .slice none 0 0] by rw [hV]; exact hx2)
  have HW := hide (show BoxL V (w.heap.size + 1 + 1) [.int .i64 7, .int .i64 0, .int .i64 0, .int .i64 0, .string ⟨#[]⟩, .int .i64 0, .slice none 0 0, .int .i64 0, .int .i64 0, .int .i64 0, .slice none 0 0] by rw [hV]; exact hx3)
  have HB := hide (show Below w.heap.size w V by rw [hV]; exact hx4)
  have HM := hide hM
  have HV := hide hV
  clear hx1 hx2 hx3 hx4 hV hM
  go_enter Try.func16, Try.ntmps16
  go_upto_region 2 with fail
  rw [← HV.out]
  obtain ⟨k0, k1, k2, k3, k4, k5, k6, k7, k8, k9, k10⟩ := HX.out.c11
  obtain ⟨d0, d1, d2, d3, d4, d5, d6, d7, d8, d9, d10⟩ := HW.out.c11
  obtain ⟨f0, f1, f2, f3, f4, f5, f6, f7, f8, f9, f10⟩ := HW.out.f11
  go_upto_region 20 with fail
  have HY2 := hide (box_other (g := w.heap.size + 1 + 1) (o := 8) (v := .int .i64 va) (box_other (g := w.heap.size + 1 + 1) (o := 7) (v := .int .i64 er) (box_other (g := w.heap.size + 1 + 1) (o := 4) (v := .string s) (box_other (g := w.heap.size + 1 + 1) (o := 3) (v := .int .i64 ep) (box_other (g := w.heap.size + 1 + 1) (o := 1) (v := .int .i64 nd) HY.out (by omega)) (by omega)) (by omega)) (by omega)) (by omega))
  have HB2 := hide (below_put (g := w.heap.size + 1 + 1) (o := 8) (v := .int .i64 va) (below_put (g := w.heap.size + 1 + 1) (o := 7) (v := .int .i64 er) (below_put (g := w.heap.size + 1 + 1) (o := 4) (v := .string s) (below_put (g := w.heap.size + 1 + 1) (o := 3) (v := .int .i64 ep) (below_put (g := w.heap.size + 1 + 1) (o := 1) (v := .int .i64 nd) HB.out (by omega)) (by omega)) (by omega)) (by omega)) (by omega))
  have HW2 := hide (show BoxL (((((V.setCell ⟨w.heap.size + 1 + 1, 1, none⟩ (.int .i64 nd)).setCell ⟨w.heap.size + 1 + 1, 3, none⟩ (.int .i64 ep)).setCell ⟨w.heap.size + 1 + 1, 4, none⟩ (.string s)).setCell ⟨w.heap.size + 1 + 1, 7, none⟩ (.int .i64 er)).setCell ⟨w.heap.size + 1 + 1, 8, none⟩ (.int .i64 va)) (w.heap.size + 1 + 1) [.int .i64 7, .int .i64 nd, .int .i64 0, .int .i64 ep, .string s, .int .i64 0, .slice none 0 0, .int .i64 er, .int .i64 va, .int .i64 0, .slice none 0 0] from (((((HW.out.put 1 (.int .i64 nd)).put 3 (.int .i64 ep)).put 4 (.string s)).put 7 (.int .i64 er)).put 8 (.int .i64 va)))
  obtain ⟨X, hX⟩ : ∃ X, X = (((((V.setCell ⟨w.heap.size + 1 + 1, 1, none⟩ (.int .i64 nd)).setCell ⟨w.heap.size + 1 + 1, 3, none⟩ (.int .i64 ep)).setCell ⟨w.heap.size + 1 + 1, 4, none⟩ (.string s)).setCell ⟨w.heap.size + 1 + 1, 7, none⟩ (.int .i64 er)).setCell ⟨w.heap.size + 1 + 1, 8, none⟩ (.int .i64 va)) := ⟨_, rfl⟩
  rw [← hX] at HY2 HB2 HW2
  rw [← hX]
  clear hX k0 k1 k2 k3 k4 k5 k6 k7 k8 k9 k10 d0 d1 d2 d3 d4 d5 d6 d7 d8 d9 d10 f0 f1 f2 f3 f4 f5 f6 f7 f8 f9 f10
  obtain ⟨k0, k1, k2, k3, k4, k5, k6, k7, k8, k9, k10⟩ := HW2.out.c11
  obtain ⟨e0, e1, e2, e3, e4, e5, e6, e7, e8, e9, e10⟩ := HY2.out.c11
  obtain ⟨u0, u1, u2, u3, u4, u5, u6, u7, u8, u9, u10⟩ := HY2.out.f11
  go_wp2
  have HX8 := hide (put11_box HY2.out (.int .i64 7) (.int .i64 nd) (.int .i64 0) (.int .i64 ep) (.string s) (.int .i64 0) (.slice none 0 0) (.int .i64 er) (.int .i64 va) (.int .i64 0) (.slice none 0 0))
  have HB8 := hide (put11_below (g := w.heap.size + 1) HB2.out (by omega) (.int .i64 7) (.int .i64 nd) (.int .i64 0) (.int .i64 ep) (.string s) (.int .i64 0) (.slice none 0 0) (.int .i64 er) (.int .i64 va) (.int .i64 0) (.slice none 0 0))
  obtain ⟨Y, hY⟩ : ∃ Y, Y = put11 X (w.heap.size + 1) (.int .i64 7) (.int .i64 nd) (.int .i64 0) (.int .i64 ep) (.string s) (.int .i64 0) (.slice none 0 0) (.int .i64 er) (.int .i64 va) (.int .i64 0) (.slice none 0 0) := ⟨_, rfl⟩
  rw [← hY] at HX8 HB8
  unfold put11 at hY
  rw [← hY]
  clear hY
  obtain ⟨x0, x1, x2, x3, x4, x5, x6, x7, x8, x9, x10⟩ := HX8.out.c11
  refine bodyPost_ret (v := .agg #[.int .i64 7, .int .i64 nd, .int .i64 0, .int .i64 ep, .string s, .int .i64 0, .slice none 0 0, .int .i64 er, .int .i64 va, .int .i64 0, .slice none 0 0]) (by simp [results, Try.results16, go_sem, x0, x1, x2, x3, x4, x5, x6, x7, x8, x9, x10]) rfl ?_
  refine ⟨s, (.slice none 0 0), (.slice none 0 0), rfl, ?_, HB8.out⟩
  obtain ⟨h1, h2, h3, h4, h5, h6⟩ := HM.out.below HB8.out
  exact ⟨h1, h2, (by show (0 : Nat) ≤ 20000; omega), (by show (0 : Nat) ≤ 20000; omega), RowV.nil _ _, RowV.nil _ _⟩

set_option maxRecDepth 100000 in
set_option maxHeartbeats 8000000 in
theorem rclear_8 (nd lf ep : Int) (id : List Nat) (s : ByteArray) (fn : Int) (args : List Int) (aa : Option Addr) (al ac : Nat) (er va ve : Int) (mem : List (Int × Int)) (ma : Option Addr) (ml mc : Nat) (B : Nat) (w : World) (hM : NM B w ⟨8, nd, lf, ep, id, fn, args, er, va, ve, mem⟩ s (.slice aa al ac) (.slice ma ml mc)) :
    Calls Try.prog 16 #[.agg #[.int .i64 8, .int .i64 nd, .int .i64 lf, .int .i64 ep, .string s, .int .i64 fn, .slice aa al ac, .int .i64 er, .int .i64 va, .int .i64 ve, .slice ma ml mc]] w fun e w' => ∃ s' av' mv', e = .returned (Nv (clearN ⟨8, nd, lf, ep, id, fn, args, er, va, ve, mem⟩) s' av' mv') ∧ NM B w' (clearN ⟨8, nd, lf, ep, id, fn, args, er, va, ve, mem⟩) s' av' mv' ∧ Below w.heap.size w w' := by
  rw [show clearN ⟨8, nd, lf, ep, id, fn, args, er, va, ve, mem⟩ = ⟨8, 0, 0, 0, id, 0, [], er, va, 0, []⟩ by simp [clearN, isKind, hasNode, hasLife, hasEpoch, hasId, hasFunc, hasRes, hasView]]
  obtain ⟨hx1, hx2, hx3, hx4⟩ := box3 w [.int .i64 8, .int .i64 nd, .int .i64 lf, .int .i64 ep, .string s, .int .i64 fn, .slice aa al ac, .int .i64 er, .int .i64 va, .int .i64 ve, .slice ma ml mc] [.int .i64 0, .int .i64 0, .int .i64 0, .int .i64 0, .string ⟨#[]⟩, .int .i64 0, .slice none 0 0, .int .i64 0, .int .i64 0, .int .i64 0, .slice none 0 0] [.int .i64 8, .int .i64 0, .int .i64 0, .int .i64 0, .string ⟨#[]⟩, .int .i64 0, .slice none 0 0, .int .i64 0, .int .i64 0, .int .i64 0, .slice none 0 0] 31 31 31
  obtain ⟨V, hV⟩ : ∃ V, V = ((w.alloc (.cells #[.int .i64 8, .int .i64 nd, .int .i64 lf, .int .i64 ep, .string s, .int .i64 fn, .slice aa al ac, .int .i64 er, .int .i64 va, .int .i64 ve, .slice ma ml mc] 31)).alloc (.cells #[.int .i64 0, .int .i64 0, .int .i64 0, .int .i64 0, .string ⟨#[]⟩, .int .i64 0, .slice none 0 0, .int .i64 0, .int .i64 0, .int .i64 0, .slice none 0 0] 31)).alloc (.cells #[.int .i64 8, .int .i64 0, .int .i64 0, .int .i64 0, .string ⟨#[]⟩, .int .i64 0, .slice none 0 0, .int .i64 0, .int .i64 0, .int .i64 0, .slice none 0 0] 31) := ⟨_, rfl⟩
  have HX := hide (show BoxL V w.heap.size [.int .i64 8, .int .i64 nd, .int .i64 lf, .int .i64 ep, .string s, .int .i64 fn, .slice aa al ac, .int .i64 er, .int .i64 va, .int .i64 ve, .slice ma ml mc] by rw [hV]; exact hx1)
  have HY := hide (show BoxL V (w.heap.size + 1) [.int .i64 0, .int .i64 0, .int .i64 0, .int .i64 0, .string ⟨#[]⟩, .int .i64 0, .slice none 0 0, .int .i64 0, .int .i64 0, .int .i64 0, .slice none 0 0] by rw [hV]; exact hx2)
  have HW := hide (show BoxL V (w.heap.size + 1 + 1) [.int .i64 8, .int .i64 0, .int .i64 0, .int .i64 0, .string ⟨#[]⟩, .int .i64 0, .slice none 0 0, .int .i64 0, .int .i64 0, .int .i64 0, .slice none 0 0] by rw [hV]; exact hx3)
  have HB := hide (show Below w.heap.size w V by rw [hV]; exact hx4)
  have HM := hide hM
  have HV := hide hV
  clear hx1 hx2 hx3 hx4 hV hM
  go_enter Try.func16, Try.ntmps16
  go_upto_region 2 with fail
  rw [← HV.out]
  obtain ⟨k0, k1, k2, k3, k4, k5, k6, k7, k8, k9, k10⟩ := HX.out.c11
  obtain ⟨d0, d1, d2, d3, d4, d5, d6, d7, d8, d9, d10⟩ := HW.out.c11
  obtain ⟨f0, f1, f2, f3, f4, f5, f6, f7, f8, f9, f10⟩ := HW.out.f11
  go_upto_region 20 with fail
  have HY2 := hide (box_other (g := w.heap.size + 1 + 1) (o := 8) (v := .int .i64 va) (box_other (g := w.heap.size + 1 + 1) (o := 7) (v := .int .i64 er) (box_other (g := w.heap.size + 1 + 1) (o := 4) (v := .string s) HY.out (by omega)) (by omega)) (by omega))
  have HB2 := hide (below_put (g := w.heap.size + 1 + 1) (o := 8) (v := .int .i64 va) (below_put (g := w.heap.size + 1 + 1) (o := 7) (v := .int .i64 er) (below_put (g := w.heap.size + 1 + 1) (o := 4) (v := .string s) HB.out (by omega)) (by omega)) (by omega))
  have HW2 := hide (show BoxL (((V.setCell ⟨w.heap.size + 1 + 1, 4, none⟩ (.string s)).setCell ⟨w.heap.size + 1 + 1, 7, none⟩ (.int .i64 er)).setCell ⟨w.heap.size + 1 + 1, 8, none⟩ (.int .i64 va)) (w.heap.size + 1 + 1) [.int .i64 8, .int .i64 0, .int .i64 0, .int .i64 0, .string s, .int .i64 0, .slice none 0 0, .int .i64 er, .int .i64 va, .int .i64 0, .slice none 0 0] from (((HW.out.put 4 (.string s)).put 7 (.int .i64 er)).put 8 (.int .i64 va)))
  obtain ⟨X, hX⟩ : ∃ X, X = (((V.setCell ⟨w.heap.size + 1 + 1, 4, none⟩ (.string s)).setCell ⟨w.heap.size + 1 + 1, 7, none⟩ (.int .i64 er)).setCell ⟨w.heap.size + 1 + 1, 8, none⟩ (.int .i64 va)) := ⟨_, rfl⟩
  rw [← hX] at HY2 HB2 HW2
  rw [← hX]
  clear hX k0 k1 k2 k3 k4 k5 k6 k7 k8 k9 k10 d0 d1 d2 d3 d4 d5 d6 d7 d8 d9 d10 f0 f1 f2 f3 f4 f5 f6 f7 f8 f9 f10
  obtain ⟨k0, k1, k2, k3, k4, k5, k6, k7, k8, k9, k10⟩ := HW2.out.c11
  obtain ⟨e0, e1, e2, e3, e4, e5, e6, e7, e8, e9, e10⟩ := HY2.out.c11
  obtain ⟨u0, u1, u2, u3, u4, u5, u6, u7, u8, u9, u10⟩ := HY2.out.f11
  go_wp2
  have HX8 := hide (put11_box HY2.out (.int .i64 8) (.int .i64 0) (.int .i64 0) (.int .i64 0) (.string s) (.int .i64 0) (.slice none 0 0) (.int .i64 er) (.int .i64 va) (.int .i64 0) (.slice none 0 0))
  have HB8 := hide (put11_below (g := w.heap.size + 1) HB2.out (by omega) (.int .i64 8) (.int .i64 0) (.int .i64 0) (.int .i64 0) (.string s) (.int .i64 0) (.slice none 0 0) (.int .i64 er) (.int .i64 va) (.int .i64 0) (.slice none 0 0))
  obtain ⟨Y, hY⟩ : ∃ Y, Y = put11 X (w.heap.size + 1) (.int .i64 8) (.int .i64 0) (.int .i64 0) (.int .i64 0) (.string s) (.int .i64 0) (.slice none 0 0) (.int .i64 er) (.int .i64 va) (.int .i64 0) (.slice none 0 0) := ⟨_, rfl⟩
  rw [← hY] at HX8 HB8
  unfold put11 at hY
  rw [← hY]
  clear hY
  obtain ⟨x0, x1, x2, x3, x4, x5, x6, x7, x8, x9, x10⟩ := HX8.out.c11
  refine bodyPost_ret (v := .agg #[.int .i64 8, .int .i64 0, .int .i64 0, .int .i64 0, .string s, .int .i64 0, .slice none 0 0, .int .i64 er, .int .i64 va, .int .i64 0, .slice none 0 0]) (by simp [results, Try.results16, go_sem, x0, x1, x2, x3, x4, x5, x6, x7, x8, x9, x10]) rfl ?_
  refine ⟨s, (.slice none 0 0), (.slice none 0 0), rfl, ?_, HB8.out⟩
  obtain ⟨h1, h2, h3, h4, h5, h6⟩ := HM.out.below HB8.out
  exact ⟨h1, h2, (by show (0 : Nat) ≤ 20000; omega), (by show (0 : Nat) ≤ 20000; omega), RowV.nil _ _, RowV.nil _ _⟩

set_option maxRecDepth 100000 in
set_option maxHeartbeats 8000000 in
theorem rclear_9 (nd lf ep : Int) (id : List Nat) (s : ByteArray) (fn : Int) (args : List Int) (aa : Option Addr) (al ac : Nat) (er va ve : Int) (mem : List (Int × Int)) (ma : Option Addr) (ml mc : Nat) (B : Nat) (w : World) (hM : NM B w ⟨9, nd, lf, ep, id, fn, args, er, va, ve, mem⟩ s (.slice aa al ac) (.slice ma ml mc)) :
    Calls Try.prog 16 #[.agg #[.int .i64 9, .int .i64 nd, .int .i64 lf, .int .i64 ep, .string s, .int .i64 fn, .slice aa al ac, .int .i64 er, .int .i64 va, .int .i64 ve, .slice ma ml mc]] w fun e w' => ∃ s' av' mv', e = .returned (Nv (clearN ⟨9, nd, lf, ep, id, fn, args, er, va, ve, mem⟩) s' av' mv') ∧ NM B w' (clearN ⟨9, nd, lf, ep, id, fn, args, er, va, ve, mem⟩) s' av' mv' ∧ Below w.heap.size w w' := by
  rw [show clearN ⟨9, nd, lf, ep, id, fn, args, er, va, ve, mem⟩ = ⟨9, nd, 0, 0, id, 0, [], 0, 0, 0, []⟩ by simp [clearN, isKind, hasNode, hasLife, hasEpoch, hasId, hasFunc, hasRes, hasView]]
  obtain ⟨hx1, hx2, hx3, hx4⟩ := box3 w [.int .i64 9, .int .i64 nd, .int .i64 lf, .int .i64 ep, .string s, .int .i64 fn, .slice aa al ac, .int .i64 er, .int .i64 va, .int .i64 ve, .slice ma ml mc] [.int .i64 0, .int .i64 0, .int .i64 0, .int .i64 0, .string ⟨#[]⟩, .int .i64 0, .slice none 0 0, .int .i64 0, .int .i64 0, .int .i64 0, .slice none 0 0] [.int .i64 9, .int .i64 0, .int .i64 0, .int .i64 0, .string ⟨#[]⟩, .int .i64 0, .slice none 0 0, .int .i64 0, .int .i64 0, .int .i64 0, .slice none 0 0] 31 31 31
  obtain ⟨V, hV⟩ : ∃ V, V = ((w.alloc (.cells #[.int .i64 9, .int .i64 nd, .int .i64 lf, .int .i64 ep, .string s, .int .i64 fn, .slice aa al ac, .int .i64 er, .int .i64 va, .int .i64 ve, .slice ma ml mc] 31)).alloc (.cells #[.int .i64 0, .int .i64 0, .int .i64 0, .int .i64 0, .string ⟨#[]⟩, .int .i64 0, .slice none 0 0, .int .i64 0, .int .i64 0, .int .i64 0, .slice none 0 0] 31)).alloc (.cells #[.int .i64 9, .int .i64 0, .int .i64 0, .int .i64 0, .string ⟨#[]⟩, .int .i64 0, .slice none 0 0, .int .i64 0, .int .i64 0, .int .i64 0, .slice none 0 0] 31) := ⟨_, rfl⟩
  have HX := hide (show BoxL V w.heap.size [.int .i64 9, .int .i64 nd, .int .i64 lf, .int .i64 ep, .string s, .int .i64 fn, .slice aa al ac, .int .i64 er, .int .i64 va, .int .i64 ve, .slice ma ml mc] by rw [hV]; exact hx1)
  have HY := hide (show BoxL V (w.heap.size + 1) [.int .i64 0, .int .i64 0, .int .i64 0, .int .i64 0, .string ⟨#[]⟩, .int .i64 0, .slice none 0 0, .int .i64 0, .int .i64 0, .int .i64 0, .slice none 0 0] by rw [hV]; exact hx2)
  have HW := hide (show BoxL V (w.heap.size + 1 + 1) [.int .i64 9, .int .i64 0, .int .i64 0, .int .i64 0, .string ⟨#[]⟩, .int .i64 0, .slice none 0 0, .int .i64 0, .int .i64 0, .int .i64 0, .slice none 0 0] by rw [hV]; exact hx3)
  have HB := hide (show Below w.heap.size w V by rw [hV]; exact hx4)
  have HM := hide hM
  have HV := hide hV
  clear hx1 hx2 hx3 hx4 hV hM
  go_enter Try.func16, Try.ntmps16
  go_upto_region 2 with fail
  rw [← HV.out]
  obtain ⟨k0, k1, k2, k3, k4, k5, k6, k7, k8, k9, k10⟩ := HX.out.c11
  obtain ⟨d0, d1, d2, d3, d4, d5, d6, d7, d8, d9, d10⟩ := HW.out.c11
  obtain ⟨f0, f1, f2, f3, f4, f5, f6, f7, f8, f9, f10⟩ := HW.out.f11
  go_upto_region 20 with fail
  have HY2 := hide (box_other (g := w.heap.size + 1 + 1) (o := 4) (v := .string s) (box_other (g := w.heap.size + 1 + 1) (o := 1) (v := .int .i64 nd) HY.out (by omega)) (by omega))
  have HB2 := hide (below_put (g := w.heap.size + 1 + 1) (o := 4) (v := .string s) (below_put (g := w.heap.size + 1 + 1) (o := 1) (v := .int .i64 nd) HB.out (by omega)) (by omega))
  have HW2 := hide (show BoxL ((V.setCell ⟨w.heap.size + 1 + 1, 1, none⟩ (.int .i64 nd)).setCell ⟨w.heap.size + 1 + 1, 4, none⟩ (.string s)) (w.heap.size + 1 + 1) [.int .i64 9, .int .i64 nd, .int .i64 0, .int .i64 0, .string s, .int .i64 0, .slice none 0 0, .int .i64 0, .int .i64 0, .int .i64 0, .slice none 0 0] from ((HW.out.put 1 (.int .i64 nd)).put 4 (.string s)))
  obtain ⟨X, hX⟩ : ∃ X, X = ((V.setCell ⟨w.heap.size + 1 + 1, 1, none⟩ (.int .i64 nd)).setCell ⟨w.heap.size + 1 + 1, 4, none⟩ (.string s)) := ⟨_, rfl⟩
  rw [← hX] at HY2 HB2 HW2
  rw [← hX]
  clear hX k0 k1 k2 k3 k4 k5 k6 k7 k8 k9 k10 d0 d1 d2 d3 d4 d5 d6 d7 d8 d9 d10 f0 f1 f2 f3 f4 f5 f6 f7 f8 f9 f10
  obtain ⟨k0, k1, k2, k3, k4, k5, k6, k7, k8, k9, k10⟩ := HW2.out.c11
  obtain ⟨e0, e1, e2, e3, e4, e5, e6, e7, e8, e9, e10⟩ := HY2.out.c11
  obtain ⟨u0, u1, u2, u3, u4, u5, u6, u7, u8, u9, u10⟩ := HY2.out.f11
  go_wp2
  have HX8 := hide (put11_box HY2.out (.int .i64 9) (.int .i64 nd) (.int .i64 0) (.int .i64 0) (.string s) (.int .i64 0) (.slice none 0 0) (.int .i64 0) (.int .i64 0) (.int .i64 0) (.slice none 0 0))
  have HB8 := hide (put11_below (g := w.heap.size + 1) HB2.out (by omega) (.int .i64 9) (.int .i64 nd) (.int .i64 0) (.int .i64 0) (.string s) (.int .i64 0) (.slice none 0 0) (.int .i64 0) (.int .i64 0) (.int .i64 0) (.slice none 0 0))
  obtain ⟨Y, hY⟩ : ∃ Y, Y = put11 X (w.heap.size + 1) (.int .i64 9) (.int .i64 nd) (.int .i64 0) (.int .i64 0) (.string s) (.int .i64 0) (.slice none 0 0) (.int .i64 0) (.int .i64 0) (.int .i64 0) (.slice none 0 0) := ⟨_, rfl⟩
  rw [← hY] at HX8 HB8
  unfold put11 at hY
  rw [← hY]
  clear hY
  obtain ⟨x0, x1, x2, x3, x4, x5, x6, x7, x8, x9, x10⟩ := HX8.out.c11
  refine bodyPost_ret (v := .agg #[.int .i64 9, .int .i64 nd, .int .i64 0, .int .i64 0, .string s, .int .i64 0, .slice none 0 0, .int .i64 0, .int .i64 0, .int .i64 0, .slice none 0 0]) (by simp [results, Try.results16, go_sem, x0, x1, x2, x3, x4, x5, x6, x7, x8, x9, x10]) rfl ?_
  refine ⟨s, (.slice none 0 0), (.slice none 0 0), rfl, ?_, HB8.out⟩
  obtain ⟨h1, h2, h3, h4, h5, h6⟩ := HM.out.below HB8.out
  exact ⟨h1, h2, (by show (0 : Nat) ≤ 20000; omega), (by show (0 : Nat) ≤ 20000; omega), RowV.nil _ _, RowV.nil _ _⟩

set_option maxRecDepth 100000 in
set_option maxHeartbeats 8000000 in
theorem rclear_10 (nd lf ep : Int) (id : List Nat) (s : ByteArray) (fn : Int) (args : List Int) (aa : Option Addr) (al ac : Nat) (er va ve : Int) (mem : List (Int × Int)) (ma : Option Addr) (ml mc : Nat) (B : Nat) (w : World) (hM : NM B w ⟨10, nd, lf, ep, id, fn, args, er, va, ve, mem⟩ s (.slice aa al ac) (.slice ma ml mc)) :
    Calls Try.prog 16 #[.agg #[.int .i64 10, .int .i64 nd, .int .i64 lf, .int .i64 ep, .string s, .int .i64 fn, .slice aa al ac, .int .i64 er, .int .i64 va, .int .i64 ve, .slice ma ml mc]] w fun e w' => ∃ s' av' mv', e = .returned (Nv (clearN ⟨10, nd, lf, ep, id, fn, args, er, va, ve, mem⟩) s' av' mv') ∧ NM B w' (clearN ⟨10, nd, lf, ep, id, fn, args, er, va, ve, mem⟩) s' av' mv' ∧ Below w.heap.size w w' := by
  rw [show clearN ⟨10, nd, lf, ep, id, fn, args, er, va, ve, mem⟩ = ⟨10, nd, 0, ep, id, fn, args, 0, 0, 0, []⟩ by simp [clearN, isKind, hasNode, hasLife, hasEpoch, hasId, hasFunc, hasRes, hasView]]
  obtain ⟨hx1, hx2, hx3, hx4⟩ := box3 w [.int .i64 10, .int .i64 nd, .int .i64 lf, .int .i64 ep, .string s, .int .i64 fn, .slice aa al ac, .int .i64 er, .int .i64 va, .int .i64 ve, .slice ma ml mc] [.int .i64 0, .int .i64 0, .int .i64 0, .int .i64 0, .string ⟨#[]⟩, .int .i64 0, .slice none 0 0, .int .i64 0, .int .i64 0, .int .i64 0, .slice none 0 0] [.int .i64 10, .int .i64 0, .int .i64 0, .int .i64 0, .string ⟨#[]⟩, .int .i64 0, .slice none 0 0, .int .i64 0, .int .i64 0, .int .i64 0, .slice none 0 0] 31 31 31
  obtain ⟨V, hV⟩ : ∃ V, V = ((w.alloc (.cells #[.int .i64 10, .int .i64 nd, .int .i64 lf, .int .i64 ep, .string s, .int .i64 fn, .slice aa al ac, .int .i64 er, .int .i64 va, .int .i64 ve, .slice ma ml mc] 31)).alloc (.cells #[.int .i64 0, .int .i64 0, .int .i64 0, .int .i64 0, .string ⟨#[]⟩, .int .i64 0, .slice none 0 0, .int .i64 0, .int .i64 0, .int .i64 0, .slice none 0 0] 31)).alloc (.cells #[.int .i64 10, .int .i64 0, .int .i64 0, .int .i64 0, .string ⟨#[]⟩, .int .i64 0, .slice none 0 0, .int .i64 0, .int .i64 0, .int .i64 0, .slice none 0 0] 31) := ⟨_, rfl⟩
  have HX := hide (show BoxL V w.heap.size [.int .i64 10, .int .i64 nd, .int .i64 lf, .int .i64 ep, .string s, .int .i64 fn, .slice aa al ac, .int .i64 er, .int .i64 va, .int .i64 ve, .slice ma ml mc] by rw [hV]; exact hx1)
  have HY := hide (show BoxL V (w.heap.size + 1) [.int .i64 0, .int .i64 0, .int .i64 0, .int .i64 0, .string ⟨#[]⟩, .int .i64 0, .slice none 0 0, .int .i64 0, .int .i64 0, .int .i64 0, .slice none 0 0] by rw [hV]; exact hx2)
  have HW := hide (show BoxL V (w.heap.size + 1 + 1) [.int .i64 10, .int .i64 0, .int .i64 0, .int .i64 0, .string ⟨#[]⟩, .int .i64 0, .slice none 0 0, .int .i64 0, .int .i64 0, .int .i64 0, .slice none 0 0] by rw [hV]; exact hx3)
  have HB := hide (show Below w.heap.size w V by rw [hV]; exact hx4)
  have HM := hide hM
  have HV := hide hV
  clear hx1 hx2 hx3 hx4 hV hM
  go_enter Try.func16, Try.ntmps16
  go_upto_region 2 with fail
  rw [← HV.out]
  obtain ⟨k0, k1, k2, k3, k4, k5, k6, k7, k8, k9, k10⟩ := HX.out.c11
  obtain ⟨d0, d1, d2, d3, d4, d5, d6, d7, d8, d9, d10⟩ := HW.out.c11
  obtain ⟨f0, f1, f2, f3, f4, f5, f6, f7, f8, f9, f10⟩ := HW.out.f11
  go_upto_region 20 with fail
  have HY2 := hide (box_other (g := w.heap.size + 1 + 1) (o := 6) (v := .slice aa al ac) (box_other (g := w.heap.size + 1 + 1) (o := 5) (v := .int .i64 fn) (box_other (g := w.heap.size + 1 + 1) (o := 4) (v := .string s) (box_other (g := w.heap.size + 1 + 1) (o := 3) (v := .int .i64 ep) (box_other (g := w.heap.size + 1 + 1) (o := 1) (v := .int .i64 nd) HY.out (by omega)) (by omega)) (by omega)) (by omega)) (by omega))
  have HB2 := hide (below_put (g := w.heap.size + 1 + 1) (o := 6) (v := .slice aa al ac) (below_put (g := w.heap.size + 1 + 1) (o := 5) (v := .int .i64 fn) (below_put (g := w.heap.size + 1 + 1) (o := 4) (v := .string s) (below_put (g := w.heap.size + 1 + 1) (o := 3) (v := .int .i64 ep) (below_put (g := w.heap.size + 1 + 1) (o := 1) (v := .int .i64 nd) HB.out (by omega)) (by omega)) (by omega)) (by omega)) (by omega))
  have HW2 := hide (show BoxL (((((V.setCell ⟨w.heap.size + 1 + 1, 1, none⟩ (.int .i64 nd)).setCell ⟨w.heap.size + 1 + 1, 3, none⟩ (.int .i64 ep)).setCell ⟨w.heap.size + 1 + 1, 4, none⟩ (.string s)).setCell ⟨w.heap.size + 1 + 1, 5, none⟩ (.int .i64 fn)).setCell ⟨w.heap.size + 1 + 1, 6, none⟩ (.slice aa al ac)) (w.heap.size + 1 + 1) [.int .i64 10, .int .i64 nd, .int .i64 0, .int .i64 ep, .string s, .int .i64 fn, .slice aa al ac, .int .i64 0, .int .i64 0, .int .i64 0, .slice none 0 0] from (((((HW.out.put 1 (.int .i64 nd)).put 3 (.int .i64 ep)).put 4 (.string s)).put 5 (.int .i64 fn)).put 6 (.slice aa al ac)))
  obtain ⟨X, hX⟩ : ∃ X, X = (((((V.setCell ⟨w.heap.size + 1 + 1, 1, none⟩ (.int .i64 nd)).setCell ⟨w.heap.size + 1 + 1, 3, none⟩ (.int .i64 ep)).setCell ⟨w.heap.size + 1 + 1, 4, none⟩ (.string s)).setCell ⟨w.heap.size + 1 + 1, 5, none⟩ (.int .i64 fn)).setCell ⟨w.heap.size + 1 + 1, 6, none⟩ (.slice aa al ac)) := ⟨_, rfl⟩
  rw [← hX] at HY2 HB2 HW2
  rw [← hX]
  clear hX k0 k1 k2 k3 k4 k5 k6 k7 k8 k9 k10 d0 d1 d2 d3 d4 d5 d6 d7 d8 d9 d10 f0 f1 f2 f3 f4 f5 f6 f7 f8 f9 f10
  obtain ⟨k0, k1, k2, k3, k4, k5, k6, k7, k8, k9, k10⟩ := HW2.out.c11
  obtain ⟨e0, e1, e2, e3, e4, e5, e6, e7, e8, e9, e10⟩ := HY2.out.c11
  obtain ⟨u0, u1, u2, u3, u4, u5, u6, u7, u8, u9, u10⟩ := HY2.out.f11
  go_wp2
  have HX8 := hide (put11_box HY2.out (.int .i64 10) (.int .i64 nd) (.int .i64 0) (.int .i64 ep) (.string s) (.int .i64 fn) (.slice aa al ac) (.int .i64 0) (.int .i64 0) (.int .i64 0) (.slice none 0 0))
  have HB8 := hide (put11_below (g := w.heap.size + 1) HB2.out (by omega) (.int .i64 10) (.int .i64 nd) (.int .i64 0) (.int .i64 ep) (.string s) (.int .i64 fn) (.slice aa al ac) (.int .i64 0) (.int .i64 0) (.int .i64 0) (.slice none 0 0))
  obtain ⟨Y, hY⟩ : ∃ Y, Y = put11 X (w.heap.size + 1) (.int .i64 10) (.int .i64 nd) (.int .i64 0) (.int .i64 ep) (.string s) (.int .i64 fn) (.slice aa al ac) (.int .i64 0) (.int .i64 0) (.int .i64 0) (.slice none 0 0) := ⟨_, rfl⟩
  rw [← hY] at HX8 HB8
  unfold put11 at hY
  rw [← hY]
  clear hY
  obtain ⟨x0, x1, x2, x3, x4, x5, x6, x7, x8, x9, x10⟩ := HX8.out.c11
  refine bodyPost_ret (v := .agg #[.int .i64 10, .int .i64 nd, .int .i64 0, .int .i64 ep, .string s, .int .i64 fn, .slice aa al ac, .int .i64 0, .int .i64 0, .int .i64 0, .slice none 0 0]) (by simp [results, Try.results16, go_sem, x0, x1, x2, x3, x4, x5, x6, x7, x8, x9, x10]) rfl ?_
  refine ⟨s, (.slice aa al ac), (.slice none 0 0), rfl, ?_, HB8.out⟩
  obtain ⟨h1, h2, h3, h4, h5, h6⟩ := HM.out.below HB8.out
  exact ⟨h1, h2, h3, (by show (0 : Nat) ≤ 20000; omega), h5, RowV.nil _ _⟩

set_option maxRecDepth 100000 in
set_option maxHeartbeats 8000000 in
theorem rclear_none (n : No) (s : ByteArray) (aa ma : Option Addr) (al ac ml mc : Nat) (B : Nat) (w : World) (hk : isKind n.kind = false) : Calls Try.prog 16 #[.agg #[.int .i64 n.kind, .int .i64 n.node, .int .i64 n.life, .int .i64 n.epoch, .string s, .int .i64 n.func, .slice aa al ac, .int .i64 n.err, .int .i64 n.val, .int .i64 n.vep, .slice ma ml mc]] w fun e w' => ∃ s' av' mv', e = .returned (Nv no0 s' av' mv') ∧ NM B w' no0 s' av' mv' ∧ Below w.heap.size w w' := by
  have hk' : n.kind < 1 ∨ 10 < n.kind := by
    have : ¬ (1 ≤ n.kind ∧ n.kind ≤ 10) := by simpa [isKind] using hk
    omega
  obtain ⟨hx1, hx2, hx3, hx4⟩ := box3 w [.int .i64 n.kind, .int .i64 n.node, .int .i64 n.life, .int .i64 n.epoch, .string s, .int .i64 n.func, .slice aa al ac, .int .i64 n.err, .int .i64 n.val, .int .i64 n.vep, .slice ma ml mc] [.int .i64 0, .int .i64 0, .int .i64 0, .int .i64 0, .string ⟨#[]⟩, .int .i64 0, .slice none 0 0, .int .i64 0, .int .i64 0, .int .i64 0, .slice none 0 0] [.int .i64 n.kind, .int .i64 0, .int .i64 0, .int .i64 0, .string ⟨#[]⟩, .int .i64 0, .slice none 0 0, .int .i64 0, .int .i64 0, .int .i64 0, .slice none 0 0] 31 31 31
  obtain ⟨V, hV⟩ : ∃ V, V = ((w.alloc (.cells #[.int .i64 n.kind, .int .i64 n.node, .int .i64 n.life, .int .i64 n.epoch, .string s, .int .i64 n.func, .slice aa al ac, .int .i64 n.err, .int .i64 n.val, .int .i64 n.vep, .slice ma ml mc] 31)).alloc (.cells #[.int .i64 0, .int .i64 0, .int .i64 0, .int .i64 0, .string ⟨#[]⟩, .int .i64 0, .slice none 0 0, .int .i64 0, .int .i64 0, .int .i64 0, .slice none 0 0] 31)).alloc (.cells #[.int .i64 n.kind, .int .i64 0, .int .i64 0, .int .i64 0, .string ⟨#[]⟩, .int .i64 0, .slice none 0 0, .int .i64 0, .int .i64 0, .int .i64 0, .slice none 0 0] 31) := ⟨_, rfl⟩
  have HX := hide (show BoxL V w.heap.size [.int .i64 n.kind, .int .i64 n.node, .int .i64 n.life, .int .i64 n.epoch, .string s, .int .i64 n.func, .slice aa al ac, .int .i64 n.err, .int .i64 n.val, .int .i64 n.vep, .slice ma ml mc] by rw [hV]; exact hx1)
  have HY := hide (show BoxL V (w.heap.size + 1) [.int .i64 0, .int .i64 0, .int .i64 0, .int .i64 0, .string ⟨#[]⟩, .int .i64 0, .slice none 0 0, .int .i64 0, .int .i64 0, .int .i64 0, .slice none 0 0] by rw [hV]; exact hx2)
  have HB := hide (show Below w.heap.size w V by rw [hV]; exact hx4)
  have HV := hide hV
  clear hx1 hx2 hx3 hx4 hV hk
  have HX8 := hide (put11_box HY.out (.int .i64 0) (.int .i64 0) (.int .i64 0) (.int .i64 0) (.string ⟨#[]⟩) (.int .i64 0) (.slice none 0 0) (.int .i64 0) (.int .i64 0) (.int .i64 0) (.slice none 0 0))
  have HB8 := hide (put11_below (g := w.heap.size + 1) HB.out (by omega) (.int .i64 0) (.int .i64 0) (.int .i64 0) (.int .i64 0) (.string ⟨#[]⟩) (.int .i64 0) (.slice none 0 0) (.int .i64 0) (.int .i64 0) (.int .i64 0) (.slice none 0 0))
  obtain ⟨Y, hY⟩ : ∃ Y, Y = put11 V (w.heap.size + 1) (.int .i64 0) (.int .i64 0) (.int .i64 0) (.int .i64 0) (.string ⟨#[]⟩) (.int .i64 0) (.slice none 0 0) (.int .i64 0) (.int .i64 0) (.int .i64 0) (.slice none 0 0) := ⟨_, rfl⟩
  rw [← hY] at HX8 HB8
  unfold put11 at hY
  have HYY := hide hY
  clear hY
  rcases hk' with h | h
  · go_enter Try.func16, Try.ntmps16
    go_upto_region 2 with fail
    rw [← HV.out]
    obtain ⟨k0, -⟩ := HX.out.c11
    obtain ⟨e0, e1, e2, e3, e4, e5, e6, e7, e8, e9, e10⟩ := HY.out.c11
    obtain ⟨u0, u1, u2, u3, u4, u5, u6, u7, u8, u9, u10⟩ := HY.out.f11
    go_wp2
    rw [← HYY.out]
    obtain ⟨x0, x1, x2, x3, x4, x5, x6, x7, x8, x9, x10⟩ := HX8.out.c11
    refine bodyPost_ret (v := .agg #[.int .i64 0, .int .i64 0, .int .i64 0, .int .i64 0, .string ⟨#[]⟩, .int .i64 0, .slice none 0 0, .int .i64 0, .int .i64 0, .int .i64 0, .slice none 0 0]) (by simp [results, Try.results16, go_sem, x0, x1, x2, x3, x4, x5, x6, x7, x8, x9, x10]) rfl ?_
    exact ⟨⟨#[]⟩, .slice none 0 0, .slice none 0 0, rfl, NM.zero _ _ _ rfl rfl rfl, HB8.out⟩
  · have h' : ¬ n.kind < 1 := by omega
    go_enter Try.func16, Try.ntmps16
    go_upto_region 2 with fail
    rw [← HV.out]
    obtain ⟨k0, -⟩ := HX.out.c11
    obtain ⟨e0, e1, e2, e3, e4, e5, e6, e7, e8, e9, e10⟩ := HY.out.c11
    obtain ⟨u0, u1, u2, u3, u4, u5, u6, u7, u8, u9, u10⟩ := HY.out.f11
    go_wp2
    rw [← HYY.out]
    obtain ⟨x0, x1, x2, x3, x4, x5, x6, x7, x8, x9, x10⟩ := HX8.out.c11
    refine bodyPost_ret (v := .agg #[.int .i64 0, .int .i64 0, .int .i64 0, .int .i64 0, .string ⟨#[]⟩, .int .i64 0, .slice none 0 0, .int .i64 0, .int .i64 0, .int .i64 0, .slice none 0 0]) (by simp [results, Try.results16, go_sem, x0, x1, x2, x3, x4, x5, x6, x7, x8, x9, x10]) rfl ?_
    exact ⟨⟨#[]⟩, .slice none 0 0, .slice none 0 0, rfl, NM.zero _ _ _ rfl rfl rfl, HB8.out⟩

/-- gleanerref10.Clear. -/
theorem rclear_any (n : No) (s : ByteArray) (aa ma : Option Addr) (al ac ml mc : Nat) (B : Nat) (w : World) (hM : NM B w n s (.slice aa al ac) (.slice ma ml mc)) : Calls Try.prog 16 #[Nv n s (.slice aa al ac) (.slice ma ml mc)] w fun e w' => ∃ s' av' mv', e = .returned (Nv (clearN n) s' av' mv') ∧ NM B w' (clearN n) s' av' mv' ∧ Below w.heap.size w w' := by
  by_cases hk : isKind n.kind = true
  · obtain ⟨kd, nd, lf, ep, id, fn, args, er, va, ve, mem⟩ := n
    simp only at hk
    rcases kinds hk with rfl | rfl | rfl | rfl | rfl | rfl | rfl | rfl | rfl | rfl
    · exact rclear_1 nd lf ep id s fn args aa al ac er va ve mem ma ml mc B w hM
    · exact rclear_2 nd lf ep id s fn args aa al ac er va ve mem ma ml mc B w hM
    · exact rclear_3 nd lf ep id s fn args aa al ac er va ve mem ma ml mc B w hM
    · exact rclear_4 nd lf ep id s fn args aa al ac er va ve mem ma ml mc B w hM
    · exact rclear_5 nd lf ep id s fn args aa al ac er va ve mem ma ml mc B w hM
    · exact rclear_6 nd lf ep id s fn args aa al ac er va ve mem ma ml mc B w hM
    · exact rclear_7 nd lf ep id s fn args aa al ac er va ve mem ma ml mc B w hM
    · exact rclear_8 nd lf ep id s fn args aa al ac er va ve mem ma ml mc B w hM
    · exact rclear_9 nd lf ep id s fn args aa al ac er va ve mem ma ml mc B w hM
    · exact rclear_10 nd lf ep id s fn args aa al ac er va ve mem ma ml mc B w hM
  · have hk' : isKind n.kind = false := by simpa using hk
    rw [clear_no n hk']
    exact rclear_none n s aa ma al ac ml mc B w hk'

set_option maxRecDepth 100000 in
set_option maxHeartbeats 8000000 in
theorem big_yes (k nd lf ep : Int) (s : ByteArray) (fn : Int) (aa : Option Addr) (al ac : Nat) (er va ve : Int) (ma : Option Addr) (ml mc : Nat) (w : World) (hs : s.size ≤ maxLen) (hb : 500 < s.size ∨ 200 < al ∨ 200 < ml) : Calls Try.prog 10 #[.agg #[.int .i64 k, .int .i64 nd, .int .i64 lf, .int .i64 ep, .string s, .int .i64 fn, .slice aa al ac, .int .i64 er, .int .i64 va, .int .i64 ve, .slice ma ml mc]] w fun e w' => e = .returned (.bool true) ∧ Below w.heap.size w w' := by
  unfold maxLen at hs
  by_cases h1 : 500 < s.size
  · have h1' : (500 : Int) < (s.size : Int) := by omega
    go_enter Try.func10, Try.ntmps10
    go_wp2
    go_ret
    exact ⟨rfl, below_new w _⟩
  · have h1' : ¬ (500 : Int) < (s.size : Int) := by omega
    by_cases h2 : 200 < al
    · go_enter Try.func10, Try.ntmps10
      go_wp2
      go_ret
      exact ⟨rfl, below_new w _⟩
    · have h3 : 200 < ml := by omega
      go_enter Try.func10, Try.ntmps10
      go_wp2
      go_ret
      exact ⟨(show Ending.returned (Value.bool (decide ((200 : Int) < (al : Int)) || decide ((200 : Int) < (ml : Int)))) = .returned (.bool true) from ret_b (by simp; omega)), below_new w _⟩
set_option maxRecDepth 100000 in
set_option maxHeartbeats 8000000 in
theorem big_no (k nd lf ep : Int) (s : ByteArray) (fn : Int) (aa : Option Addr) (al ac : Nat) (er va ve : Int) (ma : Option Addr) (ml mc : Nat) (w : World) (h1 : s.size ≤ 500) (h2 : al ≤ 200) (h3 : ml ≤ 200) : Calls Try.prog 10 #[.agg #[.int .i64 k, .int .i64 nd, .int .i64 lf, .int .i64 ep, .string s, .int .i64 fn, .slice aa al ac, .int .i64 er, .int .i64 va, .int .i64 ve, .slice ma ml mc]] w fun e w' => e = .returned (.bool false) ∧ Below w.heap.size w w' := by
  have h1' : ¬ (500 : Int) < (s.size : Int) := by omega
  have h2' : ¬ 200 < al := by omega
  have h3' : ¬ 200 < ml := by omega
  clear h1 h2 h3
  go_enter Try.func10, Try.ntmps10
  go_wp2
  go_ret
  exact ⟨(show Ending.returned (Value.bool (decide ((200 : Int) < (al : Int)) || decide ((200 : Int) < (ml : Int)))) = .returned (.bool false) from ret_b (by simp; omega)), below_new w _⟩

end Go.Proofs.Ytgkpioleipefmaa
