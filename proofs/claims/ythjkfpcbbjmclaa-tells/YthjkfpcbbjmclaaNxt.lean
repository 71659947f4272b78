/- The next view. -/
import Derived.Test.YthjkfpcbbjmclaaDel
namespace Go.Proofs.Ythjkfpcbbjmclaa
open Go.RowKit Go.ChangeShapes Go.WideShapes Go.ChangeAt Go.Deep

/-- A view that is answered, with its error. -/
abbrev vw (p : Int) (v : Value) (er : Int) : Value := .tuple #[.agg #[.int .i64 p, v], .int .i64 er]
theorem BoxL.put2 {w : World} {g : Nat} {a b : Value} (h : BoxL w g [a, b]) (x y : Value) : BoxL ((w.setCell ⟨g, 0, none⟩ x).setCell ⟨g, 1, none⟩ y) g [x, y] :=
  (h.put 0 x).put 1 y
theorem below_put2 {T g : Nat} {w0 w : World} (hb : Below T w0 w) (hT : T ≤ g) (x y : Value) : Below T w0 ((w.setCell ⟨g, 0, none⟩ x).setCell ⟨g, 1, none⟩ y) :=
  hb.trans ((below_cell hT x).trans (below_cell hT y))

set_option linter.unusedSimpArgs false in
set_option maxRecDepth 100000 in
set_option maxHeartbeats 1000000 in
/-- view.next. -/
theorem next_any (ep : Int) (v0 v : Value) (a : Option Addr) (n c : Nat) (w : World) (hv : v = .slice a n c) (hv0 : ∃ a0 n0 c0, v0 = .slice a0 n0 c0) (he : 1 ≤ ep ∧ ep ≤ 2147483647) :
    Calls Try.prog 30 #[.agg #[.int .i64 ep, v0], v] w fun e w' => e = .returned (if ep = 2147483647 then vw 0 (.slice none 0 0) 16 else vw (ep + 1) v 0) ∧ Below w.heap.size w w' := by
  obtain ⟨a0, n0, c0, rfl⟩ := hv0
  subst hv
  obtain ⟨hx1, hx2, hx3, hx4⟩ := box2 w [.int .i64 ep, .slice a0 n0 c0] [.int .i64 0, .slice none 0 0] 24 24
  obtain ⟨V, hV⟩ : ∃ V, V = (w.alloc (.cells #[.int .i64 ep, .slice a0 n0 c0] 24)).alloc (.cells #[.int .i64 0, .slice none 0 0] 24) := ⟨_, rfl⟩
  have HX := hide (show BoxL V w.heap.size [.int .i64 ep, .slice a0 n0 c0] by rw [hV]; exact hx1)
  have HY := hide (show BoxL V (w.heap.size + 1) [.int .i64 0, .slice none 0 0] by rw [hV]; exact hx2)
  have HB := hide (show Below w.heap.size w V by rw [hV]; exact hx3)
  have HV := hide hV
  clear hx1 hx2 hx3 hx4 hV
  by_cases hm : ep = 2147483647
  · subst hm
    rw [if_pos rfl]
    have HZ := hide (HY.out.put2 (.int .i64 0) (.slice none 0 0))
    have HW := hide (below_put2 HB.out (g := w.heap.size + 1) (by omega) (.int .i64 0) (.slice none 0 0))
    go_enter Try.func30, Try.ntmps30
    go_upto_region 1 with fail
    rw [← HV.out]
    obtain ⟨⟨x0, x1⟩, -⟩ := HX.out.c2
    obtain ⟨⟨y0, y1⟩, y2, y3⟩ := HY.out.c2
    go_wp2
    generalize (V.setCell ⟨w.heap.size + 1, 0, none⟩ (.int .i64 0)).setCell ⟨w.heap.size + 1, 1, none⟩ (.slice none 0 0) = X at HZ HW ⊢
    obtain ⟨⟨z0, z1⟩, -⟩ := HZ.out.c2
    refine bodyPost_ret (v := vw 0 (.slice none 0 0) 16) (by simp [results, Try.results30, go_sem, z0, z1, vw]) rfl ?_
    exact ⟨rfl, HW.out⟩
  · rw [if_neg hm]
    have q : (ep == 2147483647) = false := by simp [hm]
    have hw : IntKind.i64.wrap (ep + 1) = ep + 1 := by rw [IntKind.wrap_i64]; omega
    have HZ := hide (HY.out.put2 (.int .i64 (ep + 1)) (.slice a n c))
    have HW := hide (below_put2 HB.out (g := w.heap.size + 1) (by omega) (.int .i64 (ep + 1)) (.slice a n c))
    clear hm
    go_enter Try.func30, Try.ntmps30
    go_upto_region 1 with fail
    rw [← HV.out]
    obtain ⟨⟨x0, x1⟩, -⟩ := HX.out.c2
    obtain ⟨⟨y0, y1⟩, y2, y3⟩ := HY.out.c2
    go_wp2
    generalize (V.setCell ⟨w.heap.size + 1, 0, none⟩ (.int .i64 (ep + 1))).setCell ⟨w.heap.size + 1, 1, none⟩ (.slice a n c) = X at HZ HW ⊢
    obtain ⟨⟨z0, z1⟩, -⟩ := HZ.out.c2
    refine bodyPost_ret (v := vw (ep + 1) (.slice a n c) 0) (by simp [results, Try.results30, go_sem, z0, z1, vw]) rfl ?_
    exact ⟨rfl, HW.out⟩
theorem next_max (ep : Int) (v0 v : Value) (a : Option Addr) (n c : Nat) (w : World) (hv : v = .slice a n c) (hv0 : ∃ a0 n0 c0, v0 = .slice a0 n0 c0) (he : 1 ≤ ep ∧ ep ≤ 2147483647) (hm : ep = 2147483647) :
    Calls Try.prog 30 #[.agg #[.int .i64 ep, v0], v] w fun e w' => e = .returned (vw 0 (.slice none 0 0) 16) ∧ Below w.heap.size w w' := by
  refine (next_any ep v0 v a n c w hv hv0 he).mono ?_
  rw [if_pos hm]
  exact fun _ _ h => h
theorem next_more (ep : Int) (v0 v : Value) (a : Option Addr) (n c : Nat) (w : World) (hv : v = .slice a n c) (hv0 : ∃ a0 n0 c0, v0 = .slice a0 n0 c0) (he : 1 ≤ ep ∧ ep ≤ 2147483647) (hm : ep ≠ 2147483647) :
    Calls Try.prog 30 #[.agg #[.int .i64 ep, v0], v] w fun e w' => e = .returned (vw (ep + 1) v 0) ∧ Below w.heap.size w w' := by
  refine (next_any ep v0 v a n c w hv hv0 he).mono ?_
  rw [if_neg hm]
  exact fun _ _ h => h
end Go.Proofs.Ythjkfpcbbjmclaa
