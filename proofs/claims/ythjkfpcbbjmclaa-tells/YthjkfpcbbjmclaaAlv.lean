/- The document's example. -/
import Derived.Test.YthjkfpcbbjmclaaFst
namespace Go.Proofs.Ythjkfpcbbjmclaa
open Go.RowKit Go.ChangeShapes Go.WideShapes Go.ChangeAt Go.Deep

theorem reads_i1 (w : World) (x : Int) : Reads (w.alloc (.cells #[.int .i64 x] 3)) (some ⟨w.heap.size, 0, none⟩) (iV [x]) := reads_new w (iV [x]) 3
theorem reads_i2 (w : World) (x y : Int) : Reads (w.alloc (.cells #[.int .i64 x, .int .i64 y] 3)) (some ⟨w.heap.size, 0, none⟩) (iV [x, y]) := reads_new w (iV [x, y]) 3
theorem three : fiM 3 = [(0, 1), (1, 1), (2, 1)] := by decide
set_option linter.unusedSimpArgs false in
set_option maxRecDepth 100000 in
set_option maxHeartbeats 4000000 in
theorem alive_any (w : World) : Calls Try.prog 8 #[] w fun e w' => e = .returned (.bool true) ∧ Below w.heap.size w w' := by
  have C14 := hide (show Calls Try.prog 14 #[.int .i64 3] w (VwPost w 1 0 [(0, 1), (1, 1), (2, 1)]) from first_any 3 w)
  have C10 := hide (fun a c X (hr : Reads X a (mV [(0, 1), (1, 1), (2, 1)])) (hn : a = none → 3 = 0 ∧ c = 0) g (hs : Reads X (some ⟨g, 0, none⟩) (iV [1])) => show Calls Try.prog 10 #[.agg #[.int .i64 1, .slice a 3 c], .slice (some ⟨g, 0, none⟩) 1 1] X (VwPost X 2 0 [(0, 1), (2, 1)]) from
    without_any 1 [(0, 1), (1, 1), (2, 1)] [1] a 3 c (some ⟨g, 0, none⟩) 1 1 X rfl (by omega) hr hn rfl (by omega) hs)
  have C17 := hide (fun n X => num_any n X)
  go_enter Try.func8, Try.ntmps8
  go_upto_region 2 with (go_at_call 14; go_must ((with_reducible refine C14.out.mono ?_); rintro e w1 ⟨v, rfl, ho, hb⟩; obtain ⟨a, c, rfl, hc1, hc2, hn, hr, -⟩ := (show Own _ _ v 3 _ from ho).form; have HR := hide hr; have HN := hide hn; have HB := hide hb; clear ho hb hr hn hc1 hc2))
  have HB1 := hide (HB.out.trans ((below_new w1 (.cells #[.int .i64 1, .slice a 3 c] 24)).mono HB.out.size))
  have HX1 := hide (BoxL.new w1 [.int .i64 1, .slice a 3 c] 24)
  have HR1 := hide (HR.out.below (below_new w1 (.cells #[.int .i64 1, .slice a 3 c] 24)))
  generalize w1.alloc (.cells #[.int .i64 1, .slice a 3 c] 24) = X1 at HB1 HX1 HR1 ⊢
  obtain ⟨⟨x0, x1⟩, -⟩ := HX1.out.c2
  clear HR HB C14
  go_upto_region 3 with (go_at_call 10; go_must ((with_reducible refine (C10.out _ _ _ (HR1.out.below (below_new X1 (.cells #[.int .i64 1] 3))) HN.out _ (reads_i1 X1 1)).mono ?_); rintro e w2 ⟨v2, rfl, ho2, hb2⟩; obtain ⟨a2, c2, rfl, -, -, -, hr2, -⟩ := (show Own _ _ v2 2 _ from ho2).form; have HR2 := hide hr2; have HB2 := hide ((HB1.out.alloc HB1.out.size _).trans (hb2.mono (HB1.out.alloc HB1.out.size _).size)); clear ho2 hb2 hr2))
  have HB3 := hide (HB2.out.trans ((below_new w2 (.cells #[.int .i64 2, .slice a2 2 c2] 24)).mono HB2.out.size))
  have HX3 := hide (BoxL.new w2 [.int .i64 2, .slice a2 2 c2] 24)
  have HR3 := hide (HR2.out.below (below_new w2 (.cells #[.int .i64 2, .slice a2 2 c2] 24)))
  generalize w2.alloc (.cells #[.int .i64 2, .slice a2 2 c2] 24) = X3 at HB3 HX3 HR3 ⊢
  obtain ⟨⟨y0, y1⟩, -⟩ := HX3.out.c2
  obtain ⟨g, off, har, u0, -⟩ := mem_at HR3.out (k := 1) (by simp)
  subst har
  simp only [List.getElem_cons_succ, List.getElem_cons_zero] at u0
  clear HB2 HR2 HX1 HR1 x0 x1 C10
  go_wp2_with (go_at_call 17; go_must ((with_reducible refine (C17.out _ _).mono ?_); rintro e w5 ⟨rfl, hw5⟩; subst hw5))
  go_ret
  exact ⟨rfl, HB3.out⟩
end Go.Proofs.Ythjkfpcbbjmclaa
