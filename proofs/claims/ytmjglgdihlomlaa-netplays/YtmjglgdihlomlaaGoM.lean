/- (*net.Net).Gone: the set of the nodes that are gone, and the test. -/
import Derived.Test.YtmjglgdihlomlaaBig
import Derived.Maps.OwnSet
namespace Go.Proofs.Ytmjglgdihlomlaa
open Go.RowKit Go.ChangeShapes Go.WideShapes Go.ChangeAt Go.Deep Go.Maps

theorem law3 : Keyed Try.prog 3 := int_keyed Try.underlying3
theorem zero55 (w : World) : (zeroValue 55).run Try.prog w = .ok (.agg #[]) w := by kernel_rfl
/-- The set in memory. -/
def setD (ns : List Int) : DataW Unit := setOf (.agg []) (ns.map (Lit.int .i64))
theorem has_set (ns : List Int) (x : Int) : Maps.has (setD ns) (.int .i64 x) = decide (x ∈ ns) := by
  unfold setD
  rw [has_setOf _ _ _ (fun y hy => by obtain ⟨_, _, rfl⟩ := List.mem_map.1 hy; trivial), List.any_map]
  induction ns with
  | nil => simp
  | cons a r ih =>
    rw [List.any_cons, ih]
    by_cases h : x = a
    · subst h; simp [Lit.sameKey]
    · have h2 : ¬ a = x := fun e => h e.symm
      simp [Lit.sameKey, h, h2]
theorem set_snoc (ns : List Int) (x : Int) : setD (ns ++ [x]) = (setD ns).put (.int .i64 x) (.agg []) := by
  unfold setD
  rw [List.map_append, List.map_singleton, setOf_snoc]
def GoneM (w : World) (gb b : Nat) (ns : List Int) : Prop :=
  w.cell? ⟨gb, 0, none⟩ = some (.map (some b)) ∧ ∃ n, w.ownsMap Try.prog 3 (unitElem (H := Unit)) b n (setD ns)

set_option linter.unusedSimpArgs false in
set_option maxRecDepth 100000 in
set_option maxHeartbeats 2000000 in
theorem gone_test (w : World) (gb b : Nat) (ns : List Int) (f t : Int) (xa : Option Addr) (xn xc : Nat) (h : GoneM w gb b ns) (hf : (Lit.int .i64 f).wf = true) (ht : (Lit.int .i64 t).wf = true) :
    Calls Try.prog 28 #[.agg #[.int .i64 f, .int .i64 t, .slice xa xn xc], .pointer (some ⟨gb, 0, none⟩)] w fun e w' => e = .returned (.bool (decide (f ∈ ns) || decide (t ∈ ns))) ∧ Below w.heap.size w w' := by
  obtain ⟨hc, n, hown⟩ := h
  have hk1 : keyOf Try.prog 3 (.int .i64 f) = some (.int .i64 f) := keyOf_int_mk Try.underlying3 hf
  have hk2 : keyOf Try.prog 3 (.int .i64 t) = some (.int .i64 t) := keyOf_int_mk Try.underlying3 ht
  have H1 := hide (has_set ns f)
  have H2 := hide (has_set ns t)
  have hV := box1 w [.int .i64 f, .int .i64 t, .slice xa xn xc] 37
  have hoV := hown.alloc (.cells #[.int .i64 f, .int .i64 t, .slice xa xn xc] 37)
  obtain ⟨V, hVe⟩ : ∃ V, V = w.alloc (.cells #[.int .i64 f, .int .i64 t, .slice xa xn xc] 37) := ⟨_, rfl⟩
  have hX : BoxL V w.heap.size [.int .i64 f, .int .i64 t, .slice xa xn xc] := by rw [hVe]; exact hV.1
  have hB : Below w.heap.size w V := by rw [hVe]; exact hV.2.1
  rw [← hVe] at hoV
  have HVE := hide hVe
  obtain ⟨x0, x1, -⟩ := hX.c3
  have hcV := keep_cell hc hB
  have hbn := below_new V (.cells #[] 55)
  have hc1 := keep_cell hcV hbn
  have x11 := keep_cell x1 hbn
  have ho1 := hoV.alloc (.cells #[] 55)
  have HB1 := hide (show Below w.heap.size w (V.alloc (.cells #[] 55)) from hB.trans (hbn.mono hB.size))
  have HB2 := hide (show Below w.heap.size w ((V.alloc (.cells #[] 55)).alloc (.cells #[] 55)) from HB1.out.trans ((below_new _ _).mono HB1.out.size))
  obtain ⟨V1, hV1⟩ : ∃ V1, V1 = V.alloc (.cells #[] 55) := ⟨_, rfl⟩
  rw [← hV1] at hc1 x11 ho1 HB1 HB2
  have HV1 := hide hV1
  clear hVe hV hX hB hbn hV1 hc hown
  rw [← H1.out, ← H2.out]
  clear H1 H2
  go_enter Try.func28, Try.ntmps28
  go_upto_region 1 with fail
  rw [← HVE.out]
  go_upto_region 2 with (first
    | (at_lookup; refine wpList_lookup_own_unit _ rfl _ _ 54 rfl 3 55 law3 Try.underlying54 (zero55 _) b n _ rfl hoV _ _ rfl hk1 ?_))
  rw [← HV1.out]
  go_upto_region 3 with (first
    | (at_lookup; refine wpList_lookup_own_unit _ rfl _ _ 54 rfl 3 55 law3 Try.underlying54 (zero55 _) b n _ rfl ho1 _ _ rfl hk2 ?_))
  generalize hp1 : Maps.has (setD ns) (.int .i64 f) = p1
  generalize hp2 : Maps.has (setD ns) (.int .i64 t) = p2
  have HP1 := hide hp1
  have HP2 := hide hp2
  clear hp1 hp2
  cases p1
  · go_wp2
    go_ret
    exact ⟨by rw [HP1.out, HP2.out]; rfl, HB2.out⟩
  · go_wp2
    go_ret
    exact ⟨by rw [HP1.out, HP2.out]; rfl, HB2.out⟩
end Go.Proofs.Ytmjglgdihlomlaa
