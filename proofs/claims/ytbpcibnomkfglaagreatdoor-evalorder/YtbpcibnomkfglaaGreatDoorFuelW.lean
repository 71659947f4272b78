/- EvalFuel: its walk. -/
import Derived.Test.YtbpcibnomkfglaaGreatDoorFuelP
namespace Go.Proofs.YtbpcibnomkfglaaGreatDoor
open Go.RowKit Go.ChangeShapes Go.WideShapes Go.ChangeAt Go.Deep

theorem Tryz.info43 : (Tryz.prog.info? 43).map (fun i => (i.zero, i.size, i.bytes)) = some (some (.agg #[.string ⟨#[]⟩, .int .i64 0, .int .i64 0, .slice none 0 0]), 4, 56) := by kernel_rfl
set_option linter.unusedSimpArgs false in
set_option maxRecDepth 100000 in
set_option maxHeartbeats 16000000 in
theorem fuel_any (n : Int) (w : World) (hE : Env w) : Calls Tryz.prog 9 #[.int .i64 n] w fun r w' => r = .returned (.bool true) ∧ Below w.heap.size w w' := by
  have CA := alive_any w hE
  by_cases g0 : n < 10
  · go_enter Tryz.func9, Tryz.ntmps9
    go_wp2_with (go_at_call 10; go_must (with_reducible refine CA.mono ?_; (rintro e w1 ⟨rfl, hb1⟩)))
    go_ret
    exact ⟨rfl, hb1⟩
  by_cases g1 : 5000 < n
  · go_enter Tryz.func9, Tryz.ntmps9
    go_wp2_with (go_at_call 10; go_must (with_reducible refine CA.mono ?_; (rintro e w1 ⟨rfl, hb1⟩)))
    go_ret
    exact ⟨rfl, hb1⟩
  obtain ⟨m, rfl⟩ : ∃ m : Nat, n = (m : Int) := ⟨n.toNat, by omega⟩
  have hm1 : 10 ≤ m := by omega
  have hm2 : m ≤ 5000 := by omega
  have HQ := hide (fuel_ev m hm1 hm2)
  have HC := hide (fuel_check m hm1 hm2)
  have TN := num_any
  go_enter Tryz.func9, Tryz.ntmps9
  have C14 := fun (W : World) => one_new (some ⟨W.heap.size, 0, none⟩) 5 5 (W.alloc (.cells #[.int .i64 16, .int .i64 1, .int .i64 2, .int .i64 0, .int .i64 16, .int .i64 2, .int .i64 17, .int .i64 0, .int .i64 18, .int .i64 0] 40))
  simp only [oneJ, JV.cells] at C14
  go_wp2_with (first
    | (go_at_call 10; go_must (with_reducible refine CA.mono ?_; (rintro e w1 ⟨rfl, hb1⟩)))
    | (go_at_call 14; refine Hid.out ?_))
  refine Lib.hid ?_
  have hbA := alloc_below w1 (.cells #[.int .i64 16, .int .i64 1, .int .i64 2, .int .i64 0, .int .i64 16, .int .i64 2, .int .i64 17, .int .i64 0, .int .i64 18, .int .i64 0] 40)
  have hnA := heap_alloc_new w1 (.cells #[.int .i64 16, .int .i64 1, .int .i64 2, .int .i64 0, .int .i64 16, .int .i64 2, .int .i64 17, .int .i64 0, .int .i64 18, .int .i64 0] 40)
  refine (C14 w1).mono ?_
  rintro e w2 ⟨h1, rfl, hrow2, hh1, hb2⟩
  clear C14 CA
  have hhw : w.heap.size ≤ h1 := by have := hb1.size; have := hbA.size; omega
  have hr2 : w2.heap[w1.heap.size]? = some (.cells (insV [(16, 1), (2, 0), (16, 2), (17, 0), (18, 0)]).toArray 40 (0, 0)) := heap_row hnA hb2
  have hb12 := chain (chain hb1 hbA) hb2
  have hb3 := alloc_below w2 (.cells #[.slice (some ⟨h1, 0, none⟩) 1 1, .int .i64 0, .slice none 0 0, .int .i64 100, .int .i64 50] 30)
  have hj3 := heap_alloc_new w2 (.cells #[.slice (some ⟨h1, 0, none⟩) 1 1, .int .i64 0, .slice none 0 0, .int .i64 100, .int .i64 50] 30)
  clear hbA hnA hb1 hb2
  go_upto_region 5 with fail
  generalize w2.alloc (.cells #[.slice (some ⟨h1, 0, none⟩) 1 1, .int .i64 0, .slice none 0 0, .int .i64 100, .int .i64 50] 30) = w3 at *
  have hrow3 := heap_row hrow2 hb3
  have hr3 := heap_row hr2 hb3
  have hb13 := chain hb12 hb3
  have hjlt : h1 < w2.heap.size := lt_row hrow2
  generalize w2.heap.size = jb at *
  have j3 := cell_row (i := 3) (cs := [.slice (some ⟨h1, 0, none⟩) 1 1, .int .i64 0, .slice none 0 0, .int .i64 100, .int .i64 50]) hj3 rfl
  have f3 := frozen_row (i := 3) (cs := [.slice (some ⟨h1, 0, none⟩) 1 1, .int .i64 0, .slice none 0 0, .int .i64 100, .int .i64 50]) hj3
  clear hb3 hb12 hrow2 hr2
  go_upto_region 6 with fail
  have hEl := Else.cell jb 3 w3 (.int .i64 (m : Int))
  have hj4 : (w3.setCell ⟨jb, 3, none⟩ (.int .i64 (m : Int))).heap[jb]? = some (.cells [.slice (some ⟨h1, 0, none⟩) 1 1, .int .i64 0, .slice none 0 0, .int .i64 (m : Int), .int .i64 50].toArray 30 (0, 0)) := heap_setCell_same w3 jb 3 _ 30 _ hj3
  have hrow4 := (hEl h1 (tagNe hrow3 hj3 (by decide))).trans hrow3
  have hr4 := (hEl w1.heap.size (tagNe hr3 hj3 (by decide))).trans hr3
  have hb15 : Below w.heap.size w (w3.setCell ⟨jb, 3, none⟩ (.int .i64 (m : Int))) := hb13.setCell (p := ⟨jb, 3, none⟩) (by show w.heap.size ≤ jb; omega) _
  clear hEl hrow3 hr3 hb13 j3 f3 hj3
  generalize w3.setCell ⟨jb, 3, none⟩ (.int .i64 (m : Int)) = w5 at *
  have ho5 : w5.ownsRow w.heap.size 43 4 (.slice (some ⟨h1, 0, none⟩) 1 1) 1 [.string fnm, .int .i64 0, .int .i64 0, .slice (some ⟨w1.heap.size, 0, none⟩) 5 5] := ⟨rfl, .inr ⟨h1, 1, _, rfl, hhw, hrow4, Nat.le_refl _, by unfold maxLen; decide, rfl, rfl⟩⟩
  have j0 := cell_row (i := 0) hj4 rfl
  obtain ⟨i3, hi3, hy0, hy1, hy2⟩ := info_parts Tryz.info43
  obtain ⟨hbx, hsx, p1, p2, p3⟩ := three_blocks w5 (.cells #[.int .i64 14, .int .i64 0] 40) (.cells #[.int .i64 1, .int .i64 8, .int .i64 18, .int .i64 0] 40) (.cells #[.string ⟨#[103]⟩, .int .i64 0, .int .i64 0, .slice (some ⟨w5.heap.size, 0, none⟩) 1 1, .string ⟨#[104]⟩, .int .i64 0, .int .i64 0, .slice (some ⟨w5.heap.size + 1, 0, none⟩) 2 2] 43)
  have o1 : (((w5.alloc (.cells #[.int .i64 14, .int .i64 0] 40)).alloc (.cells #[.int .i64 1, .int .i64 8, .int .i64 18, .int .i64 0] 40)).alloc (.cells #[.string ⟨#[103]⟩, .int .i64 0, .int .i64 0, .slice (some ⟨w5.heap.size, 0, none⟩) 1 1, .string ⟨#[104]⟩, .int .i64 0, .int .i64 0, .slice (some ⟨w5.heap.size + 1, 0, none⟩) 2 2] 43)).ownsRow w.heap.size 43 4 (.slice (some ⟨h1, 0, none⟩) 1 1) 1 [.string fnm, .int .i64 0, .int .i64 0, .slice (some ⟨w1.heap.size, 0, none⟩) 5 5] := ((ho5.alloc _).alloc _).alloc _
  have hcn : ∀ i u, ([.string ⟨#[103]⟩, .int .i64 0, .int .i64 0, .slice (some ⟨w5.heap.size, 0, none⟩) 1 1, .string ⟨#[104]⟩, .int .i64 0, .int .i64 0, .slice (some ⟨w5.heap.size + 1, 0, none⟩) 2 2] : List Value)[i]? = some u → (((w5.alloc (.cells #[.int .i64 14, .int .i64 0] 40)).alloc (.cells #[.int .i64 1, .int .i64 8, .int .i64 18, .int .i64 0] 40)).alloc (.cells #[.string ⟨#[103]⟩, .int .i64 0, .int .i64 0, .slice (some ⟨w5.heap.size, 0, none⟩) 1 1, .string ⟨#[104]⟩, .int .i64 0, .int .i64 0, .slice (some ⟨w5.heap.size + 1, 0, none⟩) 2 2] 43)).cell? ((⟨w5.heap.size + 1 + 1, 0, none⟩ : Addr).add i) = some u := fun i u hu => by
    rw [add_none, Nat.zero_add]
    exact cell_row (cs := [.string ⟨#[103]⟩, .int .i64 0, .int .i64 0, .slice (some ⟨w5.heap.size, 0, none⟩) 1 1, .string ⟨#[104]⟩, .int .i64 0, .int .i64 0, .slice (some ⟨w5.heap.size + 1, 0, none⟩) 2 2]) p3 hu
  have hs5 := hb15.size
  have hjx := heap_row hj4 hbx
  have hrx := heap_row hr4 hbx
  have hbxw := chain hb15 hbx
  go_wp2_with (at_builtin; go_must (refine wpList_append_own _ rfl (.tmp 31) (.tmp 39) 27 rfl w.heap.size 43 i3 (.agg #[.string ⟨#[]⟩, .int .i64 0, .int .i64 0, .slice none 0 0]) 4 56 Tryz.underlying27 hi3 hy0 hy1 hy2 rfl (by decide) (.slice (some ⟨h1, 0, none⟩) 1 1) 1 _ rfl o1 ⟨w5.heap.size + 1 + 1, 0, none⟩ 2 2 [.string ⟨#[103]⟩, .int .i64 0, .int .i64 0, .slice (some ⟨w5.heap.size, 0, none⟩) 1 1, .string ⟨#[104]⟩, .int .i64 0, .int .i64 0, .slice (some ⟨w5.heap.size + 1, 0, none⟩) 2 2] rfl rfl hcn (by simp [Value.oneCell']) (by unfold maxLen; decide) (by decide) (by rw [hsx]; omega) ?_; intro v6 w6 ho6 hg6 hnn; clear hnn; refine Hid.out ?_))
  refine Lib.hid ?_
  obtain ⟨g, cap, rfl⟩ : ∃ g cap, v6 = .slice (some ⟨g, 0, none⟩) 3 cap := by
    rcases ho6.2 with ⟨_, q⟩ | ⟨g, cap, _, q, _⟩
    · cases q
    · exact ⟨g, cap, q⟩
  have hj6 : w6.heap[jb]? = some (.cells [.slice (some ⟨h1, 0, none⟩) 1 1, .int .i64 0, .slice none 0 0, .int .i64 (m : Int), .int .i64 50].toArray 30 (0, 0)) := (hg6.block jb (lt_row hjx) (by show some jb ≠ some h1; intro e; injection e; omega)).trans hjx
  have hT6 := Tg.of o1 hg6
  have hr6 := (hT6 _ _ _ (by decide) hrx).trans hrx
  have hp1 := (hT6 _ _ _ (by decide) p1).trans p1
  have hp2 := (hT6 _ _ _ (by decide) p2).trans p2
  have hb16 : Below w.heap.size w w6 := hbxw.grown hg6 hbxw.size (fun q hq => by have hq' : some h1 = some q := hq; injection hq'; omega)
  have k0 := cell_row (i := 0) hj6 rfl
  have f0 := frozen_row (i := 0) hj6
  clear hbx hcn o1 ho5 j0 hg6 hT6 hrx hjx p1 p2 p3 hj4 hrow4 hr4
  go_upto_region 7 with fail
  have hEl := Else.cell jb 0 w6 (.slice (some ⟨g, 0, none⟩) 3 cap)
  have hj7 : (w6.setCell ⟨jb, 0, none⟩ (.slice (some ⟨g, 0, none⟩) 3 cap)).heap[jb]? = some (.cells [.slice (some ⟨g, 0, none⟩) 3 cap, .int .i64 0, .slice none 0 0, .int .i64 (m : Int), .int .i64 50].toArray 30 (0, 0)) := heap_setCell_same w6 jb 0 _ 30 _ hj6
  have ho7 : (w6.setCell ⟨jb, 0, none⟩ (.slice (some ⟨g, 0, none⟩) 3 cap)).ownsRow w.heap.size 43 4 (.slice (some ⟨g, 0, none⟩) 3 cap) 3 (funV (frs fuelF [.slice (some ⟨w1.heap.size, 0, none⟩) 5 5, .slice (some ⟨w5.heap.size, 0, none⟩) 1 1, .slice (some ⟨w5.heap.size + 1, 0, none⟩) 2 2])) := own_else ho6 hEl hj6 (by decide)
  have hr7 := (hEl _ (tagNe hr6 hj6 (by decide))).trans hr6
  have hq1 := (hEl _ (tagNe hp1 hj6 (by decide))).trans hp1
  have hq2 := (hEl _ (tagNe hp2 hj6 (by decide))).trans hp2
  have hb17 : Below w.heap.size w (w6.setCell ⟨jb, 0, none⟩ (.slice (some ⟨g, 0, none⟩) 3 cap)) := hb16.setCell (p := ⟨jb, 0, none⟩) (by show w.heap.size ≤ jb; omega) _
  clear hEl hj6 ho6 hr6 hp1 hp2 hb16 k0 f0 hbxw
  generalize w6.setCell ⟨jb, 0, none⟩ (.slice (some ⟨g, 0, none⟩) 3 cap) = w7 at *
  have C11 : Calls Tryz.prog 11 #[.agg #[.slice (some ⟨g, 0, none⟩) 3 cap, .int .i64 0, .slice none 0 0, .int .i64 (m : Int), .int .i64 50]] w7 (EvOk w7 [⟨[], 0, [], 0, 8, 5, 2, [1]⟩, ⟨[0], 1, [], 21, 0, m, 0, []⟩, ⟨[1], 2, [], 0, 8, 2, 0, []⟩]) := (eval_fns ho7 rfl rfl (fun i h h' => by
      have hi : i = 0 ∨ i = 1 ∨ i = 2 := by simp [fuelF] at h'; omega
      rcases hi with rfl | rfl | rfl
      · exact ⟨_, _, rfl, .inr ⟨w1.heap.size, 0, rfl, fun i u hu => by rw [Nat.zero_add]; exact cell_row (cs := insV [(16, 1), (2, 0), (16, 2), (17, 0), (18, 0)]) hr7 hu⟩⟩
      · exact ⟨_, _, rfl, .inr ⟨w5.heap.size, 0, rfl, fun i u hu => by rw [Nat.zero_add]; exact cell_row (cs := insV [(14, 0)]) hq1 hu⟩⟩
      · exact ⟨_, _, rfl, .inr ⟨w5.heap.size + 1, 0, rfl, fun i u hu => by rw [Nat.zero_add]; exact cell_row (cs := insV [(1, 8), (18, 0)]) hq2 hu⟩⟩) (m : Int) 50 (hE.below hb17) (by decide) (by decide +kernel) HC.out 6000 20 14 _ HQ.out).mono fun e w' h => h.ok (by simp)
  unfold EvOk at C11
  have a0 := cell_row (i := 0) hj7 rfl
  have a1 := cell_row (i := 1) hj7 rfl
  have a2 := cell_row (i := 2) hj7 rfl
  have a3 := cell_row (i := 3) hj7 rfl
  have a4 := cell_row (i := 4) hj7 rfl
  clear ho7 hr7 hq1 hq2 hj7
  go_wp2_with (go_at_call 11; go_must (with_reducible refine C11.mono ?_; (rintro e w8 ⟨eg, ec, rfl, hat, hb8⟩); refine Hid.out ?_))
  refine Lib.hid ?_
  have C15 := total_any [⟨[], 0, [], 0, 8, 5, 2, [1]⟩, ⟨[0], 1, [], 21, 0, m, 0, []⟩, ⟨[1], 2, [], 0, 8, 2, 0, []⟩] eg ec w8 (by simp) (by simp [sumS]; omega) hat
  have hsum : (sumS [⟨[], 0, [], 0, 8, 5, 2, [1]⟩, ⟨[0], 1, [], 21, 0, m, 0, []⟩, ⟨[1], 2, [], 0, 8, 2, 0, []⟩] : Int) = 5 + (m : Int) + 2 := by simp [sumS]; omega
  rw [hsum] at C15
  simp only [List.length_cons, List.length_nil, Nat.zero_add] at C15
  have hb18 := chain hb17 hb8
  clear C11 a0 a1 a2 a3 a4 hb17 hb8 hsum
  go_wp2_with (go_at_call 15; go_must (with_reducible refine C15.mono ?_; (rintro e w9 ⟨rfl, hb9⟩); refine Hid.out ?_))
  refine Lib.hid ?_
  have b0 := (hat 0 _ rfl).below hb9
  have b1 := (hat 1 _ rfl).below hb9
  have b2 := (hat 2 _ rfl).below hb9
  have c4 : w9.cell? ⟨eg, 4, none⟩ = some (.int .i64 8) := b0.ev
  have c11 : w9.cell? ⟨eg, 11, none⟩ = some (.int .i64 21) := b1.er
  have c13 : w9.cell? ⟨eg, 13, none⟩ = some (.int .i64 (m : Int)) := b1.steps
  have c20 : w9.cell? ⟨eg, 20, none⟩ = some (.int .i64 8) := b2.ev
  have HF := hide (chain hb18 hb9)
  have wr1 : IntKind.i64.wrap (5 + (m : Int)) = 5 + (m : Int) := wrapi (by omega)
  have wr2 : IntKind.i64.wrap (5 + (m : Int) + 2) = 5 + (m : Int) + 2 := wrapi (by omega)
  clear hat b0 b1 b2 C15 hb18 hb9
  go_wp2_with (go_at_call 13; go_must (with_reducible refine (TN _ _).mono ?_; (rintro e wz ⟨rfl, hwz⟩; replace hwz := hwz.symm; subst hwz)))
  go_ret
  exact ⟨rfl, HF.out⟩
end Go.Proofs.YtbpcibnomkfglaaGreatDoor
