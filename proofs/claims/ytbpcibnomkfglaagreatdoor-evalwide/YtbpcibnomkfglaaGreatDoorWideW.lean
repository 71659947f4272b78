/- EvalWide: its evaluation, and its walk. -/
import Derived.Test.YtbpcibnomkfglaaGreatDoorFuelW
namespace Go.Proofs.YtbpcibnomkfglaaGreatDoor
open Go.RowKit Go.ChangeShapes Go.WideShapes Go.ChangeAt Go.Deep

def wideG : Nat → List (Int × Int)
  | 0 => []
  | n + 1 => wideG n ++ [(16, 1), (2, 0)]
def wideC (n : Nat) : List (Int × Int) := wideG n ++ [(1, 9), (18, 0)]
def wideF (n : Nat) : List Fun := [⟨fnm, 0, 0, wideC n⟩, ⟨gnm, 0, 0, [(1, 4), (18, 0)]⟩]
theorem wideG_len : ∀ n, (wideG n).length = 2 * n
  | 0 => rfl
  | n + 1 => by rw [wideG, List.length_append, wideG_len n]; simp; omega
def wideB (n : Nat) : Bool := (checkL (wideF n) 0 0 100 50).2.2 == 0 &&
  (match doE (wideF n) 100 50 101 101 3 [] [] 0 [] with
  | some (E, false, _) => (match E[0]? with | some x => (if n ≤ 16 then E.length == n + 1 && x.ev == 9 && x.awaits.length == 0 else E.length == 17 && x.er == 23 && x.kids == 16) | none => false)
  | _ => false)
theorem wide_0 : wideB 0 = true := by kernel_rfl
theorem wide_1 : wideB 1 = true := by kernel_rfl
theorem wide_2 : wideB 2 = true := by kernel_rfl
theorem wide_3 : wideB 3 = true := by kernel_rfl
theorem wide_4 : wideB 4 = true := by kernel_rfl
theorem wide_5 : wideB 5 = true := by kernel_rfl
theorem wide_6 : wideB 6 = true := by kernel_rfl
theorem wide_7 : wideB 7 = true := by kernel_rfl
theorem wide_8 : wideB 8 = true := by kernel_rfl
theorem wide_9 : wideB 9 = true := by kernel_rfl
theorem wide_10 : wideB 10 = true := by kernel_rfl
theorem wide_11 : wideB 11 = true := by kernel_rfl
theorem wide_12 : wideB 12 = true := by kernel_rfl
theorem wide_13 : wideB 13 = true := by kernel_rfl
theorem wide_14 : wideB 14 = true := by kernel_rfl
theorem wide_15 : wideB 15 = true := by kernel_rfl
theorem wide_16 : wideB 16 = true := by kernel_rfl
theorem wide_17 : wideB 17 = true := by kernel_rfl
theorem wide_18 : wideB 18 = true := by kernel_rfl
theorem wide_19 : wideB 19 = true := by kernel_rfl
theorem wide_20 : wideB 20 = true := by kernel_rfl
theorem wide_21 : wideB 21 = true := by kernel_rfl
theorem wide_22 : wideB 22 = true := by kernel_rfl
theorem wide_23 : wideB 23 = true := by kernel_rfl
theorem wide_24 : wideB 24 = true := by kernel_rfl
theorem wide_25 : wideB 25 = true := by kernel_rfl
theorem wide_26 : wideB 26 = true := by kernel_rfl
theorem wide_27 : wideB 27 = true := by kernel_rfl
theorem wide_28 : wideB 28 = true := by kernel_rfl
theorem wide_29 : wideB 29 = true := by kernel_rfl
theorem wide_30 : wideB 30 = true := by kernel_rfl
theorem wide_31 : wideB 31 = true := by kernel_rfl
theorem wide_32 : wideB 32 = true := by kernel_rfl
theorem wide_33 : wideB 33 = true := by kernel_rfl
theorem wide_34 : wideB 34 = true := by kernel_rfl
theorem wide_35 : wideB 35 = true := by kernel_rfl
theorem wide_36 : wideB 36 = true := by kernel_rfl
theorem wide_37 : wideB 37 = true := by kernel_rfl
theorem wide_38 : wideB 38 = true := by kernel_rfl
theorem wide_39 : wideB 39 = true := by kernel_rfl
theorem wide_40 : wideB 40 = true := by kernel_rfl
theorem wide_all (n : Nat) (h : n ≤ 40) : wideB n = true :=
  match n, h with
  | 0, _ => wide_0
  | 1, _ => wide_1
  | 2, _ => wide_2
  | 3, _ => wide_3
  | 4, _ => wide_4
  | 5, _ => wide_5
  | 6, _ => wide_6
  | 7, _ => wide_7
  | 8, _ => wide_8
  | 9, _ => wide_9
  | 10, _ => wide_10
  | 11, _ => wide_11
  | 12, _ => wide_12
  | 13, _ => wide_13
  | 14, _ => wide_14
  | 15, _ => wide_15
  | 16, _ => wide_16
  | 17, _ => wide_17
  | 18, _ => wide_18
  | 19, _ => wide_19
  | 20, _ => wide_20
  | 21, _ => wide_21
  | 22, _ => wide_22
  | 23, _ => wide_23
  | 24, _ => wide_24
  | 25, _ => wide_25
  | 26, _ => wide_26
  | 27, _ => wide_27
  | 28, _ => wide_28
  | 29, _ => wide_29
  | 30, _ => wide_30
  | 31, _ => wide_31
  | 32, _ => wide_32
  | 33, _ => wide_33
  | 34, _ => wide_34
  | 35, _ => wide_35
  | 36, _ => wide_36
  | 37, _ => wide_37
  | 38, _ => wide_38
  | 39, _ => wide_39
  | 40, _ => wide_40
  | n + 41, h => absurd h (by omega)
theorem wide_ev (n : Nat) (h : n ≤ 40) : (checkL (wideF n) 0 0 100 50).2.2 = 0 ∧ ∃ E r x, doE (wideF n) 100 50 101 101 3 [] [] 0 [] = some (E, false, r) ∧ E[0]? = some x ∧ (if n ≤ 16 then E.length = n + 1 ∧ x.ev = 9 ∧ x.awaits.length = 0 else E.length = 17 ∧ x.er = 23 ∧ x.kids = 16) := by
  have hb := wide_all n h
  unfold wideB at hb
  rw [Bool.and_eq_true] at hb
  refine ⟨by simpa using hb.1, ?_⟩
  have hb := hb.2
  split at hb
  · rename_i E r hq
    split at hb
    · rename_i x hx
      refine ⟨E, r, x, hq, hx, ?_⟩
      split at hb
      · rename_i h16
        rw [if_pos h16]
        simp only [Bool.and_eq_true, beq_iff_eq] at hb
        exact ⟨hb.1.1, hb.1.2, hb.2⟩
      · rename_i h16
        rw [if_neg h16]
        simp only [Bool.and_eq_true, beq_iff_eq] at hb
        exact ⟨hb.1.1, hb.1.2, hb.2⟩
    · cases hb
  · cases hb
set_option linter.unusedSimpArgs false in
set_option maxRecDepth 100000 in
set_option maxHeartbeats 16000000 in
theorem wide_any (n : Int) (w : World) (hE : Env w) : Calls Tryz.prog 7 #[.int .i64 n] w fun r w' => r = .returned (.bool true) ∧ Below w.heap.size w w' := by
  have CA := alive_any w hE
  by_cases g0 : n < 0
  · go_enter Tryz.func7, Tryz.ntmps7
    go_wp2_with (go_at_call 10; go_must (with_reducible refine CA.mono ?_; (rintro e w1 ⟨rfl, hb1⟩)))
    go_ret
    exact ⟨rfl, hb1⟩
  by_cases g1 : 40 < n
  · go_enter Tryz.func7, Tryz.ntmps7
    go_wp2_with (go_at_call 10; go_must (with_reducible refine CA.mono ?_; (rintro e w1 ⟨rfl, hb1⟩)))
    go_ret
    exact ⟨rfl, hb1⟩
  obtain ⟨m, rfl⟩ : ∃ m : Nat, n = (m : Int) := ⟨n.toNat, by omega⟩
  have hm : m ≤ 40 := by omega
  obtain ⟨hC, E, r, x, hq, hx, hall⟩ := wide_ev m hm
  obtain ⟨r1, r2⟩ := r
  have HNE := hide (show E ≠ [] by rintro rfl; cases hx)
  have HQ := hide hq
  have HC := hide hC
  have HX := hide hx
  have HALL := hide hall
  have TN := num_any
  clear hC hq hx hall
  obtain ⟨i0, hi, hz0, hz1, hz2⟩ := info_parts Tryz.info40
  go_enter Tryz.func7, Tryz.ntmps7
  go_wp2_with (go_at_call 10; go_must (with_reducible refine CA.mono ?_; (rintro e w1 ⟨rfl, hb1⟩)))
  clear CA
  go_loopw [4, 5] (fun l i wr => Hid (Below w.heap.size w wr) ∧ ∃ k : Nat, k ≤ m ∧ i = .int .i64 (k : Int) ∧ wr.ownsRow w.heap.size 40 2 l (2 * k) (insV (wideG k))) (fun _ i _ => m - (intOf i).toNat)
  case atStart => exact ⟨hb1, 0, by omega, rfl, by simpa [wideG, insV] using World.ownsRow_nil w1 _ 40 2⟩
  case round =>
    obtain ⟨hbw, k, hk, rfl, ho⟩ := hrel
    have hsz := hbw.out.size
    by_cases hlt : k < m
    · have hlt' : (k : Int) < (m : Int) := by omega
      go_wp2_with (at_builtin; go_must (refine wpList_append_own _ rfl (.tmp 26) (.tmp 29) 41 rfl w.heap.size 40 i0 (.agg #[.int .i64 0, .int .i64 0]) 2 16 Tryz.underlying41 hi hz0 hz1 hz2 rfl (by decide) u4 (2 * k) _ rfl (ho.alloc _) ⟨wr.heap.size, 0, none⟩ 2 2 [.int .i64 16, .int .i64 1, .int .i64 2, .int .i64 0] rfl rfl (cells_new wr _ 40) (by simp [Value.oneCell']) (by unfold maxLen; omega) (by omega) (by simp; omega) ?_; intro v2 w2 ho2 hg2 hnn; clear hnn))
      have HB2 := hide ((hbw.out.alloc (by omega) _).grown hg2 (by simp; omega) (fun q hq => (ho.lt q hq).1))
      have HO2 := hide (show w2.ownsRow w.heap.size 40 2 v2 (2 * (k + 1)) (insV (wideG (k + 1))) by
        rw [wideG, insV_app, show 2 * (k + 1) = 2 * k + 2 by omega]
        exact ho2)
      go_roundw
      case rel => exact ⟨HB2, k + 1, by omega, by go_num, HO2.out⟩
      case measure => simp [intOf]; omega
    · have hlt' : ¬ (k : Int) < (m : Int) := by omega
      have hkm : k = m := by omega
      have HKM := hide hkm
      go_wp2_with (first
        | (at_builtin; go_must (refine wpList_append_own _ rfl (.tmp 31) (.tmp 34) 41 rfl w.heap.size 40 i0 (.agg #[.int .i64 0, .int .i64 0]) 2 16 Tryz.underlying41 hi hz0 hz1 hz2 rfl (by decide) u4 (2 * k) _ rfl (ho.alloc _) ⟨wr.heap.size, 0, none⟩ 2 2 [.int .i64 1, .int .i64 9, .int .i64 18, .int .i64 0] rfl rfl (cells_new wr _ 40) (by simp [Value.oneCell']) (by unfold maxLen; omega) (by omega) (by simp; omega) ?_; intro v2 w2 ho2 hg2 hnn; clear hnn))
        | (go_at_call 14; refine Hid.out ?_))
      refine Lib.hid ?_
      have hb2 := (hbw.out.alloc (by omega) _).grown hg2 (by simp; omega) (fun q hq => (ho.lt q hq).1)
      have hcl : (wideC m).length = 2 * m + 2 := by simp [wideC, wideG_len]
      have hsm : ∀ f ∈ wideF m, f.code.length ≤ 1000000000 ∧ f.name.size < 4294967281 := fun f hf => by
        simp only [wideF, List.mem_cons, List.not_mem_nil, or_false] at hf
        rcases hf with rfl | rfl
        · exact ⟨by show (wideC m).length ≤ _; omega, by show fnm.size < _; decide⟩
        · exact ⟨by show (2 : Nat) ≤ _; decide, by show gnm.size < _; decide⟩
      have ho3 : w2.ownsRow w.heap.size 40 2 v2 (2 * m + 2) (insV (wideC m)) := by
        unfold wideC
        rw [insV_app, ← HKM.out]
        exact ho2
      clear ho2 hg2 ho hbw hsz hlt hb1 hkm HKM hk hlt'
      obtain ⟨a, acap, rfl, _⟩ := own_code ho3
      have C1 := one_new a (2 * m + 2) acap w2
      simp only [oneJ, JV.cells] at C1
      refine C1.mono ?_
      rintro e w3 ⟨h1, rfl, hrow3, hh1, hb3⟩
      have hhw : w.heap.size ≤ h1 := by have := hb2.size; omega
      have hb4 := alloc_below w3 (.cells #[.slice (some ⟨h1, 0, none⟩) 1 1, .int .i64 0, .slice none 0 0, .int .i64 100, .int .i64 50] 30)
      have hj4 := heap_alloc_new w3 (.cells #[.slice (some ⟨h1, 0, none⟩) 1 1, .int .i64 0, .slice none 0 0, .int .i64 100, .int .i64 50] 30)
      clear C1
      go_upto_region 11 with fail
      generalize w3.alloc (.cells #[.slice (some ⟨h1, 0, none⟩) 1 1, .int .i64 0, .slice none 0 0, .int .i64 100, .int .i64 50] 30) = w4 at *
      have hrow4 := heap_row hrow3 hb4
      have ho4 := own_stay ho3 (fun g c _ hg => (chain hb3 hb4).block g (lt_row hg))
      have hb14 := hb2.trans ((chain hb3 hb4).mono hb2.size)
      have hjlt : h1 < w3.heap.size := lt_row hrow3
      clear hb3 hb4 hrow3 ho3 hb2 hh1
      generalize w3.heap.size = jb at *
      have hj5 : w4.heap[jb]? = some (.cells [.slice (some ⟨h1, 0, none⟩) 1 1, .int .i64 0, .slice none 0 0, .int .i64 100, .int .i64 50].toArray 30 (0, 0)) := hj4
      have hrow5 := hrow4
      have ho45 := ho4
      have hb15 := hb14
      clear hj4 hrow4 ho4 hb14
      obtain ⟨w5, hw5⟩ : ∃ w5, w5 = w4 := ⟨_, rfl⟩
      subst hw5
      have ho5 : w5.ownsRow w.heap.size 43 4 (.slice (some ⟨h1, 0, none⟩) 1 1) 1 [.string fnm, .int .i64 0, .int .i64 0, .slice a (2 * m + 2) acap] := ⟨rfl, .inr ⟨h1, 1, _, rfl, hhw, hrow5, Nat.le_refl _, by unfold maxLen; decide, rfl, rfl⟩⟩
      have j0 := cell_row (i := 0) hj5 rfl
      obtain ⟨i3, hi3, hy0, hy1, hy2⟩ := info_parts Tryz.info43
      have hbx : Below w5.heap.size w5 ((w5.alloc (.cells #[.int .i64 1, .int .i64 4, .int .i64 18, .int .i64 0] 40)).alloc (.cells #[.string ⟨#[103]⟩, .int .i64 0, .int .i64 0, .slice (some ⟨w5.heap.size, 0, none⟩) 2 2] 43)) := ((Below.refl _ _).alloc (Nat.le_refl _) _).alloc (by simp) _
      have hsx : ((w5.alloc (.cells #[.int .i64 1, .int .i64 4, .int .i64 18, .int .i64 0] 40)).alloc (.cells #[.string ⟨#[103]⟩, .int .i64 0, .int .i64 0, .slice (some ⟨w5.heap.size, 0, none⟩) 2 2] 43)).heap.size = w5.heap.size + 2 := by simp
      have p1 : ((w5.alloc (.cells #[.int .i64 1, .int .i64 4, .int .i64 18, .int .i64 0] 40)).alloc (.cells #[.string ⟨#[103]⟩, .int .i64 0, .int .i64 0, .slice (some ⟨w5.heap.size, 0, none⟩) 2 2] 43)).heap[w5.heap.size]? = some (.cells #[.int .i64 1, .int .i64 4, .int .i64 18, .int .i64 0] 40 (0, 0)) := (heap_alloc_old _ _ (by simp)).trans (heap_alloc_new w5 _)
      have p3 : ((w5.alloc (.cells #[.int .i64 1, .int .i64 4, .int .i64 18, .int .i64 0] 40)).alloc (.cells #[.string ⟨#[103]⟩, .int .i64 0, .int .i64 0, .slice (some ⟨w5.heap.size, 0, none⟩) 2 2] 43)).heap[w5.heap.size + 1]? = some (.cells #[.string ⟨#[103]⟩, .int .i64 0, .int .i64 0, .slice (some ⟨w5.heap.size, 0, none⟩) 2 2] 43 (0, 0)) := by
        have := heap_alloc_new (w5.alloc (.cells #[.int .i64 1, .int .i64 4, .int .i64 18, .int .i64 0] 40)) (.cells #[.string ⟨#[103]⟩, .int .i64 0, .int .i64 0, .slice (some ⟨w5.heap.size, 0, none⟩) 2 2] 43)
        simpa using this
      have o1 : ((w5.alloc (.cells #[.int .i64 1, .int .i64 4, .int .i64 18, .int .i64 0] 40)).alloc (.cells #[.string ⟨#[103]⟩, .int .i64 0, .int .i64 0, .slice (some ⟨w5.heap.size, 0, none⟩) 2 2] 43)).ownsRow w.heap.size 43 4 (.slice (some ⟨h1, 0, none⟩) 1 1) 1 [.string fnm, .int .i64 0, .int .i64 0, .slice a (2 * m + 2) acap] := (ho5.alloc _).alloc _
      have hcn : ∀ i u, ([.string ⟨#[103]⟩, .int .i64 0, .int .i64 0, .slice (some ⟨w5.heap.size, 0, none⟩) 2 2] : List Value)[i]? = some u → ((w5.alloc (.cells #[.int .i64 1, .int .i64 4, .int .i64 18, .int .i64 0] 40)).alloc (.cells #[.string ⟨#[103]⟩, .int .i64 0, .int .i64 0, .slice (some ⟨w5.heap.size, 0, none⟩) 2 2] 43)).cell? ((⟨w5.heap.size + 1, 0, none⟩ : Addr).add i) = some u := fun i u hu => by
        rw [add_none, Nat.zero_add]
        exact cell_row (cs := [.string ⟨#[103]⟩, .int .i64 0, .int .i64 0, .slice (some ⟨w5.heap.size, 0, none⟩) 2 2]) p3 hu
      have hs5 := hb15.size
      have hjx := heap_row hj5 hbx
      have hox := own_stay ho45 (fun g c _ hg => hbx.block g (lt_row hg))
      have hbxw := chain hb15 hbx
      go_wp2_with (at_builtin; go_must (refine wpList_append_own _ rfl (.tmp 39) (.tmp 44) 27 rfl w.heap.size 43 i3 (.agg #[.string ⟨#[]⟩, .int .i64 0, .int .i64 0, .slice none 0 0]) 4 56 Tryz.underlying27 hi3 hy0 hy1 hy2 rfl (by decide) (.slice (some ⟨h1, 0, none⟩) 1 1) 1 _ rfl o1 ⟨w5.heap.size + 1, 0, none⟩ 1 1 [.string ⟨#[103]⟩, .int .i64 0, .int .i64 0, .slice (some ⟨w5.heap.size, 0, none⟩) 2 2] rfl rfl hcn (by simp [Value.oneCell']) (by unfold maxLen; decide) (by decide) (by rw [hsx]; omega) ?_; intro v6 w6 ho6 hg6 hnn; clear hnn; refine Hid.out ?_))
      refine Lib.hid ?_
      obtain ⟨g, cap, rfl⟩ : ∃ g cap, v6 = .slice (some ⟨g, 0, none⟩) 2 cap := by
        rcases ho6.2 with ⟨_, q⟩ | ⟨g, cap, _, q, _⟩
        · cases q
        · exact ⟨g, cap, q⟩
      have hj6 : w6.heap[jb]? = some (.cells [.slice (some ⟨h1, 0, none⟩) 1 1, .int .i64 0, .slice none 0 0, .int .i64 100, .int .i64 50].toArray 30 (0, 0)) := (hg6.block jb (lt_row hjx) (by show some jb ≠ some h1; intro e; injection e; omega)).trans hjx
      have hT6 := Tg.of o1 hg6
      have ho46 := own_tg hox hT6 (by decide)
      have hp1 := (hT6 _ _ _ (by decide) p1).trans p1
      have hb16 : Below w.heap.size w w6 := hbxw.grown hg6 hbxw.size (fun q hq => by have hq' : some h1 = some q := hq; injection hq'; omega)
      have k0 := cell_row (i := 0) hj6 rfl
      have f0 := frozen_row (i := 0) hj6
      clear hbx hcn o1 ho5 j0 hg6 hT6 hox hjx p1 p3 hj5 hrow5 ho45
      go_upto_region 12 with fail
      have hEl := Else.cell jb 0 w6 (.slice (some ⟨g, 0, none⟩) 2 cap)
      have hj7 : (w6.setCell ⟨jb, 0, none⟩ (.slice (some ⟨g, 0, none⟩) 2 cap)).heap[jb]? = some (.cells [.slice (some ⟨g, 0, none⟩) 2 cap, .int .i64 0, .slice none 0 0, .int .i64 100, .int .i64 50].toArray 30 (0, 0)) := heap_setCell_same w6 jb 0 _ 30 _ hj6
      have ho7 : (w6.setCell ⟨jb, 0, none⟩ (.slice (some ⟨g, 0, none⟩) 2 cap)).ownsRow w.heap.size 43 4 (.slice (some ⟨g, 0, none⟩) 2 cap) 2 (funV (frs (wideF m) [.slice a (2 * m + 2) acap, .slice (some ⟨w5.heap.size, 0, none⟩) 2 2])) := own_else ho6 hEl hj6 (by decide)
      have ho47 := own_else ho46 hEl hj6 (by decide)
      have hq1 := (hEl _ (tagNe hp1 hj6 (by decide))).trans hp1
      have hb17 : Below w.heap.size w (w6.setCell ⟨jb, 0, none⟩ (.slice (some ⟨g, 0, none⟩) 2 cap)) := hb16.setCell (p := ⟨jb, 0, none⟩) (by show w.heap.size ≤ jb; omega) _
      clear hEl hj6 ho6 ho46 hp1 hb16 k0 f0 hbxw
      generalize w6.setCell ⟨jb, 0, none⟩ (.slice (some ⟨g, 0, none⟩) 2 cap) = w7 at *
      have hrc : Reads w7 a (insV (wideC m)) := by
        obtain ⟨a', c', e, hr⟩ := own_code ho47
        simp only [Value.slice.injEq] at e
        obtain ⟨rfl, _⟩ := e
        exact hr
      have C11 : Calls Tryz.prog 11 #[.agg #[.slice (some ⟨g, 0, none⟩) 2 cap, .int .i64 0, .slice none 0 0, .int .i64 100, .int .i64 50]] w7 (EvOk w7 E) := (eval_fns ho7 rfl rfl (fun i h h' => by
          have hi : i = 0 ∨ i = 1 := by simp at h; omega
          rcases hi with rfl | rfl
          · exact ⟨a, acap, by show Value.slice a (2 * m + 2) acap = .slice a (wideC m).length acap; rw [hcl], hrc⟩
          · exact ⟨_, _, rfl, .inr ⟨w5.heap.size, 0, rfl, fun i u hu => by rw [Nat.zero_add]; exact cell_row (cs := insV [(1, 4), (18, 0)]) hq1 hu⟩⟩) _ 50 (hE.below hb17) (by decide) hsm (HC.out) 101 101 3 _ HQ.out).mono fun e w' h => h.ok HNE.out
      unfold EvOk at C11
      have a0 := cell_row (i := 0) hj7 rfl
      have a1 := cell_row (i := 1) hj7 rfl
      have a2 := cell_row (i := 2) hj7 rfl
      have a3 := cell_row (i := 3) hj7 rfl
      have a4 := cell_row (i := 4) hj7 rfl
      clear ho7 ho47 hq1 hj7 hrc
      go_wp2_with (go_at_call 11; go_must (with_reducible refine C11.mono ?_; (rintro e w8 ⟨eg, ec, rfl, hat, hb8⟩); refine Hid.out ?_))
      refine Lib.hid ?_
      have HF := hide (chain hb17 hb8)
      clear C11 a0 a1 a2 a3 a4 hb17 hb8
      have x0 := hat 0 x HX.out
      by_cases h16 : m ≤ 16
      · have hall := HALL.out
        rw [if_pos h16] at hall
        obtain ⟨hl, h1', h2'⟩ := hall
        obtain ⟨wa, wc, z7, _⟩ := x0.aws
        have c4 : w8.cell? ⟨eg, 4, none⟩ = some (.int .i64 9) := by rw [← h1']; exact x0.ev
        have c7 : w8.cell? ⟨eg, 7, none⟩ = some (.slice wa 0 wc) := by rw [← h2']; exact z7
        have k16 : (m : Int) ≤ 16 := by omega
        have wr : IntKind.i64.wrap ((m : Int) + 1) = (m : Int) + 1 := wrapi (by omega)
        have hpi : (0 : Int) < (E.length : Int) := by omega
        have hpn : 0 < E.length := by omega
        have hle : ((E.length : Int) == (m : Int) + 1) = true := by rw [hl]; simp
        clear hat x0 h1' h2' hl HALL h16 z7
        go_wp2_with (go_at_call 13; go_must (with_reducible refine (TN _ _).mono ?_; (rintro e wz ⟨rfl, hwz⟩; replace hwz := hwz.symm; subst hwz)))
        go_ret
        exact ⟨rfl, HF.out⟩
      · have hall := HALL.out
        rw [if_neg h16] at hall
        obtain ⟨hl, h1', h2'⟩ := hall
        have c3 : w8.cell? ⟨eg, 3, none⟩ = some (.int .i64 23) := by rw [← h1']; exact x0.er
        have c6 : w8.cell? ⟨eg, 6, none⟩ = some (.int .i64 16) := by have := x0.kids; rw [h2'] at this; exact this
        have k16 : ¬ (m : Int) ≤ 16 := by omega
        rw [hl] at *
        clear hat x0 h1' h2' hl HALL h16
        go_wp2_with (go_at_call 13; go_must (with_reducible refine (TN _ _).mono ?_; (rintro e wz ⟨rfl, hwz⟩; replace hwz := hwz.symm; subst hwz)))
        go_ret
        exact ⟨rfl, HF.out⟩
end Go.Proofs.YtbpcibnomkfglaaGreatDoor
