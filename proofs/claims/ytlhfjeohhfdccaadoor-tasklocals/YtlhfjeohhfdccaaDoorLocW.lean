/- TaskLocals: its walk. -/
import Derived.Test.YtlhfjeohhfdccaaDoorLocP
namespace Go.Proofs.YtlhfjeohhfdccaaDoor
open Go.RowKit Go.ChangeShapes Go.WideShapes Go.ChangeAt Go.Deep

/-- The code as far as it stands. -/
def locH (p v : Int) (k : Nat) : List (Int × Int) := (1, v) :: (6, p) :: (1, 0) :: locG 0 k
theorem locH_snoc (p v : Int) (k : Nat) : locH p v (k + 1) = locH p v k ++ [(1, 3), (9, 0), (5, (k : Int)), (7, 0)] := by
  unfold locH
  rw [locG_snoc, Nat.zero_add]
  rfl
theorem locH_end (p v : Int) (n : Nat) : locH p v n ++ [(18, 0)] = locC n p v := rfl
/-- The locals, one of them put. -/
def locL (xs : List Int) (n : Nat) (p : Nat) (v : Int) : List Int := (xs ++ List.replicate (n - xs.length) 0).set p v
theorem locL_at (xs : List Int) (n p k : Nat) (v : Int) (hx : xs.length ≤ n) (hk : k < n) : (locL xs n p v)[k]? = some (if k = p then v else if k < xs.length then xs.getD k 0 else 0) := by
  unfold locL
  rw [List.getElem?_set]
  by_cases hp : p = k
  · subst hp
    rw [if_pos rfl, if_pos rfl, if_pos (by simp; omega)]
  · rw [if_neg hp, if_neg (fun e => hp e.symm)]
    by_cases hl : k < xs.length
    · rw [List.getElem?_append_left hl, if_pos hl]
      simp [List.getD, hl]
    · rw [List.getElem?_append_right (by omega), if_neg hl, List.getElem?_replicate]
      rw [if_pos (by omega)]
theorem locD_len : ∀ n, (locD n).length = 4 * n + 1
  | 0 => rfl
  | n + 1 => by
    simp [locD, locD_len n]
    omega
theorem locL_len (xs : List Int) (n p : Nat) (v : Int) (hx : xs.length ≤ n) : (locL xs n p v).length = n := by
  simp [locL]
  omega
set_option linter.unusedSimpArgs false in
set_option maxRecDepth 100000 in
set_option maxHeartbeats 4000000 in
theorem locals_law (aa : Option Addr) (na ac : Nat) (xs : List Int) (more p v : Int) (w : World) (hE : Env w) (hxl : xs.length = na) (hxr : Reads w aa (iV xs)) (hmore : -9223372036854775808 ≤ more ∧ more ≤ 9223372036854775807) : Calls Tryd.prog 7 #[.slice aa na ac, .int .i64 more, .int .i64 p, .int .i64 v] w fun r w' => r = .returned (.bool true) ∧ Below w.heap.size w w' := by
  have CA := talive_any w hE
  by_cases g0 : 8 < (na : Int)
  · go_enter Tryd.func7, Tryd.ntmps7
    go_wp2_with (go_at_call 9; go_must (with_reducible refine CA.mono ?_; (rintro e w1 ⟨rfl, hb1⟩)))
    go_ret
    exact ⟨rfl, hb1⟩
  by_cases g1 : more < 0
  · go_enter Tryd.func7, Tryd.ntmps7
    go_wp2_with (go_at_call 9; go_must (with_reducible refine CA.mono ?_; (rintro e w1 ⟨rfl, hb1⟩)))
    go_ret
    exact ⟨rfl, hb1⟩
  by_cases g2 : wrap64 ((na : Int) + more) < 1
  · go_enter Tryd.func7, Tryd.ntmps7
    go_wp2_with (go_at_call 9; go_must (with_reducible refine CA.mono ?_; (rintro e w1 ⟨rfl, hb1⟩)))
    go_ret
    exact ⟨rfl, hb1⟩
  by_cases g3 : 16 < wrap64 ((na : Int) + more)
  · go_enter Tryd.func7, Tryd.ntmps7
    go_wp2_with (go_at_call 9; go_must (with_reducible refine CA.mono ?_; (rintro e w1 ⟨rfl, hb1⟩)))
    go_ret
    exact ⟨rfl, hb1⟩
  by_cases g4 : p < 0
  · go_enter Tryd.func7, Tryd.ntmps7
    go_wp2_with (go_at_call 9; go_must (with_reducible refine CA.mono ?_; (rintro e w1 ⟨rfl, hb1⟩)))
    go_ret
    exact ⟨rfl, hb1⟩
  by_cases g5 : wrap64 ((na : Int) + more) ≤ p
  · go_enter Tryd.func7, Tryd.ntmps7
    go_wp2_with (go_at_call 9; go_must (with_reducible refine CA.mono ?_; (rintro e w1 ⟨rfl, hb1⟩)))
    go_ret
    exact ⟨rfl, hb1⟩
  obtain ⟨n, hN⟩ : ∃ n : Nat, wrap64 ((na : Int) + more) = (n : Int) := ⟨(wrap64 ((na : Int) + more)).toNat, by omega⟩
  obtain ⟨p', rfl⟩ : ∃ p' : Nat, p = (p' : Int) := ⟨p.toNat, by omega⟩
  have hnn : na ≤ n := by
    unfold wrap64 at hN
    omega
  have hn1 : 1 ≤ n := by omega
  have hn16 : n ≤ 16 := by omega
  have hpn : p' < n := by omega
  have hna8 : na ≤ 8 := by omega
  rw [hN] at g2 g3 g5
  have HN := hide hN
  obtain ⟨i0, hi, hz0, hz1, hz2⟩ := info_parts Tryd.info24
  have hg5 : ¬ (n : Int) ≤ (p' : Int) := by omega
  go_enter Tryd.func7, Tryd.ntmps7
  go_wp2_with (go_at_call 9; go_must (with_reducible refine CA.mono ?_; (rintro e w1 ⟨rfl, hb1⟩)))
  rename_i hcond K0 a0
  clear hcond g0 g1 g2 g3 g4 g5 hg5
  clear CA
  have HXL := hide hxl
  clear hxl hN hmore
  have hb1a := hb1.alloc hb1.size (.cells #[.int .i64 1, .int .i64 v, .int .i64 6, .int .i64 (p' : Int), .int .i64 1, .int .i64 0] 24)
  have ho1 : (w1.alloc (.cells #[.int .i64 1, .int .i64 v, .int .i64 6, .int .i64 (p' : Int), .int .i64 1, .int .i64 0] 24)).ownsRow w.heap.size 24 2 (.slice (some ⟨w1.heap.size, 0, none⟩) 3 3) 3 (insV (locH (p' : Int) v 0)) := ⟨rfl, .inr ⟨w1.heap.size, 3, #[.int .i64 1, .int .i64 v, .int .i64 6, .int .i64 (p' : Int), .int .i64 1, .int .i64 0], rfl, hb1.size, heap_alloc_new _ _, Nat.le_refl _, by unfold maxLen; omega, rfl, rfl⟩⟩
  go_loopw [11, 12] (fun l i wr => Hid (Below w.heap.size w wr) ∧ ∃ k : Nat, k ≤ n ∧ i = .int .i64 (k : Nat) ∧ wr.ownsRow w.heap.size 24 2 l (4 * k + 3) (insV (locH (p' : Int) v k))) (fun _ i _ => n - (intOf i).toNat)
  case atStart => exact ⟨hb1a, 0, Nat.zero_le _, rfl, ho1⟩
  case round =>
    obtain ⟨hbw, k, hk, rfl, ho⟩ := hrel
    have hsz := hbw.out.size
    by_cases hlt : k < n
    · have hlt' : (k : Int) < (n : Int) := by omega
      go_wp2_with (at_builtin; go_must (refine wpList_append_own _ rfl (.tmp 66) (.tmp 72) 25 rfl w.heap.size 24 i0 (.agg #[.int .i64 0, .int .i64 0]) 2 16 Tryd.underlying25 hi hz0 hz1 hz2 rfl (by decide) u11 (4 * k + 3) _ rfl (ho.alloc _) ⟨wr.heap.size, 0, none⟩ 4 4 [.int .i64 1, .int .i64 3, .int .i64 9, .int .i64 0, .int .i64 5, .int .i64 (k : Int), .int .i64 7, .int .i64 0] rfl rfl (cells_new wr _ 24) (by simp [Value.oneCell']) (by unfold maxLen; omega) (by omega) (by simp; omega) ?_; intro v2 w2 ho2 hg2 hnn; clear hnn))
      have HB2 := hide ((hbw.out.alloc (by omega) _).grown hg2 (by simp; omega) (fun q hq => (ho.lt q hq).1))
      go_roundw
      case rel => exact ⟨HB2, k + 1, by omega, by go_num, by rw [locH_snoc, insV_app, show 4 * (k + 1) + 3 = 4 * k + 3 + 4 by omega]; exact ho2⟩
      case measure => simp [intOf]; omega
    · have hkm : k = n := by omega
      subst hkm
      go_wp2_with (first
        | (at_builtin; go_must (refine wpList_append_own _ rfl (.tmp 74) (.tmp 76) 25 rfl w.heap.size 24 i0 (.agg #[.int .i64 0, .int .i64 0]) 2 16 Tryd.underlying25 hi hz0 hz1 hz2 rfl (by decide) u11 (4 * k + 3) _ rfl (ho.alloc _) ⟨wr.heap.size, 0, none⟩ 1 1 [.int .i64 18, .int .i64 0] rfl rfl (cells_new wr _ 24) (by simp [Value.oneCell']) (by unfold maxLen; omega) (by omega) (by simp; omega) ?_; intro v2 w2 ho2 hg2 hnn; clear hnn))
        | (go_at_call 10; refine Hid.out ?_))
      refine Lib.hid ?_
      have hb2 := ((hbw.out.alloc (by omega) _).grown hg2 (by simp; omega) (fun q hq => (ho.lt q hq).1))
      have ho3 : w2.ownsRow w.heap.size 24 2 v2 (4 * k + 3 + 1) (insV (locC k (p' : Int) v)) := by rw [← locH_end, insV_app]; exact ho2
      have hcb := fun g hg => (ho3.lt g hg).2
      obtain ⟨a, cap, rfl, hr⟩ := own_code ho3
      have hcl : ∀ x, a = some x → x.block < w2.heap.size := fun x hx => by subst hx; exact hcb x.block rfl
      have C1 := one_new a (4 * k + 3 + 1) cap w2
      refine C1.mono ?_
      rintro e w3 ⟨h1, rfl, hrow3, hge3, hb3⟩
      have hb03 := chain hb2 hb3
      have hr3 := hr.below hb3
      have hge : w.heap.size ≤ h1 := Nat.le_trans hb2.size hge3
      have hcl1 : ∀ x, a = some x → x.block ≠ h1 := fun x hx => by have := hcl x hx; omega
      have hcl2 : ∀ x, a = some x → x.block ≠ w3.heap.size := fun x hx => by have := hcl x hx; have := hb3.size; omega
      simp only [oneJ, JV.cells]
      have hba := alloc_below w3 (.cells #[.slice (some ⟨h1, 0, none⟩) 1 1, .int .i64 0, .slice none 0 0, .int .i64 100, .int .i64 50] 29)
      have hja := heap_alloc_new w3 (.cells #[.slice (some ⟨h1, 0, none⟩) 1 1, .int .i64 0, .slice none 0 0, .int .i64 100, .int .i64 50] 29)
      have hjl : w.heap.size ≤ w3.heap.size := hb03.size
      have hne : h1 ≠ w3.heap.size := fun e => by have := lt_row hrow3; omega
      clear C1 hr ho3 ho2 hg2 ho hb2 hb3 hbw hsz hlt hb1 hcb hcl hb1a ho1 hge3
      go_upto_region 12 with fail
      generalize w3.alloc (.cells #[.slice (some ⟨h1, 0, none⟩) 1 1, .int .i64 0, .slice none 0 0, .int .i64 100, .int .i64 50] 29) = w4 at *
      have hb04 := chain hb03 hba
      have hrow4 := heap_row hrow3 hba
      have hr4 := hr3.below hba
      clear hba hb03 hrow3 hr3
      generalize w3.heap.size = jb at *
      have hja4 : w4.heap[jb]? = some (.cells [.slice (some ⟨h1, 0, none⟩) 1 1, .int .i64 0, .slice none 0 0, .int .i64 100, .int .i64 50].toArray 29 (0, 0)) := hja
      have j0 := cell_row (i := 0) hja4 rfl
      have z1 := cell_row (i := 1) hrow4 rfl
      have zf1 := frozen_row (i := 1) hrow4
      have hA := set_row (i := 1) hrow4 (.int .i64 (na : Int))
      have hAj : (w4.setCell ⟨h1, 1, none⟩ (.int .i64 (na : Int))).heap[jb]? = _ := (heap_setCell_other _ _ _ _ hne.symm).trans hja4
      have j0a := cell_row (i := 0) hAj rfl
      have z2 := cell_row (i := 2) hA rfl
      have zf2 := frozen_row (i := 2) hA
      have hB := set_row (i := 2) hA (.int .i64 (k : Int))
      have hBj : ((w4.setCell ⟨h1, 1, none⟩ (.int .i64 (na : Int))).setCell ⟨h1, 2, none⟩ (.int .i64 (k : Int))).heap[jb]? = _ := (heap_setCell_other _ _ _ _ hne.symm).trans hAj
      have y2 := cell_row (i := 2) hBj rfl
      have yf2 := frozen_row (i := 2) hBj
      have hCj := set_row (i := 2) hBj (.slice aa na ac)
      have y3 := cell_row (i := 3) hCj rfl
      have yf3 := frozen_row (i := 3) hCj
      have hDj := set_row (i := 3) hCj (.int .i64 200)
      have hD : ((((w4.setCell ⟨h1, 1, none⟩ (.int .i64 (na : Int))).setCell ⟨h1, 2, none⟩ (.int .i64 (k : Int))).setCell ⟨jb, 2, none⟩ (.slice aa na ac)).setCell ⟨jb, 3, none⟩ (.int .i64 200)).heap[h1]? = _ := (heap_setCell_other _ _ _ _ hne).trans ((heap_setCell_other _ _ _ _ hne).trans hB)
      have rD : Reads ((((w4.setCell ⟨h1, 1, none⟩ (.int .i64 (na : Int))).setCell ⟨h1, 2, none⟩ (.int .i64 (k : Int))).setCell ⟨jb, 2, none⟩ (.slice aa na ac)).setCell ⟨jb, 3, none⟩ (.int .i64 200)) a (insV (locC k (p' : Int) v)) := by
        have q1 : Reads (w4.setCells h1 1 [.int .i64 (na : Int)]) _ _ := reads_setCells hr4 hcl1 1
        have q2 : Reads ((w4.setCells h1 1 [.int .i64 (na : Int)]).setCells h1 2 [.int .i64 (k : Int)]) _ _ := reads_setCells q1 hcl1 2
        have q3 : Reads (((w4.setCells h1 1 [.int .i64 (na : Int)]).setCells h1 2 [.int .i64 (k : Int)]).setCells jb 2 [.slice aa na ac]) _ _ := reads_setCells q2 hcl2 2
        exact reads_setCells (vs := [.int .i64 200]) q3 hcl2 3
      have hbD : Below w.heap.size w ((((w4.setCell ⟨h1, 1, none⟩ (.int .i64 (na : Int))).setCell ⟨h1, 2, none⟩ (.int .i64 (k : Int))).setCell ⟨jb, 2, none⟩ (.slice aa na ac)).setCell ⟨jb, 3, none⟩ (.int .i64 200)) := (((hb04.setCell (p := ⟨h1, 1, none⟩) hge _).setCell (p := ⟨h1, 2, none⟩) hge _).setCell (p := ⟨jb, 2, none⟩) hjl _).setCell (p := ⟨jb, 3, none⟩) hjl _
      go_upto_region 16 with fail
      clear j0 z1 zf1 hA hAj j0a z2 zf2 hB hBj y2 yf2 hCj y3 yf3 hja hja4 hrow4 hr4 hb04 hcl1 hcl2
      generalize ((((w4.setCell ⟨h1, 1, none⟩ (.int .i64 (na : Int))).setCell ⟨h1, 2, none⟩ (.int .i64 (k : Int))).setCell ⟨jb, 2, none⟩ (.slice aa na ac)).setCell ⟨jb, 3, none⟩ (.int .i64 200)) = w5 at *
      have hxr5 := hxr.below hbD
      have hlen : (xs ++ List.replicate (k - na) 0).length = k := by
        have := HXL.out
        simp
        omega
      have hsm : ∀ f ∈ [locF na k (p' : Int) v], f.code.length ≤ 1000000000 ∧ f.name.size < 4294967281 := fun f hf => by
        simp at hf
        subst hf
        refine ⟨?_, by show fnm.size < _; decide⟩
        show (locC k (p' : Int) v).length ≤ _
        rw [locC_len]
        omega
      have hC := check_gen (f := locF na k (p' : Int) v) (na := na) (fuel := 200) (tasks := 50) (by decide) (by decide) rfl (loc_err na k (p' : Int) v hna8 hnn hn1 hn16 ⟨by omega, by omega⟩)
      have HJ := hide (fun (W : World) (hW : Below w5.heap.size w5 W) => job_gen (ac := ac) (code := locC k (p' : Int) v) (na : Int) (k : Int) 200 50 aa na xs (heap_row hD hW) (by rw [locC_len]) (rD.below hW) HXL.out (hxr5.below hW))
      have C2 := begin_args _ _ [locF na k (p' : Int) v] xs 0 (locF na k (p' : Int) v) k w5 (HJ.out w5 (Below.refl _ _)) (hE.below hbD) (by simp) hsm (by rw [HXL.out]; exact hC) rfl aa na ac xs HXL.out hxr5 rfl hnn rfl (by omega)
      rw [show ((0 : Nat) : Int) = 0 from rfl] at C2
      have x0 := cell_row (i := 0) hDj rfl
      have x1 := cell_row (i := 1) hDj rfl
      have x2 := cell_row (i := 2) hDj rfl
      have x3 := cell_row (i := 3) hDj rfl
      have x4 := cell_row (i := 4) hDj rfl
      clear hD rD hDj
      go_wp2_with (go_at_call 11; go_must (with_reducible refine C2.mono ?_; (rintro e w6 ⟨lb, rfl, hlb, hb6⟩); refine Hid.out ?_))
      refine Lib.hid ?_
      have hbb := alloc_below w6 (.cells #[.int .i64 0, .int .i64 0, .int .i64 0, .slice none 0 0, .slice (some ⟨lb, 0, none⟩) k k, .int .i64 0, .bool false] 34)
      have hsb := heap_alloc_new w6 (.cells #[.int .i64 0, .int .i64 0, .int .i64 0, .slice none 0 0, .slice (some ⟨lb, 0, none⟩) k k, .int .i64 0, .bool false] 34)
      have hb56 := chain hb6 hbb
      have hlb7 := heap_row hlb hbb
      clear C2 hb6 hbb hlb
      go_upto_region 17 with fail
      generalize w6.alloc (.cells #[.int .i64 0, .int .i64 0, .int .i64 0, .slice none 0 0, .slice (some ⟨lb, 0, none⟩) k k, .int .i64 0, .bool false] 34) = w7 at *
      have hb07 := chain hbD hb56
      have hq := loc_run na k (p' : Int) v (xs ++ List.replicate (k - na) 0) hn1 hn16 hlen ⟨by omega, by omega⟩
      have hrl : Reads w7 (some ⟨lb, 0, none⟩) (iV (xs ++ List.replicate (k - na) 0)) := .inr ⟨lb, 0, rfl, fun j u hu => by
        rw [Nat.zero_add]
        exact cell_row hlb7 hu⟩
      have C3 := run_Q _ _ [locF na k (p' : Int) v] xs 0 0 0 0 0 1000 false none (some ⟨lb, 0, none⟩) 0 k [] (xs ++ List.replicate (k - na) 0) (0 :: 1 :: 0 :: locD k) (locF na k (p' : Int) v) _ (4 * k + 10) w7 (HJ.out w7 hb56) (hE.below hb07) (by simp) hsm (deps_gen (by rw [HXL.out]; exact hC) (loc_deps (na : Int) (p' : Int) v k hn1 hn16)) rfl rfl (by rw [hlen]; rfl) (by omega) (by show ((0 : Nat) : Int) ≤ 200; omega) (by have : (0 :: 1 :: 0 :: locD k).length ≤ 1000000000 := by { simp [locD_len]; omega }; exact this) (.inl rfl) hrl (fun _ => ⟨rfl, rfl⟩) (fun e => by cases e) (by simp) (by rw [hlen]; omega) (fun e => by cases e) hq
      unfold RunQ at C3
      simp only [finM, List.length_nil, List.length_cons, List.length_set, hlen, Nat.zero_add] at C3
      rw [show ((0 : Nat) : Int) = 0 from rfl] at C3
      replace x0 := keep_cell x0 hb56
      replace x1 := keep_cell x1 hb56
      replace x2 := keep_cell x2 hb56
      replace x3 := keep_cell x3 hb56
      replace x4 := keep_cell x4 hb56
      have s0 : w7.cell? ⟨w6.heap.size, 0, none⟩ = some (.int .i64 0) := by simp only [World.cell?, hsb]; rfl
      have s1 : w7.cell? ⟨w6.heap.size, 1, none⟩ = some (.int .i64 0) := by simp only [World.cell?, hsb]; rfl
      have s2 : w7.cell? ⟨w6.heap.size, 2, none⟩ = some (.int .i64 0) := by simp only [World.cell?, hsb]; rfl
      have s3 : w7.cell? ⟨w6.heap.size, 3, none⟩ = some (.slice none 0 0) := by simp only [World.cell?, hsb]; rfl
      have s4 : w7.cell? ⟨w6.heap.size, 4, none⟩ = some (.slice (some ⟨lb, 0, none⟩) k k) := by simp only [World.cell?, hsb]; rfl
      have s5 : w7.cell? ⟨w6.heap.size, 5, none⟩ = some (.int .i64 0) := by simp only [World.cell?, hsb]; rfl
      have s6 : w7.cell? ⟨w6.heap.size, 6, none⟩ = some (.bool false) := by simp only [World.cell?, hsb]; rfl
      have HRES := hide (show accL ((xs ++ List.replicate (k - na) 0).set (p' : Int).toNat v) 0 = accL (locL xs k p' v) 0 by unfold locL; rw [HXL.out, Int.toNat_natCast])
      clear hsb hb56 hq HJ hC hsm hrl hlb7 hlen
      generalize accL ((xs ++ List.replicate (k - na) 0).set (p' : Int).toNat v) 0 = res at C3 HRES
      generalize ((4 * k + 3 : Nat) : Int) = ppc at C3
      generalize ((4 * k + 4 : Nat) : Int) = pfu at C3
      generalize w6.heap.size = sb at *
      go_wp2_with (go_at_call 12; go_must (with_reducible refine C3.mono ?_; (rintro e w8 ⟨sa', sc', la', lc', aa', ac', rfl, q1, n1, q2, n2, q3, n3, hbk, hb8⟩); refine Hid.out ?_))
      refine Lib.hid ?_
      have hb08 := chain hb07 hb8
      clear C3 x0 x1 x2 x3 x4 s0 s1 s2 s3 s4 s5 s6 hb8 hb07 q1 n1 q2 n2 q3 n3 hbk
      have HBZ := hide (show Below w.heap.size w ((w8.alloc (.cells #[.int .i64 0, .int .i64 ppc, .int .i64 pfu, .slice sa' 1 sc', .slice la' k lc', .int .i64 0, .bool false] 34)).alloc (.cells #[.int .i64 3, .int .i64 0, .int .i64 0, .int .i64 pfu, .slice aa' 0 ac', .int .i64 0, .int .i64 res] 41)) from (hb08.alloc hb08.size _).alloc (by have := hb08.size; simp; omega) _)
      have hez : ((w8.alloc (.cells #[.int .i64 0, .int .i64 ppc, .int .i64 pfu, .slice sa' 1 sc', .slice la' k lc', .int .i64 0, .bool false] 34)).alloc (.cells #[.int .i64 3, .int .i64 0, .int .i64 0, .int .i64 pfu, .slice aa' 0 ac', .int .i64 0, .int .i64 res] 41)).heap[w8.heap.size + 1]? = some (.cells [.int .i64 3, .int .i64 0, .int .i64 0, .int .i64 pfu, .slice aa' 0 ac', .int .i64 0, .int .i64 res].toArray 41 (0, 0)) := by
        have := heap_alloc_new (w8.alloc (.cells #[.int .i64 0, .int .i64 ppc, .int .i64 pfu, .slice sa' 1 sc', .slice la' k lc', .int .i64 0, .bool false] 34)) (.cells #[.int .i64 3, .int .i64 0, .int .i64 0, .int .i64 pfu, .slice aa' 0 ac', .int .i64 0, .int .i64 res] 41)
        simpa using this
      go_upto_region 18 with fail
      generalize ((w8.alloc (.cells #[.int .i64 0, .int .i64 ppc, .int .i64 pfu, .slice sa' 1 sc', .slice la' k lc', .int .i64 0, .bool false] 34)).alloc (.cells #[.int .i64 3, .int .i64 0, .int .i64 0, .int .i64 pfu, .slice aa' 0 ac', .int .i64 0, .int .i64 res] 41)) = w9 at *
      generalize w8.heap.size = tb at *
      have hxr9 := hxr.below HBZ.out
      have HEZ := hide hez
      clear hez hb08 hxr hxr5
      go_wp2_with fail
      go_loopw [18, 19] (fun wv i wr => wr = w9 ∧ ∃ c : Nat, c ≤ k ∧ i = .int .i64 (c : Nat) ∧ wv = .int .i64 (accL ((locL xs k p' v).take c) 0)) (fun _ i _ => k - (intOf i).toNat)
      case atStart => exact ⟨rfl, 0, Nat.zero_le _, rfl, rfl⟩
      case round =>
        obtain ⟨rfl, c, hc, rfl, rfl⟩ := hrel
        by_cases hlt : c < k
        · have hlt' : (c : Int) < (k : Int) := by omega
          have hat := locL_at xs k p' c v (by rw [HXL.out]; exact hnn) hlt
          rw [HXL.out] at hat
          have hnx := congrArg (fun l => accL l 0) (List.take_add_one (l := locL xs k p' v) (i := c))
          simp only [hat, Option.toList_some, accL_snoc] at hnx
          have HNX := hide hnx
          clear hnx hat
          generalize accL ((locL xs k p' v).take c) 0 = acc at *
          by_cases hcp : c = p'
          · subst hcp
            have hcpb : ((c : Int) == (c : Int)) = true := by simp
            by_cases hca : c < na
            · have hca' : (c : Int) < (na : Int) := by omega
              have hx : xs[c]? = some (xs[c]'(by rw [HXL.out]; exact hca)) := List.getElem?_eq_getElem _
              obtain ⟨xb, xo, rfl, xc⟩ := reads_iV hxr9 hx
              go_wp2_with fail
              go_roundw
              case rel => exact ⟨trivial, c + 1, by omega, by go_num, by rw [HNX.out]; simp⟩
              case measure => simp [intOf]; omega
            · have hca' : ¬ (c : Int) < (na : Int) := by omega
              go_wp2_with fail
              go_roundw
              case rel => exact ⟨trivial, c + 1, by omega, by go_num, by rw [HNX.out]; simp⟩
              case measure => simp [intOf]; omega
          · have hcpb : ((c : Int) == (p' : Int)) = false := by
              rw [beq_eq_false_iff_ne]
              omega
            by_cases hca : c < na
            · have hca' : (c : Int) < (na : Int) := by omega
              have hcl : c < xs.length := by rw [HXL.out]; exact hca
              have hx : xs[c]? = some (xs[c]'hcl) := List.getElem?_eq_getElem _
              have hgd : xs.getD c 0 = xs[c]'hcl := by simp [List.getD, hcl]
              have HGD := hide hgd
              obtain ⟨xb, xo, rfl, xc⟩ := reads_iV hxr9 hx
              generalize xs[c]'hcl = xv at xc HGD
              go_wp2_with fail
              go_roundw
              case rel => exact ⟨trivial, c + 1, by omega, by go_num, by rw [HNX.out, if_neg hcp, if_pos hca, HGD.out]⟩
              case measure => simp [intOf]; omega
            · have hca' : ¬ (c : Int) < (na : Int) := by omega
              go_wp2_with fail
              go_roundw
              case rel => exact ⟨trivial, c + 1, by omega, by go_num, by rw [HNX.out, if_neg hcp, if_neg hca]; try simp⟩
              case measure => simp [intOf]; omega
        · have hck : c = k := by omega
          subst hck
          have hfull : (locL xs c p' v).take c = locL xs c p' v := List.take_of_length_le (by rw [locL_len _ _ _ _ (by rw [HXL.out]; exact hnn)]; exact Nat.le_refl _)
          rw [hfull, ← HRES.out]
          have e0 := cell_row (i := 0) HEZ.out rfl
          have e5 := cell_row (i := 5) HEZ.out rfl
          have e6 := cell_row (i := 6) HEZ.out rfl
          have hrr : (res == res) = true := by simp
          have TN := tnum_any
          clear hfull
          go_wp2_with (go_at_call 13; go_must (with_reducible refine (TN _ _).mono ?_; (rintro e w10 ⟨rfl, rfl⟩)))
          go_ret
          exact ⟨rfl, HBZ.out⟩
end Go.Proofs.YtlhfjeohhfdccaaDoor
