/- EvalOrder: its walk. -/
import Derived.Test.YtbpcibnomkfglaaGreatDoorOrdV
import Derived.Test.YtbpcibnomkfglaaGreatDoorFuelW
import Derived.BigQuiet
namespace Go.Proofs.YtbpcibnomkfglaaGreatDoor
open Go.RowKit Go.ChangeShapes Go.WideShapes Go.ChangeAt Go.Deep

theorem i64_mask (m : Nat) (hm : m < 63) (n : Int) : bits .and .i64 n ((2 ^ m - 1 : Nat) : Int) = n % ((2 ^ m : Nat) : Int) := by
  have hle : 2 ^ m ≤ 2 ^ 62 := Nat.pow_le_pow_right (by decide) (by omega)
  have h1 : (BitVec.ofInt 64 ((2 ^ m - 1 : Nat) : Int)).toNat = 2 ^ m - 1 := by
    rw [BitVec.ofInt_natCast, BitVec.toNat_ofNat]; exact Nat.mod_eq_of_lt (by omega)
  have key : (BitVec.ofInt 64 n &&& BitVec.ofInt 64 ((2 ^ m - 1 : Nat) : Int)).toNat = (n % ((2 ^ 64 : Nat) : Int)).toNat % 2 ^ m := by
    rw [BitVec.toNat_and, BitVec.toNat_ofInt, h1, Nat.and_two_pow_sub_one_eq_mod]
  show IntKind.i64.wrap ((BitVec.ofInt 64 n &&& BitVec.ofInt 64 ((2 ^ m - 1 : Nat) : Int)).toNat : Nat) = _
  have hp : 0 < 2 ^ m := Nat.two_pow_pos m
  have hd : (2 ^ m) ∣ 2 ^ 64 := Nat.pow_dvd_pow 2 (by omega)
  have h2 : (((n % ((2 ^ 64 : Nat) : Int)).toNat % 2 ^ m : Nat) : Int) = n % ((2 ^ m : Nat) : Int) := by
    rw [Int.natCast_emod, Int.toNat_of_nonneg (Int.emod_nonneg _ (by decide))]
    exact Int.emod_emod_of_dvd n (Int.natCast_dvd_natCast.2 hd)
  have h3 : (n % ((2 ^ 64 : Nat) : Int)).toNat % 2 ^ m < 2 ^ m := Nat.mod_lt _ hp
  rw [key, IntKind.wrap_i64, h2]
  have h4 : n % ((2 ^ m : Nat) : Int) < ((2 ^ m : Nat) : Int) := Int.emod_lt_of_pos _ (by omega)
  have h5 : 0 ≤ n % ((2 ^ m : Nat) : Int) := Int.emod_nonneg _ (by omega)
  omega
def modA (x : Int) : Nat := (x % 128).toNat
def modK (K : Nat) (x : Int) : Nat := modA x % K
theorem and127 (x : Int) : bits .and .i64 x 127 = (modA x : Int) := by
  have h : bits .and .i64 x 127 = x % 128 := i64_mask 7 (by decide) x
  have : 0 ≤ x % 128 := Int.emod_nonneg _ (by decide)
  rw [h, modA]
  omega
theorem rem_mod (K : Nat) (x : Int) : ((modA x : Nat) : Int).tmod (K : Int) = (modK K x : Int) := by
  rw [Int.tmod_eq_emod_of_nonneg (by omega), ← Int.natCast_emod, modK]
theorem modK_lt (K : Nat) (hK : 1 ≤ K) (x : Int) : modK K x < K := Nat.mod_lt _ hK
theorem ordH_take {ks : List Nat} {c k : Nat} (h : ks[c]? = some k) : ordH (ks.take (c + 1)) = ordH (ks.take c) ++ [(1, (k : Int)), (17, 0), (7, 0)] := by
  rw [List.take_add_one, h, Option.toList_some, ordH_app]
  rfl
theorem ordA_take {ks : List Nat} {c k : Nat} (h : ks[c]? = some k) : ordA (ks.take (c + 1)) = ordA (ks.take c) + (10 * k + 1) := by
  rw [List.take_add_one, h, Option.toList_some, ordA_app]
  rfl
set_option linter.unusedSimpArgs false in
set_option maxRecDepth 100000 in
set_option maxHeartbeats 16000000 in
theorem order_any (n : Int) (aa : Option Addr) (na ac : Nat) (xs : List Int) (w : World) (hE : Env w) (hxl : xs.length = na) (hxr : Reads w aa (iV xs)) : Calls Tryz.prog 8 #[.int .i64 n, .slice aa na ac] w fun r w' => r = .returned (.bool true) ∧ Below w.heap.size w w' := by
  have CA := alive_any w hE
  by_cases g0 : n < 1
  · go_enter Tryz.func8, Tryz.ntmps8
    go_wp2_with (go_at_call 10; go_must (with_reducible refine CA.mono ?_; (rintro e w1 ⟨rfl, hb1⟩)))
    go_ret
    exact ⟨rfl, hb1⟩
  by_cases g1 : 16 < n
  · go_enter Tryz.func8, Tryz.ntmps8
    go_wp2_with (go_at_call 10; go_must (with_reducible refine CA.mono ?_; (rintro e w1 ⟨rfl, hb1⟩)))
    go_ret
    exact ⟨rfl, hb1⟩
  by_cases g2 : 20 < (na : Int)
  · go_enter Tryz.func8, Tryz.ntmps8
    go_wp2_with (go_at_call 10; go_must (with_reducible refine CA.mono ?_; (rintro e w1 ⟨rfl, hb1⟩)))
    go_ret
    exact ⟨rfl, hb1⟩
  obtain ⟨m, rfl⟩ : ∃ m : Nat, n = (m : Int) := ⟨n.toNat, by omega⟩
  have hm1 : 1 ≤ m := by omega
  have hm16 : m ≤ 16 := by omega
  have hna : na ≤ 20 := by omega
  obtain ⟨ks, hks⟩ : ∃ ks, ks = xs.map (modK m) := ⟨_, rfl⟩
  have hkl : ks.length = na := by rw [hks, List.length_map, hxl]
  have hklt : ∀ k ∈ ks, k < m := fun k hk => by
    rw [hks, List.mem_map] at hk
    obtain ⟨x, _, rfl⟩ := hk
    exact modK_lt m hm1 x
  obtain ⟨st, hq⟩ := ord_ev m hm1 hm16 ks (by omega) hklt
  have HQ := hide hq
  have HC := hide (ord_check m ks hm16 (by omega))
  have HKS := hide hks
  have HKL := hide hkl
  have HXL := hide hxl
  have HAL := hide (fun c => ordA_le m (ks.take c) (fun k hk => hklt k (List.mem_of_mem_take hk)))
  have TN := num_any
  have hm0 : ¬ ((m : Int) = 0) := by omega
  clear hq hks hkl hxl hklt
  obtain ⟨i0, hi, hz0, hz1, hz2⟩ := info_parts Tryz.info40
  go_enter Tryz.func8, Tryz.ntmps8
  go_wp2_with (go_at_call 10; go_must (with_reducible refine CA.mono ?_; (rintro e w1 ⟨rfl, hb1⟩)))
  clear CA g0 g1 g2
  go_loopw [6, 7] (fun l i wr => Hid (Below w.heap.size w wr) ∧ ∃ k : Nat, k ≤ m ∧ i = .int .i64 (k : Int) ∧ wr.ownsRow w.heap.size 40 2 l (3 * k) (insV (ordG k))) (fun _ i _ => m - (intOf i).toNat)
  case atStart => exact ⟨hb1, 0, by omega, rfl, by simpa [ordG, insV] using World.ownsRow_nil w1 _ 40 2⟩
  case round =>
    obtain ⟨hbw, k, hk, rfl, ho⟩ := hrel
    have hsz := hbw.out.size
    by_cases hlt : k < m
    · have hlt' : (k : Int) < (m : Int) := by omega
      have w10 : IntKind.i64.wrap (10 * (k : Int)) = ((10 * k : Nat) : Int) := by rw [wrapi (by omega)]; simp
      go_wp2_with (at_builtin; go_must (refine wpList_append_own _ rfl (.tmp 37) (.tmp 43) 41 rfl w.heap.size 40 i0 (.agg #[.int .i64 0, .int .i64 0]) 2 16 Tryz.underlying41 hi hz0 hz1 hz2 rfl (by decide) u6 (3 * k) _ rfl (ho.alloc _) ⟨wr.heap.size, 0, none⟩ 3 3 [.int .i64 1, .int .i64 ((10 * k : Nat) : Int), .int .i64 16, .int .i64 1, .int .i64 2, .int .i64 0] rfl rfl (cells_new wr _ 40) (by simp [Value.oneCell']) (by unfold maxLen; omega) (by omega) (by simp; omega) ?_; intro v2 w2 ho2 hg2 hnn; clear hnn))
      have HB2 := hide ((hbw.out.alloc (by omega) _).grown hg2 (by simp; omega) (fun q hq => (ho.lt q hq).1))
      have HO2 := hide (show w2.ownsRow w.heap.size 40 2 v2 (3 * (k + 1)) (insV (ordG (k + 1))) by
        rw [ordG, insV_app, show 3 * (k + 1) = 3 * k + 3 by omega]
        exact ho2)
      go_roundw
      case rel => exact ⟨HB2, k + 1, by omega, by go_num, HO2.out⟩
      case measure => simp [intOf]; omega
    · have hlt' : ¬ (k : Int) < (m : Int) := by omega
      have hkm : k = m := by omega
      subst hkm
      go_wp2_with (at_builtin; go_must (refine wpList_append_own _ rfl (.tmp 45) (.tmp 47) 41 rfl w.heap.size 40 i0 (.agg #[.int .i64 0, .int .i64 0]) 2 16 Tryz.underlying41 hi hz0 hz1 hz2 rfl (by decide) u6 (3 * k) _ rfl (ho.alloc _) ⟨wr.heap.size, 0, none⟩ 1 1 [.int .i64 1, .int .i64 0] rfl rfl (cells_new wr _ 40) (by simp [Value.oneCell']) (by unfold maxLen; omega) (by omega) (by simp; omega) ?_; intro v2 w2 ho2 hg2 hnn; clear hnn))
      have HB3 := hide ((hbw.out.alloc (by omega) _).grown hg2 (by simp; omega) (fun q hq => (ho.lt q hq).1))
      have ho3 : w2.ownsRow w.heap.size 40 2 v2 (3 * k + 1) (insV (ordG k ++ [(1, 0)])) := by
        rw [insV_app]
        exact ho2
      clear ho ho2 hg2 hbw hsz hlt hlt' hk hb1
      go_loopw [6, 8, 9] (fun l s i wr => Hid (Below w.heap.size w wr) ∧ ∃ c : Nat, c ≤ na ∧ i = .int .i64 (c : Int) ∧ s = .int .i64 ((ordA (ks.take c) : Nat) : Int) ∧ wr.ownsRow w.heap.size 40 2 l (3 * k + 1 + 3 * c) (insV (ordG k ++ [(1, 0)] ++ ordH (ks.take c)))) (fun _ _ i _ => na - (intOf i).toNat)
      case atStart => exact ⟨HB3, 0, by omega, rfl, rfl, by simpa [ordH] using ho3⟩
      case round =>
        obtain ⟨hbw, c, hc, rfl, rfl, ho⟩ := hrel
        have hsz := hbw.out.size
        by_cases hcl : c < na
        · have hcl' : (c : Int) < (na : Int) := by omega
          obtain ⟨xv, hx⟩ : ∃ xv, xs[c]? = some xv := ⟨xs[c]'(by rw [HXL.out]; exact hcl), List.getElem?_eq_getElem _⟩
          obtain ⟨xb, xo, hxa, xc⟩ := reads_iV (hxr.below hbw.out) hx
          subst hxa
          have hkc : ks[c]? = some (modK k xv) := by rw [HKS.out, List.getElem?_map, hx]; rfl
          have HT := hide (ordH_take hkc)
          have hA := ordA_take hkc
          have hA1 := HAL.out (c + 1)
          have hA2 : (ks.take (c + 1)).length * (10 * k) ≤ 20 * 160 := Nat.mul_le_mul (by rw [List.length_take, HKL.out]; omega) (by omega)
          have hlk := modK_lt k hm1 xv
          have hand := and127 xv
          have hrem := rem_mod k xv
          have hrr := Nat.mod_lt (xv % 128).toNat (show 0 < 128 by decide)
          clear hx hkc
          generalize modK k xv = kk at *
          generalize modA xv = ma at *
          have wa : IntKind.i64.wrap (10 * (kk : Int)) = 10 * (kk : Int) := wrapi (by omega)
          have wb : IntKind.i64.wrap (((ordA (ks.take c) : Nat) : Int) + 10 * (kk : Int)) = ((ordA (ks.take c) : Nat) : Int) + 10 * (kk : Int) := wrapi (by omega)
          have wc : IntKind.i64.wrap (((ordA (ks.take c) : Nat) : Int) + 10 * (kk : Int) + 1) = ((ordA (ks.take (c + 1)) : Nat) : Int) := by rw [wrapi (by omega)]; omega
          have wd : IntKind.i64.wrap (kk : Int) = (kk : Int) := wrapi (by omega)
          have we : IntKind.i64.wrap ((c : Int) + 1) = (c : Int) + 1 := wrapi (by omega)
          clear hA hA1 hA2
          go_wp2_with (at_builtin; go_must (refine wpList_append_own _ rfl (.tmp 62) (.tmp 67) 41 rfl w.heap.size 40 i0 (.agg #[.int .i64 0, .int .i64 0]) 2 16 Tryz.underlying41 hi hz0 hz1 hz2 rfl (by decide) u6 (3 * k + 1 + 3 * c) _ rfl (ho.alloc _) ⟨wr.heap.size, 0, none⟩ 3 3 [.int .i64 1, .int .i64 (kk : Int), .int .i64 17, .int .i64 0, .int .i64 7, .int .i64 0] rfl rfl (cells_new wr _ 40) (by simp [Value.oneCell']) (by unfold maxLen; omega) (by omega) (by simp; omega) ?_; intro v2 w2 ho2 hg2 hnn; clear hnn))
          have HB2 := hide ((hbw.out.alloc (by omega) _).grown hg2 (by simp; omega) (fun q hq => (ho.lt q hq).1))
          have HO2 := hide (show w2.ownsRow w.heap.size 40 2 v2 (3 * k + 1 + 3 * (c + 1)) (insV (ordG k ++ [(1, 0)] ++ ordH (ks.take (c + 1)))) by
            rw [HT.out, ← List.append_assoc, insV_app, show 3 * k + 1 + 3 * (c + 1) = 3 * k + 1 + 3 * c + 3 by omega]
            exact ho2)
          go_roundw
          case rel => exact ⟨HB2, c + 1, by omega, by go_num, rfl, HO2.out⟩
          case measure => simp [intOf]; omega
        · have hcl' : ¬ (c : Int) < (na : Int) := by omega
          have hcn : c = na := by omega
          subst hcn
          have htk : ks.take c = ks := List.take_of_length_le (by rw [HKL.out]; exact Nat.le_refl _)
          rw [htk] at ho
          rw [htk]
          clear htk
          go_wp2_with (first
            | (at_builtin; go_must (refine wpList_append_own _ rfl (.tmp 74) (.tmp 76) 41 rfl w.heap.size 40 i0 (.agg #[.int .i64 0, .int .i64 0]) 2 16 Tryz.underlying41 hi hz0 hz1 hz2 rfl (by decide) u6 (3 * k + 1 + 3 * c) _ rfl (ho.alloc _) ⟨wr.heap.size, 0, none⟩ 1 1 [.int .i64 18, .int .i64 0] rfl rfl (cells_new wr _ 40) (by simp [Value.oneCell']) (by unfold maxLen; omega) (by omega) (by simp; omega) ?_; intro v2 w2 ho2 hg2 hnn; clear hnn))
            | (go_at_call 14; refine Hid.out ?_))
          refine Lib.hid ?_
          have hb2 := (hbw.out.alloc (by omega) _).grown hg2 (by simp; omega) (fun q hq => (ho.lt q hq).1)
          have hcl : (ordC k ks).length = 3 * k + 3 * c + 2 := by rw [ordC_len, HKL.out]
          have hsm : ∀ f ∈ ordF k ks, f.code.length ≤ 1000000000 ∧ f.name.size < 4294967281 := fun f hf => by
            simp only [ordF, List.mem_cons, List.not_mem_nil, or_false] at hf
            rcases hf with rfl | rfl
            · exact ⟨by show (ordC k ks).length ≤ _; omega, by show fnm.size < _; decide⟩
            · exact ⟨by show (4 : Nat) ≤ _; decide, by show gnm.size < _; decide⟩
          have ho3 : w2.ownsRow w.heap.size 40 2 v2 (3 * k + 3 * c + 2) (insV (ordC k ks)) := by
            unfold ordC
            rw [← List.append_assoc, ← List.append_assoc, insV_app, show 3 * k + 3 * c + 2 = 3 * k + 1 + 3 * c + 1 by omega]
            exact ho2
          obtain ⟨E, hEE⟩ : ∃ E : List En, E = ⟨[], 0, [], 0, (ordA ks : Int), st, k, ioN ks⟩ :: ordE k := ⟨_, rfl⟩
          rw [← hEE] at HQ
          have HEE := hide hEE
          have HNE := hide (show E ≠ [] by rw [hEE]; exact List.cons_ne_nil _ _)
          clear ho2 hg2 ho hbw hsz hEE hcl' HB3
          obtain ⟨a, acap, rfl, _⟩ := own_code ho3
          have C1 := one_new a (3 * k + 3 * c + 2) acap w2
          simp only [oneJ, JV.cells] at C1
          refine C1.mono ?_
          rintro e w3 ⟨h1, rfl, hrow3, hh1, hb3⟩
          have hhw : w.heap.size ≤ h1 := by have := hb2.size; omega
          have hb4 := alloc_below w3 (.cells #[.slice (some ⟨h1, 0, none⟩) 1 1, .int .i64 0, .slice none 0 0, .int .i64 100, .int .i64 50] 30)
          have hj4 := heap_alloc_new w3 (.cells #[.slice (some ⟨h1, 0, none⟩) 1 1, .int .i64 0, .slice none 0 0, .int .i64 100, .int .i64 50] 30)
          clear C1
          go_upto_region 19 with fail
          generalize w3.alloc (.cells #[.slice (some ⟨h1, 0, none⟩) 1 1, .int .i64 0, .slice none 0 0, .int .i64 100, .int .i64 50] 30) = w4 at *
          have hrow4 := heap_row hrow3 hb4
          have ho4 := own_stay ho3 (fun g c _ hg => (chain hb3 hb4).block g (lt_row hg))
          have hb14 := hb2.trans ((chain hb3 hb4).mono hb2.size)
          have hjlt : h1 < w3.heap.size := lt_row hrow3
          clear hb3 hb4 hrow3 ho3 hb2 hh1
          generalize w3.heap.size = jb at *
          have j3 := cell_row (i := 3) (cs := [.slice (some ⟨h1, 0, none⟩) 1 1, .int .i64 0, .slice none 0 0, .int .i64 100, .int .i64 50]) hj4 rfl
          have f3 := frozen_row (i := 3) (cs := [.slice (some ⟨h1, 0, none⟩) 1 1, .int .i64 0, .slice none 0 0, .int .i64 100, .int .i64 50]) hj4
          go_upto_region 20 with fail
          have hEl := Else.cell jb 3 w4 (.int .i64 500)
          have hj5 : (w4.setCell ⟨jb, 3, none⟩ (.int .i64 500)).heap[jb]? = some (.cells [.slice (some ⟨h1, 0, none⟩) 1 1, .int .i64 0, .slice none 0 0, .int .i64 500, .int .i64 50].toArray 30 (0, 0)) := heap_setCell_same w4 jb 3 _ 30 _ hj4
          have hrow5 := (hEl h1 (tagNe hrow4 hj4 (by decide))).trans hrow4
          have ho45 := own_else ho4 hEl hj4 (by decide)
          have hb15 : Below w.heap.size w (w4.setCell ⟨jb, 3, none⟩ (.int .i64 500)) := hb14.setCell (p := ⟨jb, 3, none⟩) (by show w.heap.size ≤ jb; omega) _
          clear hEl hrow4 ho4 hb14 j3 f3 hj4
          generalize w4.setCell ⟨jb, 3, none⟩ (.int .i64 500) = w5 at *
          have ho5 : w5.ownsRow w.heap.size 43 4 (.slice (some ⟨h1, 0, none⟩) 1 1) 1 [.string fnm, .int .i64 0, .int .i64 0, .slice a (3 * k + 3 * c + 2) acap] := ⟨rfl, .inr ⟨h1, 1, _, rfl, hhw, hrow5, Nat.le_refl _, by unfold maxLen; decide, rfl, rfl⟩⟩
          have j0 := cell_row (i := 0) hj5 rfl
          obtain ⟨i3, hi3, hy0, hy1, hy2⟩ := info_parts Tryz.info43
          have hbx : Below w5.heap.size w5 ((w5.alloc (.cells #[.int .i64 5, .int .i64 0, .int .i64 1, .int .i64 1, .int .i64 7, .int .i64 0, .int .i64 18, .int .i64 0] 40)).alloc (.cells #[.string ⟨#[103]⟩, .int .i64 1, .int .i64 1, .slice (some ⟨w5.heap.size, 0, none⟩) 4 4] 43)) := ((Below.refl _ _).alloc (Nat.le_refl _) _).alloc (by simp) _
          have hsx : ((w5.alloc (.cells #[.int .i64 5, .int .i64 0, .int .i64 1, .int .i64 1, .int .i64 7, .int .i64 0, .int .i64 18, .int .i64 0] 40)).alloc (.cells #[.string ⟨#[103]⟩, .int .i64 1, .int .i64 1, .slice (some ⟨w5.heap.size, 0, none⟩) 4 4] 43)).heap.size = w5.heap.size + 2 := by simp
          have p1 : ((w5.alloc (.cells #[.int .i64 5, .int .i64 0, .int .i64 1, .int .i64 1, .int .i64 7, .int .i64 0, .int .i64 18, .int .i64 0] 40)).alloc (.cells #[.string ⟨#[103]⟩, .int .i64 1, .int .i64 1, .slice (some ⟨w5.heap.size, 0, none⟩) 4 4] 43)).heap[w5.heap.size]? = some (.cells #[.int .i64 5, .int .i64 0, .int .i64 1, .int .i64 1, .int .i64 7, .int .i64 0, .int .i64 18, .int .i64 0] 40 (0, 0)) := (heap_alloc_old _ _ (by simp)).trans (heap_alloc_new w5 _)
          have p3 : ((w5.alloc (.cells #[.int .i64 5, .int .i64 0, .int .i64 1, .int .i64 1, .int .i64 7, .int .i64 0, .int .i64 18, .int .i64 0] 40)).alloc (.cells #[.string ⟨#[103]⟩, .int .i64 1, .int .i64 1, .slice (some ⟨w5.heap.size, 0, none⟩) 4 4] 43)).heap[w5.heap.size + 1]? = some (.cells #[.string ⟨#[103]⟩, .int .i64 1, .int .i64 1, .slice (some ⟨w5.heap.size, 0, none⟩) 4 4] 43 (0, 0)) := by
            have := heap_alloc_new (w5.alloc (.cells #[.int .i64 5, .int .i64 0, .int .i64 1, .int .i64 1, .int .i64 7, .int .i64 0, .int .i64 18, .int .i64 0] 40)) (.cells #[.string ⟨#[103]⟩, .int .i64 1, .int .i64 1, .slice (some ⟨w5.heap.size, 0, none⟩) 4 4] 43)
            simpa using this
          have o1 : ((w5.alloc (.cells #[.int .i64 5, .int .i64 0, .int .i64 1, .int .i64 1, .int .i64 7, .int .i64 0, .int .i64 18, .int .i64 0] 40)).alloc (.cells #[.string ⟨#[103]⟩, .int .i64 1, .int .i64 1, .slice (some ⟨w5.heap.size, 0, none⟩) 4 4] 43)).ownsRow w.heap.size 43 4 (.slice (some ⟨h1, 0, none⟩) 1 1) 1 [.string fnm, .int .i64 0, .int .i64 0, .slice a (3 * k + 3 * c + 2) acap] := (ho5.alloc _).alloc _
          have hcn : ∀ i u, ([.string ⟨#[103]⟩, .int .i64 1, .int .i64 1, .slice (some ⟨w5.heap.size, 0, none⟩) 4 4] : List Value)[i]? = some u → ((w5.alloc (.cells #[.int .i64 5, .int .i64 0, .int .i64 1, .int .i64 1, .int .i64 7, .int .i64 0, .int .i64 18, .int .i64 0] 40)).alloc (.cells #[.string ⟨#[103]⟩, .int .i64 1, .int .i64 1, .slice (some ⟨w5.heap.size, 0, none⟩) 4 4] 43)).cell? ((⟨w5.heap.size + 1, 0, none⟩ : Addr).add i) = some u := fun i u hu => by
            rw [add_none, Nat.zero_add]
            exact cell_row (cs := [.string ⟨#[103]⟩, .int .i64 1, .int .i64 1, .slice (some ⟨w5.heap.size, 0, none⟩) 4 4]) p3 hu
          have hs5 := hb15.size
          have hjx := heap_row hj5 hbx
          have hox := own_stay ho45 (fun g c _ hg => hbx.block g (lt_row hg))
          have hbxw := chain hb15 hbx
          go_wp2_with (at_builtin; go_must (refine wpList_append_own _ rfl (.tmp 82) (.tmp 89) 27 rfl w.heap.size 43 i3 (.agg #[.string ⟨#[]⟩, .int .i64 0, .int .i64 0, .slice none 0 0]) 4 56 Tryz.underlying27 hi3 hy0 hy1 hy2 rfl (by decide) (.slice (some ⟨h1, 0, none⟩) 1 1) 1 _ rfl o1 ⟨w5.heap.size + 1, 0, none⟩ 1 1 [.string ⟨#[103]⟩, .int .i64 1, .int .i64 1, .slice (some ⟨w5.heap.size, 0, none⟩) 4 4] rfl rfl hcn (by simp [Value.oneCell']) (by unfold maxLen; decide) (by decide) (by rw [hsx]; omega) ?_; intro v6 w6 ho6 hg6 hnn; clear hnn; refine Hid.out ?_))
          refine Lib.hid ?_
          obtain ⟨g, cap, rfl⟩ : ∃ g cap, v6 = .slice (some ⟨g, 0, none⟩) 2 cap := by
            rcases ho6.2 with ⟨_, q⟩ | ⟨g, cap, _, q, _⟩
            · cases q
            · exact ⟨g, cap, q⟩
          have hj6 : w6.heap[jb]? = some (.cells [.slice (some ⟨h1, 0, none⟩) 1 1, .int .i64 0, .slice none 0 0, .int .i64 500, .int .i64 50].toArray 30 (0, 0)) := (hg6.block jb (lt_row hjx) (by show some jb ≠ some h1; intro e; injection e; omega)).trans hjx
          have hT6 := Tg.of o1 hg6
          have ho46 := own_tg hox hT6 (by decide)
          have hp1 := (hT6 _ _ _ (by decide) p1).trans p1
          have hb16 : Below w.heap.size w w6 := hbxw.grown hg6 hbxw.size (fun q hq => by have hq' : some h1 = some q := hq; injection hq'; omega)
          have k0 := cell_row (i := 0) hj6 rfl
          have f0 := frozen_row (i := 0) hj6
          clear hbx hcn o1 ho5 j0 hg6 hT6 hox hjx p1 p3 hj5 hrow5 ho45
          go_upto_region 21 with fail
          have hEl := Else.cell jb 0 w6 (.slice (some ⟨g, 0, none⟩) 2 cap)
          have hj7 : (w6.setCell ⟨jb, 0, none⟩ (.slice (some ⟨g, 0, none⟩) 2 cap)).heap[jb]? = some (.cells [.slice (some ⟨g, 0, none⟩) 2 cap, .int .i64 0, .slice none 0 0, .int .i64 500, .int .i64 50].toArray 30 (0, 0)) := heap_setCell_same w6 jb 0 _ 30 _ hj6
          have ho7 : (w6.setCell ⟨jb, 0, none⟩ (.slice (some ⟨g, 0, none⟩) 2 cap)).ownsRow w.heap.size 43 4 (.slice (some ⟨g, 0, none⟩) 2 cap) 2 (funV (frs (ordF k ks) [.slice a (3 * k + 3 * c + 2) acap, .slice (some ⟨w5.heap.size, 0, none⟩) 4 4])) := own_else ho6 hEl hj6 (by decide)
          have ho47 := own_else ho46 hEl hj6 (by decide)
          have hq1 := (hEl _ (tagNe hp1 hj6 (by decide))).trans hp1
          have hb17 : Below w.heap.size w (w6.setCell ⟨jb, 0, none⟩ (.slice (some ⟨g, 0, none⟩) 2 cap)) := hb16.setCell (p := ⟨jb, 0, none⟩) (by show w.heap.size ≤ jb; omega) _
          clear hEl hj6 ho6 ho46 hp1 hb16 k0 f0 hbxw
          generalize w6.setCell ⟨jb, 0, none⟩ (.slice (some ⟨g, 0, none⟩) 2 cap) = w7 at *
          have hrc : Reads w7 a (insV (ordC k ks)) := by
            obtain ⟨a', c', e, hr⟩ := own_code ho47
            simp only [Value.slice.injEq] at e
            obtain ⟨rfl, _⟩ := e
            exact hr
          have C11 : Calls Tryz.prog 11 #[.agg #[.slice (some ⟨g, 0, none⟩) 2 cap, .int .i64 0, .slice none 0 0, .int .i64 500, .int .i64 50]] w7 (EvOk w7 E) := (eval_fns ho7 rfl rfl (fun i h h' => by
              have hi : i = 0 ∨ i = 1 := by simp at h; omega
              rcases hi with rfl | rfl
              · exact ⟨a, acap, by show Value.slice a (3 * k + 3 * c + 2) acap = .slice a (ordC k ks).length acap; rw [hcl], hrc⟩
              · exact ⟨_, _, rfl, .inr ⟨w5.heap.size, 0, rfl, fun i u hu => by rw [Nat.zero_add]; exact cell_row (cs := insV [(5, 0), (1, 1), (7, 0), (18, 0)]) hq1 hu⟩⟩) _ 50 (hE.below hb17) (by decide) hsm (HC.out) 501 501 14 _ HQ.out).mono fun e w' h => h.ok HNE.out
          unfold EvOk at C11
          have a0 := cell_row (i := 0) hj7 rfl
          have a1 := cell_row (i := 1) hj7 rfl
          have a2 := cell_row (i := 2) hj7 rfl
          have a3 := cell_row (i := 3) hj7 rfl
          have a4 := cell_row (i := 4) hj7 rfl
          clear ho7 ho47 hq1 hj7 hrc
          go_wp2_with (go_at_call 11; go_must (with_reducible refine C11.mono ?_; (rintro e w8 ⟨eg, ec, rfl, hat, hb8⟩); refine Hid.out ?_))
          refine Lib.hid ?_
          have HF := hide (chain hb17 hb8)
          clear C11 a0 a1 a2 a3 a4 hb17 hb8
          have hel : E.length = k + 1 := by rw [HEE.out, List.length_cons, ordE_len]
          have x0 := hat 0 ⟨[], 0, [], 0, (ordA ks : Int), st, k, ioN ks⟩ (by rw [HEE.out]; rfl)
          obtain ⟨wa, wc, z7, hra⟩ := x0.aws
          have c4 : w8.cell? ⟨eg, 4, none⟩ = some (.int .i64 ((ordA ks : Nat) : Int)) := x0.ev
          have c7 : w8.cell? ⟨eg, 7, none⟩ = some (.slice wa c wc) := by
            have e : (ioN ks).length = c := by rw [ioN, List.length_map, HKL.out]
            rw [← e]
            exact z7
          have hx8 := hxr.below HF.out
          have wr : IntKind.i64.wrap ((k : Int) + 1) = (k : Int) + 1 := wrapi (by omega)
          have hpi : (0 : Int) < (E.length : Int) := by omega
          have hpn : 0 < E.length := by omega
          have hle : ((E.length : Int) == (k : Int) + 1) = true := by rw [hel]; simp
          have HEL := hide hel
          clear hat x0 z7 hel
          go_wp2_with (go_at_call 13; go_must (with_reducible refine (TN _ _).mono ?_; (rintro e wz ⟨rfl, hwz⟩; replace hwz := hwz.symm; subst hwz)))
          rotate_left
          · have := HEL.out; omega
          clear c4 hle wr
          go_loopw [14] (fun i wr => Hid (Below w8.heap.size w8 wr) ∧ ∃ j : Nat, j ≤ c ∧ i = .int .i64 (j : Int)) (fun i _ => c - (intOf i).toNat)
          case atStart => exact ⟨Below.refl _ _, 0, by omega, rfl⟩
          case round =>
            obtain ⟨hbw, j, hj, rfl⟩ := hrel
            by_cases hjl : j < c
            · have hjl' : (j : Int) < (c : Int) := by omega
              obtain ⟨xv, hx⟩ : ∃ xv, xs[j]? = some xv := ⟨xs[j]'(by rw [HXL.out]; exact hjl), List.getElem?_eq_getElem _⟩
              obtain ⟨xb, xo, hxa, xc⟩ := reads_iV (hx8.below hbw.out) hx
              subst hxa
              have hkc : (ioN ks)[j]? = some ((modK k xv : Nat) : Int) := by rw [ioN, List.getElem?_map, HKS.out, List.getElem?_map, hx]; rfl
              obtain ⟨yb, yo, hya, yc⟩ := reads_iV (hra.below hbw.out) hkc
              subst hya
              have z7 := keep_cell c7 hbw.out
              have hand := and127 xv
              have hrem := rem_mod k xv
              clear hx hkc
              generalize modK k xv = kk at *
              generalize modA xv = ma at *
              have we : IntKind.i64.wrap ((j : Int) + 1) = (j : Int) + 1 := wrapi (by omega)
              have hne : ((kk : Int) != (kk : Int)) = false := by simp
              go_upto_region 27 with fail
              go_quiet (fail)
              have HB2 := hide (fun n => below_drewN hbw.out n)
              go_wp2_with fail
              go_roundw
              case rel => exact ⟨HB2.out _, j + 1, by omega, by go_num⟩
              case measure => simp [intOf]; omega
            · have hjl' : ¬ (j : Int) < (c : Int) := by omega
              go_wp2_with fail
              go_ret
              exact ⟨rfl, chain HF.out hbw.out⟩
end Go.Proofs.YtbpcibnomkfglaaGreatDoor
