/- TaskHandles: its walk. -/
import Derived.Test.YtlhfjeohhfdccaaDoorHanP
namespace Go.Proofs.YtlhfjeohhfdccaaDoor
open Go.RowKit Go.ChangeShapes Go.WideShapes Go.ChangeAt Go.Deep

theorem hasB_true {n h : Int} : hasB n h = true ↔ 0 ≤ h ∧ h < n := by
  simp [hasB, inB]
  omega
/-- A state of the job of one function, in its box. -/
def stRow (pc fu : Nat) (sk : List Int) (kd : Int) (sa la : Option Addr) (sc lc : Nat) : List Value := [.int .i64 0, .int .i64 (pc : Int), .int .i64 (fu : Int), .slice sa sk.length sc, .slice la 0 lc, .int .i64 kd, .bool false]
set_option linter.unusedSimpArgs false in
set_option maxRecDepth 100000 in
set_option maxHeartbeats 4000000 in
theorem handles_any (kids h : Int) (w : World) (hE : Env w) : Calls Tryd.prog 6 #[.int .i64 kids, .int .i64 h] w fun r w' => r = .returned (.bool true) ∧ Below w.heap.size w w' := by
  have CA := talive_any w hE
  by_cases g1 : kids < 0
  · go_enter Tryd.func6, Tryd.ntmps6
    go_wp2_with (go_at_call 9; go_must (with_reducible refine CA.mono ?_; (rintro e w1 ⟨rfl, hb1⟩)))
    go_ret
    exact ⟨rfl, hb1⟩
  by_cases g2 : 16 < kids
  · go_enter Tryd.func6, Tryd.ntmps6
    go_wp2_with (go_at_call 9; go_must (with_reducible refine CA.mono ?_; (rintro e w1 ⟨rfl, hb1⟩)))
    go_ret
    exact ⟨rfl, hb1⟩
  obtain ⟨n, rfl⟩ : ∃ n : Nat, kids = (n : Int) := ⟨kids.toNat, by omega⟩
  have hn : n ≤ 16 := by omega
  obtain ⟨i0, hi, hz0, hz1, hz2⟩ := info_parts Tryd.info24
  go_enter Tryd.func6, Tryd.ntmps6
  go_wp2_with (go_at_call 9; go_must (with_reducible refine CA.mono ?_; (rintro e w1 ⟨rfl, hb1⟩)))
  clear CA
  go_loopw [6, 7] (fun l i wr => Hid (Below w.heap.size w wr) ∧ ∃ k : Nat, k ≤ n ∧ i = .int .i64 (k : Nat) ∧ wr.ownsRow w.heap.size 24 2 l (2 * k) (insV (hanC k))) (fun _ i _ => n - (intOf i).toNat)
  case atStart => exact ⟨hb1, 0, Nat.zero_le _, rfl, by simpa [hanC, insV] using World.ownsRow_nil w1 _ 24 2⟩
  case round =>
    obtain ⟨hbw, k, hk, rfl, ho⟩ := hrel
    have hsz := hbw.out.size
    by_cases hlt : k < n
    · have hlt' : (k : Int) < (n : Int) := by omega
      go_wp2_with (at_builtin; go_must (refine wpList_append_own _ rfl (.tmp 33) (.tmp 36) 25 rfl w.heap.size 24 i0 (.agg #[.int .i64 0, .int .i64 0]) 2 16 Tryd.underlying25 hi hz0 hz1 hz2 rfl (by decide) u6 (2 * k) _ rfl (ho.alloc _) ⟨wr.heap.size, 0, none⟩ 2 2 [.int .i64 16, .int .i64 0, .int .i64 2, .int .i64 0] rfl rfl (cells_new wr _ 24) (by simp [Value.oneCell']) (by unfold maxLen; omega) (by omega) (by simp; omega) ?_; intro v2 w2 ho2 hg2 hnn; clear hnn))
      have HB2 := hide ((hbw.out.alloc (by omega) _).grown hg2 (by simp; omega) (fun q hq => (ho.lt q hq).1))
      go_roundw
      case rel => exact ⟨HB2, k + 1, by omega, by go_num, by rw [hanC_snoc, insV_app, show 2 * (k + 1) = 2 * k + 2 by omega]; exact ho2⟩
      case measure => simp [intOf]; omega
    · have hkm : k = n := by omega
      subst hkm
      go_wp2_with (first
        | (at_builtin; go_must (refine wpList_append_own _ rfl (.tmp 38) (.tmp 43) 25 rfl w.heap.size 24 i0 (.agg #[.int .i64 0, .int .i64 0]) 2 16 Tryd.underlying25 hi hz0 hz1 hz2 rfl (by decide) u6 (2 * k) _ rfl (ho.alloc _) ⟨wr.heap.size, 0, none⟩ 3 3 [.int .i64 1, .int .i64 h, .int .i64 17, .int .i64 0, .int .i64 18, .int .i64 0] rfl rfl (cells_new wr _ 24) (by simp [Value.oneCell']) (by unfold maxLen; omega) (by omega) (by simp; omega) ?_; intro v2 w2 ho2 hg2 hnn; clear hnn))
        | (go_at_call 10; refine Hid.out ?_))
      refine Lib.hid ?_
      have hb2 := ((hbw.out.alloc (by omega) _).grown hg2 (by simp; omega) (fun q hq => (ho.lt q hq).1))
      have ho3 : w2.ownsRow w.heap.size 24 2 v2 (2 * k + 3) (insV (hanC k ++ hanT h)) := by rw [insV_app]; exact ho2
      obtain ⟨a, cap, rfl, hr⟩ := own_code ho3
      have C1 := one_any a (2 * k + 3) cap w2
      unfold OnePost at C1
      refine C1.mono ?_
      rintro e w3 ⟨h1, rfl, hrow3, hb3⟩
      have hb03 := chain hb2 hb3
      have hr3 := hr.below hb3
      simp only [oneJ, JV.cells]
      have hba := alloc_below w3 (.cells #[.slice (some ⟨h1, 0, none⟩) 1 1, .int .i64 0, .slice none 0 0, .int .i64 100, .int .i64 50] 29)
      have hja := heap_alloc_new w3 (.cells #[.slice (some ⟨h1, 0, none⟩) 1 1, .int .i64 0, .slice none 0 0, .int .i64 100, .int .i64 50] 29)
      clear C1 hr ho3 ho2 hg2 ho hb2 hb3 hbw hsz hlt hb1
      go_upto_region 11 with fail
      generalize w3.alloc (.cells #[.slice (some ⟨h1, 0, none⟩) 1 1, .int .i64 0, .slice none 0 0, .int .i64 100, .int .i64 50] 29) = w4 at *
      have hb04 := chain hb03 hba
      have hrow4 := heap_row hrow3 hba
      have hr4 := hr3.below hba
      clear hba hb03 hrow3 hr3
      generalize w3.heap.size = jb at *
      have hlen : (hanC k ++ hanT h).length = 2 * k + 3 := by simp [hanC_len, hanT]
      have C2 := one_begin (hanC k ++ hanT h) hrow4 hlen hr4 (hE.below hb04) (by omega) (han_one h k hn)
      have j0 : w4.cell? ⟨jb, 0, none⟩ = some (.slice (some ⟨h1, 0, none⟩) 1 1) := by simp only [World.cell?, hja]; rfl
      have j1 : w4.cell? ⟨jb, 1, none⟩ = some (.int .i64 0) := by simp only [World.cell?, hja]; rfl
      have j2 : w4.cell? ⟨jb, 2, none⟩ = some (.slice none 0 0) := by simp only [World.cell?, hja]; rfl
      have j3 : w4.cell? ⟨jb, 3, none⟩ = some (.int .i64 100) := by simp only [World.cell?, hja]; rfl
      have j4 : w4.cell? ⟨jb, 4, none⟩ = some (.int .i64 50) := by simp only [World.cell?, hja]; rfl
      clear hja
      go_wp2_with (go_at_call 11; go_must (with_reducible refine C2.mono ?_; (rintro e w5 ⟨b, rfl, hb5⟩); refine Hid.out ?_))
      refine Lib.hid ?_
      have J0 := hide j0
      have J1 := hide j1
      have J2 := hide j2
      have J3 := hide j3
      have J4 := hide j4
      clear j0 j1 j2 j3 j4 C2
      have hb6 := chain hb5 (alloc_below w5 (.cells #[.int .i64 0, .int .i64 0, .int .i64 0, .slice none 0 0, .slice (some ⟨b, 0, none⟩) 0 0, .int .i64 0, .bool false] 34))
      have hs6 := heap_alloc_new w5 (.cells #[.int .i64 0, .int .i64 0, .int .i64 0, .slice none 0 0, .slice (some ⟨b, 0, none⟩) 0 0, .int .i64 0, .bool false] 34)
      have hsb : w4.heap.size ≤ w5.heap.size := hb5.size
      go_upto_region 12 with fail
      generalize w5.alloc (.cells #[.int .i64 0, .int .i64 0, .int .i64 0, .slice none 0 0, .slice (some ⟨b, 0, none⟩) 0 0, .int .i64 0, .bool false] 34) = w6 at *
      generalize w5.heap.size = sb at *
      clear hb5
      have HRUN := hide (fun (W : World) (i : Nat) (hi : i ≤ k) (hbr : Below w4.heap.size w4 W) (deep steps : Int) (sa la : Option Addr) (sc lc : Nat) (K : Nat) (q : PM × Option (Int × Int)) (hrs : Reads W sa (iV (hanSk i).reverse)) (hsn : sa = none → (hanSk i).length = 0 ∧ sc = 0) (hln : la = none → lc = 0) (hR : runW (oneF (hanC k ++ hanT h)) 100 deep steps K (hanS i) = some q) => one_runQ (hanC k ++ hanT h) (heap_row hrow4 hbr) hlen (hr4.below hbr) (hE.below (hb04.trans (hbr.mono hb04.size))) (by omega) (hanPc i) (hanPc i) (i : Int) deep steps false sa la sc lc (hanSk i) (hanD k) K q (han_deps h k hn) (hanD_pc k i hi) (by rw [hanD_len]; omega) (by omega) (by cases i <;> simp [hanPc] <;> omega) hrs hsn hln (by have := hanSk_len i; omega) (fun e => by cases e) hR)
      have HB04 := hide hb04
      clear hrow4 hr4 hlen hb04
      go_wp2_with fail
      go_loopw [11] (fun i wr => Hid (Below w4.heap.size w4 wr) ∧ ∃ c : Nat, c ≤ k ∧ i = .int .i64 (c : Nat) ∧ ∃ sa sc la lc, Hid (wr.heap[sb]? = some (.cells (stRow (hanPc c) (hanPc c) (hanSk c) (c : Int) sa la sc lc).toArray 34 (0, 0))) ∧ Hid (Reads wr sa (iV (hanSk c).reverse) ∧ (sa = none → (hanSk c).length = 0 ∧ sc = 0) ∧ (la = none → lc = 0))) (fun i _ => k - (intOf i).toNat)
      case atStart => exact ⟨hb6, 0, Nat.zero_le _, rfl, none, 0, some ⟨b, 0, none⟩, 0, hs6, .inl rfl, fun _ => ⟨rfl, rfl⟩, fun e => by cases e⟩
      case round =>
        obtain ⟨hbr0, c, hc, rfl, sa, sc, la, lc, hst, hrd⟩ := hrel
        have hbr := hbr0.out
        have j0 : wr.cell? ⟨jb, 0, none⟩ = some (.slice (some ⟨h1, 0, none⟩) 1 1) := keep_cell J0.out hbr
        have j1 : wr.cell? ⟨jb, 1, none⟩ = some (.int .i64 0) := keep_cell J1.out hbr
        have j2 : wr.cell? ⟨jb, 2, none⟩ = some (.slice none 0 0) := keep_cell J2.out hbr
        have j3 : wr.cell? ⟨jb, 3, none⟩ = some (.int .i64 100) := keep_cell J3.out hbr
        have j4 : wr.cell? ⟨jb, 4, none⟩ = some (.int .i64 50) := keep_cell J4.out hbr
        have hst' := hst.out
        unfold stRow at hst'
        have s0 := cell_row (i := 0) hst' rfl
        have s1 := cell_row (i := 1) hst' rfl
        have s2 := cell_row (i := 2) hst' rfl
        have s3 := cell_row (i := 3) hst' rfl
        have s4 := cell_row (i := 4) hst' rfl
        have s5 := cell_row (i := 5) hst' rfl
        have s6 := cell_row (i := 6) hst' rfl
        have hsl := lt_row hst'
        clear hst' hs6 hb6
        by_cases hlt : c < k
        · have hlt' : (c : Int) < (k : Int) := by omega
          obtain ⟨es, hq⟩ := han_run h k c hlt hn
          have C3 := HRUN.out wr c (by omega) hbr 0 100 sa la sc lc 3 _ hrd.out.1 hrd.out.2.1 hrd.out.2.2 hq
          unfold RunQ at C3
          simp only [finM] at C3
          clear hq
          go_wp2_with (go_at_call 12; go_must (with_reducible refine C3.mono ?_; (rintro e w7 ⟨sa', sc', la', lc', aa', ac', rfl, r1, n1, r2, n2, r3, n3, hbk, hb7⟩); refine Hid.out ?_))
          refine Lib.hid ?_
          clear C3 j0 j1 j2 j3 j4 s0 s1 s2 s3 s4 s5 s6 r2 r3 n3
          simp only [List.length_nil] at n2 ⊢
          have hb8 : Below wr.heap.size wr ((w7.alloc (.cells #[.int .i64 0, .int .i64 (hanPc (c + 1) : Int), .int .i64 (hanPc (c + 1) : Int), .slice sa' (hanSk (c + 1)).length sc', .slice la' 0 lc', .int .i64 ((c : Int) + 1), .bool false] 34)).alloc (.cells #[.int .i64 1, .int .i64 0, .int .i64 (c : Int), .int .i64 (es : Int), .slice aa' 0 ac', .int .i64 0, .int .i64 0] 41)) := (hb7.alloc hb7.size _).alloc (by have := hb7.size; simp; omega) _
          have ht8 : ((w7.alloc (.cells #[.int .i64 0, .int .i64 (hanPc (c + 1) : Int), .int .i64 (hanPc (c + 1) : Int), .slice sa' (hanSk (c + 1)).length sc', .slice la' 0 lc', .int .i64 ((c : Int) + 1), .bool false] 34)).alloc (.cells #[.int .i64 1, .int .i64 0, .int .i64 (c : Int), .int .i64 (es : Int), .slice aa' 0 ac', .int .i64 0, .int .i64 0] 41)).heap[w7.heap.size]? = some (.cells [.int .i64 0, .int .i64 (hanPc (c + 1) : Int), .int .i64 (hanPc (c + 1) : Int), .slice sa' (hanSk (c + 1)).length sc', .slice la' 0 lc', .int .i64 ((c : Int) + 1), .bool false].toArray 34 (0, 0)) := by
            rw [heap_alloc_old _ _ (by simp), heap_alloc_new]
          have he8 : ((w7.alloc (.cells #[.int .i64 0, .int .i64 (hanPc (c + 1) : Int), .int .i64 (hanPc (c + 1) : Int), .slice sa' (hanSk (c + 1)).length sc', .slice la' 0 lc', .int .i64 ((c : Int) + 1), .bool false] 34)).alloc (.cells #[.int .i64 1, .int .i64 0, .int .i64 (c : Int), .int .i64 (es : Int), .slice aa' 0 ac', .int .i64 0, .int .i64 0] 41)).heap[w7.heap.size + 1]? = some (.cells [.int .i64 1, .int .i64 0, .int .i64 (c : Int), .int .i64 (es : Int), .slice aa' 0 ac', .int .i64 0, .int .i64 0].toArray 41 (0, 0)) := by
            have := heap_alloc_new (w7.alloc (.cells #[.int .i64 0, .int .i64 (hanPc (c + 1) : Int), .int .i64 (hanPc (c + 1) : Int), .slice sa' (hanSk (c + 1)).length sc', .slice la' 0 lc', .int .i64 ((c : Int) + 1), .bool false] 34)) (.cells #[.int .i64 1, .int .i64 0, .int .i64 (c : Int), .int .i64 (es : Int), .slice aa' 0 ac', .int .i64 0, .int .i64 0] 41)
            simpa using this
          have r8 : Reads ((w7.alloc (.cells #[.int .i64 0, .int .i64 (hanPc (c + 1) : Int), .int .i64 (hanPc (c + 1) : Int), .slice sa' (hanSk (c + 1)).length sc', .slice la' 0 lc', .int .i64 ((c : Int) + 1), .bool false] 34)).alloc (.cells #[.int .i64 1, .int .i64 0, .int .i64 (c : Int), .int .i64 (es : Int), .slice aa' 0 ac', .int .i64 0, .int .i64 0] 41)) sa' (iV (hanSk (c + 1)).reverse) := r1.below (((Below.refl _ _).alloc (Nat.le_refl _) _).alloc (by simp) _)
          have htb : wr.heap.size ≤ w7.heap.size := hb7.size
          go_upto_region 16 with fail
          generalize ((w7.alloc (.cells #[.int .i64 0, .int .i64 (hanPc (c + 1) : Int), .int .i64 (hanPc (c + 1) : Int), .slice sa' (hanSk (c + 1)).length sc', .slice la' 0 lc', .int .i64 ((c : Int) + 1), .bool false] 34)).alloc (.cells #[.int .i64 1, .int .i64 0, .int .i64 (c : Int), .int .i64 (es : Int), .slice aa' 0 ac', .int .i64 0, .int .i64 0] 41)) = w8 at *
          generalize w7.heap.size = tb at *
          have hst8 := heap_row hst.out hb8
          unfold stRow at hst8
          have t0 := cell_row (i := 0) ht8 rfl
          have z0 := cell_row (i := 0) hst8 rfl
          have zf0 := frozen_row (i := 0) hst8
          have t1 := cell_row (i := 1) ht8 rfl
          have z1 := cell_row (i := 1) hst8 rfl
          have zf1 := frozen_row (i := 1) hst8
          have t2 := cell_row (i := 2) ht8 rfl
          have z2 := cell_row (i := 2) hst8 rfl
          have zf2 := frozen_row (i := 2) hst8
          have t3 := cell_row (i := 3) ht8 rfl
          have z3 := cell_row (i := 3) hst8 rfl
          have zf3 := frozen_row (i := 3) hst8
          have t4 := cell_row (i := 4) ht8 rfl
          have z4 := cell_row (i := 4) hst8 rfl
          have zf4 := frozen_row (i := 4) hst8
          have t5 := cell_row (i := 5) ht8 rfl
          have z5 := cell_row (i := 5) hst8 rfl
          have zf5 := frozen_row (i := 5) hst8
          have t6 := cell_row (i := 6) ht8 rfl
          have z6 := cell_row (i := 6) hst8 rfl
          have zf6 := frozen_row (i := 6) hst8
          have e0 := cell_row (i := 0) he8 rfl
          have e2 := cell_row (i := 2) he8 rfl
          have d1 : tb ≠ sb := by omega
          have d2 : sb ≠ tb := by omega
          have d3 : tb + 1 ≠ sb := by omega
          have d4 : sb ≠ tb + 1 := by omega
          have HREL := hide (show Hid (Below w4.heap.size w4 (w8.setCells sb 0 [.int .i64 0, .int .i64 (hanPc (c + 1) : Int), .int .i64 (hanPc (c + 1) : Int), .slice sa' (hanSk (c + 1)).length sc', .slice la' 0 lc', .int .i64 ((c : Int) + 1), .bool false])) ∧ ∃ sa sc la lc, Hid ((w8.setCells sb 0 [.int .i64 0, .int .i64 (hanPc (c + 1) : Int), .int .i64 (hanPc (c + 1) : Int), .slice sa' (hanSk (c + 1)).length sc', .slice la' 0 lc', .int .i64 ((c : Int) + 1), .bool false]).heap[sb]? = some (.cells (stRow (hanPc (c + 1)) (hanPc (c + 1)) (hanSk (c + 1)) ((c + 1 : Nat) : Int) sa la sc lc).toArray 34 (0, 0))) ∧ Hid (Reads (w8.setCells sb 0 [.int .i64 0, .int .i64 (hanPc (c + 1) : Int), .int .i64 (hanPc (c + 1) : Int), .slice sa' (hanSk (c + 1)).length sc', .slice la' 0 lc', .int .i64 ((c : Int) + 1), .bool false]) sa (iV (hanSk (c + 1)).reverse) ∧ (sa = none → (hanSk (c + 1)).length = 0 ∧ sc = 0) ∧ (la = none → lc = 0)) from
            ⟨setCells_below hsb _ _ (hbr.trans (hb8.mono hbr.size)), sa', sc', la', lc', setCells_row hst8 rfl, reads_setCells r8 (fun x hx => by have := hbk.1 x hx; omega) 0, n1, fun e => (n2 e).2⟩)
          clear hst8 ht8 he8 hb8 r8 hst hrd hbr hbr0 n1 n2 r1 hbk
          go_wp2_with fail
          go_roundw
          case rel => exact ⟨HREL.out.1, c + 1, by omega, by go_num, HREL.out.2⟩
          case measure => simp [intOf]; omega
        · have hck : c = k := by omega
          subst hck
          obtain ⟨q, hq, hfin⟩ := han_last h c hn
          have C3 := HRUN.out wr c (Nat.le_refl _) hbr 0 100 sa la sc lc 5 _ hrd.out.1 hrd.out.2.1 hrd.out.2.2 hq
          unfold RunQ at C3
          have HF := hide hfin
          clear hq hfin
          generalize finM q = p at C3 HF
          obtain ⟨pfn, ppc, pfu, psk, plo, pkd, pwt, pek, pef, pei, pes, par, per, pev⟩ := p
          simp only at C3 HF
          go_wp2_with (go_at_call 12; go_must (with_reducible refine C3.mono ?_; (rintro e w7 ⟨sa', sc', la', lc', aa', ac', rfl, r1, n1, r2, n2, r3, n3, hbk, hb7⟩); refine Hid.out ?_))
          refine Lib.hid ?_
          clear C3 j0 j1 j2 j3 j4 s0 s1 s2 s3 s4 s5 s6 r1 r2 r3 n1 n2 n3 hbk
          have hb8 : Below wr.heap.size wr ((w7.alloc (.cells #[.int .i64 (pfn : Int), .int .i64 (ppc : Int), .int .i64 (pfu : Int), .slice sa' psk.length sc', .slice la' plo.length lc', .int .i64 pkd, .bool pwt] 34)).alloc (.cells #[.int .i64 pek, .int .i64 pef, .int .i64 pei, .int .i64 (pes : Int), .slice aa' par.length ac', .int .i64 per, .int .i64 pev] 41)) := (hb7.alloc hb7.size _).alloc (by have := hb7.size; simp; omega) _
          have he8 : ((w7.alloc (.cells #[.int .i64 (pfn : Int), .int .i64 (ppc : Int), .int .i64 (pfu : Int), .slice sa' psk.length sc', .slice la' plo.length lc', .int .i64 pkd, .bool pwt] 34)).alloc (.cells #[.int .i64 pek, .int .i64 pef, .int .i64 pei, .int .i64 (pes : Int), .slice aa' par.length ac', .int .i64 per, .int .i64 pev] 41)).heap[w7.heap.size + 1]? = some (.cells [.int .i64 pek, .int .i64 pef, .int .i64 pei, .int .i64 (pes : Int), .slice aa' par.length ac', .int .i64 per, .int .i64 pev].toArray 41 (0, 0)) := by
            have := heap_alloc_new (w7.alloc (.cells #[.int .i64 (pfn : Int), .int .i64 (ppc : Int), .int .i64 (pfu : Int), .slice sa' psk.length sc', .slice la' plo.length lc', .int .i64 pkd, .bool pwt] 34)) (.cells #[.int .i64 pek, .int .i64 pef, .int .i64 pei, .int .i64 (pes : Int), .slice aa' par.length ac', .int .i64 per, .int .i64 pev] 41)
            simpa using this
          go_upto_region 20 with fail
          generalize ((w7.alloc (.cells #[.int .i64 (pfn : Int), .int .i64 (ppc : Int), .int .i64 (pfu : Int), .slice sa' psk.length sc', .slice la' plo.length lc', .int .i64 pkd, .bool pwt] 34)).alloc (.cells #[.int .i64 pek, .int .i64 pef, .int .i64 pei, .int .i64 (pes : Int), .slice aa' par.length ac', .int .i64 per, .int .i64 pev] 41)) = w8 at *
          generalize w7.heap.size = tb at *
          have e0 := cell_row (i := 0) he8 rfl
          have e2 := cell_row (i := 2) he8 rfl
          have e5 := cell_row (i := 5) he8 rfl
          have e6 := cell_row (i := 6) he8 rfl
          have HBZ := hide (HB04.out.trans ((hbr.trans (hb8.mono hbr.size)).mono HB04.out.size))
          have TN := tnum_any
          clear he8 hb8 hb7 hst hrd hbr hbr0
          by_cases hh : hasB (c : Int) h = true
          · have hf := HF.out
            rw [if_pos hh] at hf
            obtain ⟨rfl, rfl⟩ := hf
            obtain ⟨q1, q2⟩ := hasB_true.1 hh
            clear hh HF
            go_wp2_with (go_at_call 13; go_must (with_reducible refine (TN _ _).mono ?_; (rintro e w9 ⟨rfl, rfl⟩)))
            go_ret
            exact ⟨rfl, HBZ.out⟩
          · have hf := HF.out
            rw [if_neg hh] at hf
            obtain ⟨rfl, rfl, rfl⟩ := hf
            have hh2 : h < 0 ∨ ((c : Int) ≤ h ∧ ¬ h < 0) := by
              have := mt hasB_true.2 hh
              omega
            clear hh HF
            rcases hh2 with q1 | ⟨q1, q2⟩
            · go_wp2_with (go_at_call 13; go_must (with_reducible refine (TN _ _).mono ?_; (rintro e w9 ⟨rfl, rfl⟩)))
              go_ret
              exact ⟨rfl, HBZ.out⟩
            · go_wp2_with (go_at_call 13; go_must (with_reducible refine (TN _ _).mono ?_; (rintro e w9 ⟨rfl, rfl⟩)))
              go_ret
              exact ⟨rfl, HBZ.out⟩
end Go.Proofs.YtlhfjeohhfdccaaDoor
