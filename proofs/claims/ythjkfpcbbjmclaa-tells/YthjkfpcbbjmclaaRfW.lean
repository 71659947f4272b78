/- Without: the document's. -/
import Derived.Test.YthjkfpcbbjmclaaRfF
import Derived.Test.YthjkfpcbbjmclaaRfM
import Derived.Deep.AppendLies
import Derived.Deep.RegionLaw
namespace Go.Proofs.Ythjkfpcbbjmclaa
open Go.RowKit Go.ChangeShapes Go.WideShapes Go.ChangeAt Go.Deep

theorem Bld.other {w wr w1 : World} {g0 g1 T g : Nat} {ep : Int} {v v' : Value} {n : Nat} {l : List Mb} {xs : List Value} (h : Bld w wr g0 g1 T ep v n l) (hg : wr.grownBy w1 v.ownBlock) (hx : BoxL wr g xs) (hgT : g < T) (hne : g ≠ g1) : BoxL (w1.setCell ⟨g1, 1, none⟩ v') g xs := by
  have hb : Below T wr w1 := (Below.refl T wr).grown hg h.sz (fun k hk => (World.ownsRow.lt h.row k hk).1)
  exact (hx.keepB hb hgT).grown (grown_setCell _ _ _ _) hne
theorem news_new (wr : World) (cs : List Value) (t : TypeId) : ∀ j u, cs[j]? = some u → (wr.alloc (.cells cs.toArray t)).cell? ((⟨wr.heap.size, 0, none⟩ : Addr).add j) = some u := fun j u hu => by
  rw [add_none, World.cell?_alloc_at _ _ _ _ rfl]
  simpa using hu
theorem Bld.cells {w wr w1 : World} {g0 g1 T : Nat} {ep : Int} {v : Value} {n : Nat} {l : List Mb} (h : Bld w wr g0 g1 T ep v n l) (hg : wr.grownBy w1 v.ownBlock) : w1.cell? ⟨g1, 1, none⟩ = some v ∧ w1.frozen? ⟨g1, 1, none⟩ = false := by
  have hb : Below T wr w1 := (Below.refl T wr).grown hg h.sz (fun k hk => (World.ownsRow.lt h.row k hk).1)
  have := (h.b1.keepB hb h.lo.2.2).c2
  exact ⟨this.1.2, this.2.2⟩

set_option linter.unusedSimpArgs false in
set_option maxRecDepth 100000 in
set_option maxHeartbeats 8000000 in
/-- gleanerref14.Without. -/
theorem rwithout_any (ep : Int) (ms : List Mb) (ns : List Int) (a : Option Addr) (l c : Nat) (b : Option Addr) (m d : Nat) (w : World) (hl : ms.length = l) (hlen : l ≤ 20000) (hr : Reads w a (mV ms))
    (hm : ns.length = m) (hml : m ≤ 20000) (hs : Reads w b (iV ns)) :
    Calls Try.prog 11 #[.agg #[.int .i64 ep, .slice a l c], .slice b m d] w (VwPost w (woP ep ms ns) (woE ep ms ns) (woL ep ms ns)) := by
  obtain ⟨hx, hy, hb, hsz⟩ := box2 w [.int .i64 ep, .slice a l c] [.int .i64 0, .slice none 0 0] 24 24
  obtain ⟨V, hV⟩ : ∃ V, V = (w.alloc (.cells #[.int .i64 ep, .slice a l c] 24)).alloc (.cells #[.int .i64 0, .slice none 0 0] 24) := ⟨_, rfl⟩
  have HX := hide (show BoxL V w.heap.size [.int .i64 ep, .slice a l c] by rw [hV]; exact hx)
  have HY := hide (show BoxL V (w.heap.size + 1) [.int .i64 0, .slice none 0 0] by rw [hV]; exact hy)
  have HB := hide (show Below w.heap.size w V by rw [hV]; exact hb)
  have HSZ := hide (show V.heap.size = w.heap.size + 2 by rw [hV]; exact hsz)
  have HV := hide hV
  have HR := hide (hr.below HB.out)
  have HS := hide (hs.below HB.out)
  have HL := hide hl
  have HM := hide hm
  have HR0 := hide hr
  have HS0 := hide hs
  have C20 := hide (rmay_any ep ms a l c V hl hlen HR.out)
  have HWE := hide (show woE ep ms ns = if mayV ep ms && (outOk ms ns && !ns.isEmpty) then (if ep = 2147483647 then 16 else 0) else 1 from rfl)
  have HWP := hide (show woP ep ms ns = if woE ep ms ns = 0 then ep + 1 else 0 from rfl)
  have HWL := hide (show woL ep ms ns = if woE ep ms ns = 0 then ms.filter (stM ns) else [] by rw [filter_stM]; rfl)
  generalize woE ep ms ns = E at HWE HWP HWL ⊢
  generalize woP ep ms ns = PP at HWP ⊢
  generalize woL ep ms ns = LL at HWL ⊢
  have HP1 := hide (show ∀ X, Below V.heap.size V X → BoxL ((X.setCell ⟨w.heap.size + 1, 0, none⟩ (.int .i64 0)).setCell ⟨w.heap.size + 1, 1, none⟩ (.slice none 0 0)) (w.heap.size + 1) [.int .i64 0, .slice none 0 0] ∧ Below w.heap.size w ((X.setCell ⟨w.heap.size + 1, 0, none⟩ (.int .i64 0)).setCell ⟨w.heap.size + 1, 1, none⟩ (.slice none 0 0)) from
    fun X hX => ⟨(HY.out.below hX).put2 _ _, below_put2 (HB.out.trans (hX.mono HB.out.size)) (by omega) _ _⟩)
  clear hx hy hb hV hsz hr hs hl hm
  cases hmay : mayV ep ms with
  | false =>
    rw [hmay] at C20
    obtain rfl : E = 1 := by rw [HWE.out, hmay]; rfl
    obtain rfl : PP = 0 := by rw [HWP.out]; rfl
    obtain rfl : LL = [] := by rw [HWL.out]; rfl
    clear HWE HWP HWL
    go_enter Try.func11, Try.ntmps11
    go_upto_region 1 with fail
    rw [← HV.out]
    obtain ⟨⟨x0, x1⟩, -⟩ := HX.out.c2
    go_upto_region 2 with (go_at_call 20; go_must ((with_reducible refine C20.out.mono ?_); rintro e w1 ⟨rfl, hb1⟩; have HB1 := hide hb1; clear hb1))
    obtain ⟨⟨z0, z1⟩, z2, z3⟩ := (HY.out.below HB1.out).c2
    obtain ⟨HA, HC⟩ := HP1.out w1 HB1.out
    have HA := hide HA
    have HC := hide HC
    go_wp2
    generalize (w1.setCell ⟨w.heap.size + 1, 0, none⟩ (.int .i64 0)).setCell ⟨w.heap.size + 1, 1, none⟩ (.slice none 0 0) = X at HA HC ⊢
    obtain ⟨⟨u0, u1⟩, -⟩ := HA.out.c2
    refine bodyPost_ret (v := vw 0 (.slice none 0 0) 1) (by simp [results, Try.results11, go_sem, u0, u1]) rfl ?_
    exact ⟨_, rfl, Own.nil _ _, HC.out⟩
  | true =>
    rw [hmay] at C20
    have hep := mayV_ep hmay
    go_enter Try.func11, Try.ntmps11
    go_upto_region 1 with fail
    rw [← HV.out]
    obtain ⟨⟨x0, x1⟩, -⟩ := HX.out.c2
    go_upto_region 2 with (go_at_call 20; go_must ((with_reducible refine C20.out.mono ?_); rintro e w1 ⟨rfl, hb1⟩; have HB1 := hide hb1; clear hb1))
    clear x0 x1 C20
    by_cases hm0 : m = 0
    · have q0 : ((m : Int) == 0) = true := by simp [hm0]
      have HE0 := hide (show ns.isEmpty = true by have := HM.out; rw [hm0] at this; rw [List.eq_nil_of_length_eq_zero this]; rfl)
      obtain rfl : E = 1 := by rw [HWE.out, hmay, HE0.out]; simp
      obtain rfl : PP = 0 := by rw [HWP.out]; rfl
      obtain rfl : LL = [] := by rw [HWL.out]; rfl
      clear HWE HWP HWL HE0 hm0 hmay
      obtain ⟨⟨z0, z1⟩, z2, z3⟩ := (HY.out.below HB1.out).c2
      obtain ⟨HA, HC⟩ := HP1.out w1 HB1.out
      have HA := hide HA
      have HC := hide HC
      go_wp2
      generalize (w1.setCell ⟨w.heap.size + 1, 0, none⟩ (.int .i64 0)).setCell ⟨w.heap.size + 1, 1, none⟩ (.slice none 0 0) = X at HA HC ⊢
      obtain ⟨⟨u0, u1⟩, -⟩ := HA.out.c2
      refine bodyPost_ret (v := vw 0 (.slice none 0 0) 1) (by simp [results, Try.results11, go_sem, u0, u1]) rfl ?_
      exact ⟨_, rfl, Own.nil _ _, HC.out⟩
    · have q0 : ((m : Int) == 0) = false := by rw [beq_eq_false_iff_ne]; omega
      have HE0 := hide (show ns.isEmpty = false by have := HM.out; cases ns with | nil => simp at this; omega | cons => rfl)
      go_wp2
      go_loopw [7] (fun i wr => Hid (Below V.heap.size V wr) ∧ ∃ (k : Nat), k ≤ m ∧ i = .int .i64 (k : Nat) ∧ Hid (outOk ms (ns.take k) = true)) (fun i _ => m - (intOf i).toNat)
      case atStart => exact ⟨HB1, 0, Nat.zero_le _, rfl, hide rfl⟩
      case round =>
        obtain ⟨hbw, k, hk, rfl, hA⟩ := hrel
        by_cases hlt : k < m
        · have hlt' : (k : Int) < (m : Int) := by omega
          have hkn : k < ns.length := by have := HM.out; omega
          obtain ⟨g, off, har, hcs⟩ := reads_at HS.out hkn
          subst har
          have hcell := hcs.out k (.int .i64 ns[k]) (by simp [iV, hkn])
          have C31 := hide (fun X (hX : Below V.heap.size V X) => member_any ep ms ns[k] a l c X HL.out hlen (HR.out.below hX))
          have HYY := hide (fun h1 h2 => outOk_step hkn hA.out h1 h2)
          have HNN := hide (fun hx => outOk_no (ms := ms) hkn hx)
          generalize ns[k] = x at hcell C31 HYY HNN
          clear hcs hA
          have HK := hide (show ∀ W, Below V.heap.size V W → W.cell? ⟨w.heap.size, 0, none⟩ = some (.int .i64 ep) ∧ W.cell? ⟨w.heap.size, 1, none⟩ = some (.slice a l c) ∧ W.cell? ⟨g, off + k, none⟩ = some (.int .i64 x) from fun W hW => by
            obtain ⟨⟨p0, p1⟩, -⟩ := (HX.out.below hW).c2
            exact ⟨p0, p1, keep_cell hcell hW⟩)
          clear hcell
          generalize hq : inV ms x = q at C31 HYY HNN
          clear hq
          go_upto_region 7 with fail
          have hN : Below V.heap.size V wr.drew := hbw.out.drew
          go_region_held3 (fun W => W.cell? ⟨w.heap.size, 0, none⟩ = some (.int .i64 ep) ∧ W.cell? ⟨w.heap.size, 1, none⟩ = some (.slice a l c) ∧ W.cell? ⟨g, off + k, none⟩ = some (.int .i64 x)) (exact HK.out _ hN)
            ((go_at_call 31; (with_reducible refine (C31.out _ hN).mono ?_); rintro e w5 ⟨rfl, hb5⟩; have hN := hN.trans (hb5.mono hN.size); clear hb5))
          have HN5 := hide hN
          obtain ⟨-, -, hcell⟩ := HK.out _ hN
          clear hN HK C31
          cases q
          · obtain rfl : E = 1 := by rw [HWE.out, HNN.out (.inl rfl)]; simp
            obtain rfl : PP = 0 := by rw [HWP.out]; rfl
            obtain rfl : LL = [] := by rw [HWL.out]; rfl
            clear HWE HWP HWL HYY HNN hmay
            obtain ⟨⟨z0, z1⟩, z2, z3⟩ := (HY.out.below HN5.out).c2
            obtain ⟨HA, HC⟩ := HP1.out _ HN5.out
            have HA := hide HA
            have HC := hide HC
            go_wp2
            generalize (World.setCell (World.setCell _ ⟨w.heap.size + 1, 0, none⟩ (.int .i64 0)) ⟨w.heap.size + 1, 1, none⟩ (.slice none 0 0)) = X at HA HC ⊢
            obtain ⟨⟨u0, u1⟩, -⟩ := HA.out.c2
            refine bodyPost_ret (v := vw 0 (.slice none 0 0) 1) (by simp [results, Try.results11, go_sem, u0, u1]) rfl ?_
            exact ⟨_, rfl, Own.nil _ _, HC.out⟩
          · by_cases hx : x = 0
            · obtain rfl : E = 1 := by rw [HWE.out, HNN.out (.inr hx)]; simp
              obtain rfl : PP = 0 := by rw [HWP.out]; rfl
              obtain rfl : LL = [] := by rw [HWL.out]; rfl
              have q1 : (x == 0) = true := by simp [hx]
              clear HWE HWP HWL HYY HNN hmay hx
              obtain ⟨⟨z0, z1⟩, z2, z3⟩ := (HY.out.below HN5.out).c2
              obtain ⟨HA, HC⟩ := HP1.out _ HN5.out
              have HA := hide HA
              have HC := hide HC
              go_wp2
              generalize (World.setCell (World.setCell _ ⟨w.heap.size + 1, 0, none⟩ (.int .i64 0)) ⟨w.heap.size + 1, 1, none⟩ (.slice none 0 0)) = X at HA HC ⊢
              obtain ⟨⟨u0, u1⟩, -⟩ := HA.out.c2
              refine bodyPost_ret (v := vw 0 (.slice none 0 0) 1) (by simp [results, Try.results11, go_sem, u0, u1]) rfl ?_
              exact ⟨_, rfl, Own.nil _ _, HC.out⟩
            · have q1 : (x == 0) = false := by simp [hx]
              have HF := hide (HYY.out rfl hx)
              clear HYY HNN hx
              go_wp2
              go_roundw
              case rel => exact ⟨HN5, k + 1, by omega, by go_num, HF⟩
              case measure => simp [intOf]; omega
        · have HOK := hide (show outOk ms ns = true by
            have h1 := hA.out
            rwa [List.take_of_length_le (by have := HM.out; omega)] at h1)
          have HE2 := hide (show E = if ep = 2147483647 then 16 else 0 by rw [HWE.out, hmay, HOK.out, HE0.out]; rfl)
          clear hA HOK HWE hmay HE0
          have hlt' : ¬ (k : Int) < (m : Int) := by omega
          go_upto_region 10 with fail
          obtain ⟨⟨x0, x1⟩, -⟩ := (HX.out.below hbw.out).c2
          by_cases hmx : ep = 2147483647
          · subst hmx
            obtain rfl : E = 16 := by rw [HE2.out]; rfl
            obtain rfl : PP = 0 := by rw [HWP.out]; rfl
            obtain rfl : LL = [] := by rw [HWL.out]; rfl
            clear HE2 HWP HWL
            obtain ⟨⟨z0, z1⟩, z2, z3⟩ := (HY.out.below hbw.out).c2
            obtain ⟨HA, HC⟩ := HP1.out _ hbw.out
            have HA := hide HA
            have HC := hide HC
            go_wp2
            generalize (World.setCell (World.setCell _ ⟨w.heap.size + 1, 0, none⟩ (.int .i64 0)) ⟨w.heap.size + 1, 1, none⟩ (.slice none 0 0)) = X at HA HC ⊢
            obtain ⟨⟨u0, u1⟩, -⟩ := HA.out.c2
            refine bodyPost_ret (v := vw 0 (.slice none 0 0) 16) (by simp [results, Try.results11, go_sem, u0, u1]) rfl ?_
            exact ⟨_, rfl, Own.nil _ _, HC.out⟩
          · have qe : (ep == 2147483647) = false := by simp [hmx]
            have hw1 : IntKind.i64.wrap (ep + 1) = ep + 1 := by rw [IntKind.wrap_i64]; omega
            obtain rfl : E = 0 := by rw [HE2.out, if_neg hmx]
            obtain rfl : PP = ep + 1 := by rw [HWP.out]; rfl
            obtain rfl : LL = ms.filter (stM ns) := by rw [HWL.out]; rfl
            clear HE2 HWP HWL hmx HP1
            go_upto_region 13 with fail
            have HBD := hide (show Bld w (wr.alloc (.cells #[.int .i64 (ep + 1), .slice none 0 0] 24)) (w.heap.size + 1) wr.heap.size (wr.heap.size + 1) (ep + 1) (.slice none 0 0) 0 [] from
              ⟨(HB.out.trans (hbw.out.mono HB.out.size)).trans ((below_new wr _).mono (Nat.le_trans HB.out.size hbw.out.size)), by simp, (HY.out.below hbw.out).below (below_new wr _), BoxL.new wr [.int .i64 (ep + 1), .slice none 0 0] 24, Own.nil _ _, by have := HSZ.out; have := hbw.out.size; omega⟩)
            have HXB := hide (show BoxL (wr.alloc (.cells #[.int .i64 (ep + 1), .slice none 0 0] 24)) w.heap.size [.int .i64 ep, .slice a l c] from (HX.out.below hbw.out).below (below_new wr _))
            generalize wr.alloc (.cells #[.int .i64 (ep + 1), .slice none 0 0] 24) = V2 at HBD HXB ⊢
            have hgw : w.heap.size + 2 ≤ wr.heap.size := by have := HSZ.out; have := hbw.out.size; omega
            generalize wr.heap.size = g1 at HBD hgw ⊢
            have HGW := hide hgw
            clear x0 x1 hgw hbw HX HY HB HR HS HV HSZ hw1 qe
            go_wp2
            go_loopw [10] (fun i wr => ∃ (k n : Nat) (v : Value), k ≤ l ∧ n ≤ k ∧ i = .int .i64 (k : Nat) ∧ Hid (Bld w wr (w.heap.size + 1) g1 (g1 + 1) (ep + 1) v n ((ms.take k).filter (stM ns))) ∧ Hid (BoxL wr w.heap.size [.int .i64 ep, .slice a l c])) (fun i _ => l - (intOf i).toNat)
            case atStart => exact ⟨0, 0, _, Nat.zero_le _, Nat.le_refl _, rfl, HBD, HXB⟩
            case round =>
              clear HBD HXB
              obtain ⟨k, n, v, hk, hnk, rfl, hD, hX⟩ := hrel
              obtain ⟨sa, sc, rfl⟩ := hD.out.row.open
              obtain ⟨⟨-, x1⟩, -⟩ := hX.out.c2
              by_cases hlt : k < l
              · have hlt' : (k : Int) < (l : Int) := by omega
                have hkl : k < ms.length := by have := HL.out; omega
                obtain ⟨g, off, har, y0, y1⟩ := mem_at (HR0.out.below hD.out.bl) hkl
                subst har
                have C32 := hide (in_any ns ms[k].1 b m d wr HM.out hml (HS0.out.below hD.out.bl))
                have HST := hide (stay_take (p := stM ns) hkl)
                have HSM := hide (show stM ns ms[k] = !inI ns ms[k].1 from rfl)
                rw [HSM.out] at HST
                generalize inI ns ms[k].1 = R at C32 HST HSM
                generalize ms[k] = x at y0 y1 C32 HST
                obtain ⟨x, y⟩ := x
                simp only at y0 y1 C32
                clear HSM
                cases R
                · go_upto_region 18 with (go_at_call 32; go_must ((with_reducible refine C32.out.mono ?_); rintro e w5 ⟨rfl, hw5⟩; subst hw5))
                  have HD2 := hide (hD.out.below (below_new w5 (.cells #[.int .i64 x, .int .i64 y] 41)))
                  have HX2 := hide (hX.out.below (below_new w5 (.cells #[.int .i64 x, .int .i64 y] 41)))
                  have HOd := hide (show (w5.alloc (.cells #[.int .i64 x, .int .i64 y] 41)).ownsRow (g1 + 1) 41 2 (.slice sa n sc) n (mV ((ms.take k).filter (stM ns))) from HD2.out.row)
                  have HNW := hide (news_new w5 [.int .i64 x, .int .i64 y] 41)
                  have HON := hide (show ∀ u ∈ [Value.int .i64 x, .int .i64 y], u.oneCell' = true from fun u hu => mV_one [(x, y)] u hu)
                  obtain ⟨i0, hi, hz0, hz1, hz2⟩ := info_parts Try.info41
                  have HI := hide (And.intro hi (And.intro hz0 (And.intro hz1 hz2)))
                  obtain ⟨⟨-, c1⟩, -⟩ := hD.out.b1.c2
                  have c1a := keep_cell c1 (below_new w5 (.cells #[.int .i64 x, .int .i64 y] 41))
                  have c1b : (w5.alloc (.cells #[.int .i64 x, .int .i64 y] 41)).drew.cell? ⟨g1, 1, none⟩ = some (.slice sa n sc) := c1a
                  have c1c : (w5.drew.alloc (.cells #[.int .i64 x, .int .i64 y] 41)).cell? ⟨g1, 1, none⟩ = some (.slice sa n sc) := c1a
                  have HNL := hide (show (ms.take (k + 1)).filter (stM ns) = (ms.take k).filter (stM ns) ++ [(x, y)] by rw [HST.out]; simp)
                  have HSZ2 := hide HD2.out.sz
                  have hn2 : n ≤ 20000 := by omega
                  clear hi hz0 hz1 hz2 HST hD hX C32
                  go_region_law (refine step_append_lies _ rfl (.tmp 70) (.tmp 76) 22 rfl (g1 + 1) 41 i0 (.agg #[.int .i64 0, .int .i64 0]) 2 16 Try.underlying22 HI.out.1 HI.out.2.1 HI.out.2.2.1 HI.out.2.2.2 rfl (by omega) (.slice sa n sc) n _ (by simp [Act.eval, Act.put]) HOd.out ⟨_, 0, none⟩ 1 1 [.int .i64 x, .int .i64 y] (by simp [Act.eval, Act.put]) rfl HNW.out HON.out (by omega) (by unfold maxLen; omega) (by omega) HSZ2.out _ rfl ?_; intro g3 cap3 w3 ho3 hg3 hat3 hlt3; have hg4 : (w5.alloc (.cells #[.int .i64 x, .int .i64 y] 41)).grownBy w3 (Value.slice sa n sc).ownBlock := ⟨hg3.os, hg3.tape, hg3.output, hg3.size, hg3.block⟩; have HM3 := hide (HD2.out.more (show Own (g1 + 1) w3 (.slice (some ⟨g3, 0, none⟩) (n + 1) cap3) (n + 1) ((ms.take k).filter (stM ns) ++ [(x, y)]) by unfold Own; rw [mV_app]; exact ho3) hg4); have HX3 := hide (HD2.out.other (v' := .slice (some ⟨g3, 0, none⟩) (n + 1) cap3) hg4 HX2.out (by have := HGW.out; omega) (by have := HGW.out; omega)); obtain ⟨z1, z2⟩ := HD2.out.cells hg4; clear ho3 hg3 hg4 hat3 hlt3)
                  all_goals go_wp2_with fail
                  all_goals go_roundw
                  all_goals first
                    | (case rel => exact ⟨k + 1, n + 1, _, by omega, by omega, by go_num, hide (by rw [HNL.out]; exact HM3.out), HX3⟩)
                    | (case measure => simp [intOf]; omega)
                    | skip
                · have HNL := hide (show (ms.take (k + 1)).filter (stM ns) = (ms.take k).filter (stM ns) by rw [HST.out]; simp)
                  clear HST
                  go_wp2_with (go_at_call 32; go_must ((with_reducible refine C32.out.mono ?_); rintro e w5 ⟨rfl, hw5⟩; subst hw5))
                  go_roundw
                  case rel => exact ⟨k + 1, n, _, by omega, by omega, by go_num, hide (by rw [HNL.out]; exact hD.out), hX⟩
                  case measure => simp [intOf]; omega
              · have hkl : ms.take k = ms := List.take_of_length_le (by have := HL.out; omega)
                rw [hkl] at hD
                have hlt' : ¬ (k : Int) < (l : Int) := by omega
                have HLN := hide hD.out.row.len
                have HZ := hide (hD.out.b0.put2 (.int .i64 (ep + 1)) (.slice sa n sc))
                have HW := hide (below_put2 hD.out.bl (g := w.heap.size + 1) (by omega) (.int .i64 (ep + 1)) (.slice sa n sc))
                have HO3 := hide ((hD.out.row.put2 (g := w.heap.size + 1) (by have := HGW.out; omega) (.int .i64 (ep + 1)) (.slice sa n sc)).mono (show w.heap.size ≤ g1 + 1 by have := HGW.out; omega))
                obtain ⟨⟨x0, x1'⟩, x2, x3⟩ := hD.out.b0.c2
                obtain ⟨⟨q0, q1⟩, -⟩ := hD.out.b1.c2
                clear hD hkl
                go_wp2
                generalize (World.setCell (World.setCell _ ⟨w.heap.size + 1, 0, none⟩ (.int .i64 (ep + 1))) ⟨w.heap.size + 1, 1, none⟩ (.slice sa n sc)) = X at HZ HW HO3 ⊢
                obtain ⟨⟨z0, z1⟩, -⟩ := HZ.out.c2
                refine bodyPost_ret (v := vw (ep + 1) (.slice sa n sc) 0) (by simp [results, Try.results11, go_sem, z0, z1]) rfl ?_
                exact ⟨_, rfl, by rw [HLN.out]; exact HO3.out, HW.out⟩
end Go.Proofs.Ythjkfpcbbjmclaa
