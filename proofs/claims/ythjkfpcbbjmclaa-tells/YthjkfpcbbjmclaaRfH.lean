/- With: the document's. -/
import Derived.Test.YthjkfpcbbjmclaaRfW
import Derived.Test.YthjkfpcbbjmclaaWth
namespace Go.Proofs.Ythjkfpcbbjmclaa
open Go.RowKit Go.ChangeShapes Go.WideShapes Go.ChangeAt Go.Deep

/-- What is still to be appended. -/
def toGo (m : Mb) (p : Bool) (r : List Mb) : List Mb := if p then r else insV r m
theorem toGo_before {m x : Mb} {r : List Mb} (h : m.1 < x.1) : toGo m false (x :: r) = m :: x :: toGo m true r := by simp [toGo, insV, h]
theorem toGo_later {m x : Mb} {r : List Mb} (h : ¬ m.1 < x.1) : toGo m false (x :: r) = x :: toGo m false r := by simp [toGo, insV, h]
theorem toGo_done {m x : Mb} {r : List Mb} : toGo m true (x :: r) = x :: toGo m true r := by simp [toGo]

set_option linter.unusedSimpArgs false in
set_option maxRecDepth 100000 in
set_option maxHeartbeats 8000000 in
/-- gleanerref14.With. -/
theorem rwith_any (ep : Int) (ms : List Mb) (nd lf : Int) (a : Option Addr) (l c : Nat) (w : World) (hl : ms.length = l) (hlen : l ≤ 20000) (hr : Reads w a (mV ms)) :
    Calls Try.prog 13 #[.agg #[.int .i64 ep, .slice a l c], .int .i64 nd, .int .i64 lf] w (VwPost w (wiP ep ms nd lf) (wiE ep ms nd lf) (wiL ep ms nd lf)) := by
  obtain ⟨hx, hy, hb, hsz⟩ := box2 w [.int .i64 ep, .slice a l c] [.int .i64 0, .slice none 0 0] 24 24
  obtain ⟨V, hV⟩ : ∃ V, V = (w.alloc (.cells #[.int .i64 ep, .slice a l c] 24)).alloc (.cells #[.int .i64 0, .slice none 0 0] 24) := ⟨_, rfl⟩
  have HX := hide (show BoxL V w.heap.size [.int .i64 ep, .slice a l c] by rw [hV]; exact hx)
  have HY := hide (show BoxL V (w.heap.size + 1) [.int .i64 0, .slice none 0 0] by rw [hV]; exact hy)
  have HB := hide (show Below w.heap.size w V by rw [hV]; exact hb)
  have HSZ := hide (show V.heap.size = w.heap.size + 2 by rw [hV]; exact hsz)
  have HV := hide hV
  have HR := hide (hr.below HB.out)
  have HL := hide hl
  have HR0 := hide hr
  have C20 := hide (rmay_any ep ms a l c V hl hlen HR.out)
  have C31 := hide (fun X (hX : Below V.heap.size V X) => member_any ep ms nd a l c X HL.out hlen (HR.out.below hX))
  have HWE := hide (show wiE ep ms nd lf = if mayV ep ms && (okM (nd, lf) && !inV ms nd) then (if ep = 2147483647 then 16 else 0) else 1 from rfl)
  have HWP := hide (show wiP ep ms nd lf = if wiE ep ms nd lf = 0 then ep + 1 else 0 from rfl)
  have HWL := hide (show wiL ep ms nd lf = if wiE ep ms nd lf = 0 then insV ms (nd, lf) else [] from rfl)
  generalize wiE ep ms nd lf = E at HWE HWP HWL ⊢
  generalize wiP ep ms nd lf = PP at HWP ⊢
  generalize wiL ep ms nd lf = LL at HWL ⊢
  have HP1 := hide (show ∀ X, Below V.heap.size V X → BoxL ((X.setCell ⟨w.heap.size + 1, 0, none⟩ (.int .i64 0)).setCell ⟨w.heap.size + 1, 1, none⟩ (.slice none 0 0)) (w.heap.size + 1) [.int .i64 0, .slice none 0 0] ∧ Below w.heap.size w ((X.setCell ⟨w.heap.size + 1, 0, none⟩ (.int .i64 0)).setCell ⟨w.heap.size + 1, 1, none⟩ (.slice none 0 0)) from
    fun X hX => ⟨(HY.out.below hX).put2 _ _, below_put2 (HB.out.trans (hX.mono HB.out.size)) (by omega) _ _⟩)
  clear hx hy hb hV hsz hr hl
  have hmy := mayV_ep (ep := ep) (ms := ms)
  generalize hQ : inV ms nd = Q at C31 HWE
  generalize hM : mayV ep ms = M at C20 HWE hmy
  have HMY := hide hmy
  clear hQ hM hmy
  go_enter Try.func13, Try.ntmps13
  go_upto_region 1 with fail
  rw [← HV.out]
  obtain ⟨⟨x0, x1⟩, -⟩ := HX.out.c2
  go_upto_region 3 with first
    | (go_at_call 31; go_must ((with_reducible refine (C31.out _ HB1.out).mono ?_); rintro e w2 ⟨rfl, hb2⟩; have HB2 := hide (HB1.out.trans (hb2.mono HB1.out.size)); clear hb2 x0' x1'))
    | (go_at_call 20; go_must ((with_reducible refine C20.out.mono ?_); rintro e w1 ⟨rfl, hb1⟩; have HB1 := hide hb1; have x0' := keep_cell x0 hb1; have x1' := keep_cell x1 hb1; clear hb1 x0 x1))
  clear C20 C31 HB1
  cases M with
  | false =>
    obtain rfl : E = 1 := by rw [HWE.out]; simp
    obtain rfl : PP = 0 := by rw [HWP.out]; rfl
    obtain rfl : LL = [] := by rw [HWL.out]; rfl
    clear HWE HWP HWL
    obtain ⟨⟨z0, z1⟩, z2, z3⟩ := (HY.out.below HB2.out).c2
    obtain ⟨HA, HC⟩ := HP1.out _ HB2.out
    have HA := hide HA
    have HC := hide HC
    go_wp2
    generalize (World.setCell (World.setCell _ ⟨w.heap.size + 1, 0, none⟩ (.int .i64 0)) ⟨w.heap.size + 1, 1, none⟩ (.slice none 0 0)) = X at HA HC ⊢
    obtain ⟨⟨u0, u1⟩, -⟩ := HA.out.c2
    refine bodyPost_ret (v := vw 0 (.slice none 0 0) 1) (by simp [results, Try.results13, go_sem, u0, u1]) rfl ?_
    exact ⟨_, rfl, Own.nil _ _, HC.out⟩
  | true =>
    have hep := HMY.out rfl
    cases Q with
    | true =>
      obtain rfl : E = 1 := by rw [HWE.out]; simp
      obtain rfl : PP = 0 := by rw [HWP.out]; rfl
      obtain rfl : LL = [] := by rw [HWL.out]; rfl
      clear HWE HWP HWL
      obtain ⟨⟨z0, z1⟩, z2, z3⟩ := (HY.out.below HB2.out).c2
      obtain ⟨HA, HC⟩ := HP1.out _ HB2.out
      have HA := hide HA
      have HC := hide HC
      go_wp2
      generalize (World.setCell (World.setCell _ ⟨w.heap.size + 1, 0, none⟩ (.int .i64 0)) ⟨w.heap.size + 1, 1, none⟩ (.slice none 0 0)) = X at HA HC ⊢
      obtain ⟨⟨u0, u1⟩, -⟩ := HA.out.c2
      refine bodyPost_ret (v := vw 0 (.slice none 0 0) 1) (by simp [results, Try.results13, go_sem, u0, u1]) rfl ?_
      exact ⟨_, rfl, Own.nil _ _, HC.out⟩
    | false =>
      cases hok : okM (nd, lf) with
      | false =>
        rcases okM_no hok with (h1 | h1) | h1
        · skip
          obtain rfl : E = 1 := by rw [HWE.out]; rw [hok]; simp
          obtain rfl : PP = 0 := by rw [HWP.out]; rfl
          obtain rfl : LL = [] := by rw [HWL.out]; rfl
          clear HWE HWP HWL hok
          obtain ⟨⟨z0, z1⟩, z2, z3⟩ := (HY.out.below HB2.out).c2
          obtain ⟨HA, HC⟩ := HP1.out _ HB2.out
          have HA := hide HA
          have HC := hide HC
          go_wp2
          generalize (World.setCell (World.setCell _ ⟨w.heap.size + 1, 0, none⟩ (.int .i64 0)) ⟨w.heap.size + 1, 1, none⟩ (.slice none 0 0)) = X at HA HC ⊢
          obtain ⟨⟨u0, u1⟩, -⟩ := HA.out.c2
          refine bodyPost_ret (v := vw 0 (.slice none 0 0) 1) (by simp [results, Try.results13, go_sem, u0, u1]) rfl ?_
          exact ⟨_, rfl, Own.nil _ _, HC.out⟩
        · have h2 : ¬ nd < 0 := by omega
          obtain rfl : E = 1 := by rw [HWE.out]; rw [hok]; simp
          obtain rfl : PP = 0 := by rw [HWP.out]; rfl
          obtain rfl : LL = [] := by rw [HWL.out]; rfl
          clear HWE HWP HWL hok
          obtain ⟨⟨z0, z1⟩, z2, z3⟩ := (HY.out.below HB2.out).c2
          obtain ⟨HA, HC⟩ := HP1.out _ HB2.out
          have HA := hide HA
          have HC := hide HC
          go_wp2
          generalize (World.setCell (World.setCell _ ⟨w.heap.size + 1, 0, none⟩ (.int .i64 0)) ⟨w.heap.size + 1, 1, none⟩ (.slice none 0 0)) = X at HA HC ⊢
          obtain ⟨⟨u0, u1⟩, -⟩ := HA.out.c2
          refine bodyPost_ret (v := vw 0 (.slice none 0 0) 1) (by simp [results, Try.results13, go_sem, u0, u1]) rfl ?_
          exact ⟨_, rfl, Own.nil _ _, HC.out⟩
        · by_cases h2 : nd < 0
          · clear h1
            obtain rfl : E = 1 := by rw [HWE.out]; rw [hok]; simp
            obtain rfl : PP = 0 := by rw [HWP.out]; rfl
            obtain rfl : LL = [] := by rw [HWL.out]; rfl
            clear HWE HWP HWL hok
            obtain ⟨⟨z0, z1⟩, z2, z3⟩ := (HY.out.below HB2.out).c2
            obtain ⟨HA, HC⟩ := HP1.out _ HB2.out
            have HA := hide HA
            have HC := hide HC
            go_wp2
            generalize (World.setCell (World.setCell _ ⟨w.heap.size + 1, 0, none⟩ (.int .i64 0)) ⟨w.heap.size + 1, 1, none⟩ (.slice none 0 0)) = X at HA HC ⊢
            obtain ⟨⟨u0, u1⟩, -⟩ := HA.out.c2
            refine bodyPost_ret (v := vw 0 (.slice none 0 0) 1) (by simp [results, Try.results13, go_sem, u0, u1]) rfl ?_
            exact ⟨_, rfl, Own.nil _ _, HC.out⟩
          · by_cases h3 : 15 < nd
            · clear h1
              obtain rfl : E = 1 := by rw [HWE.out]; rw [hok]; simp
              obtain rfl : PP = 0 := by rw [HWP.out]; rfl
              obtain rfl : LL = [] := by rw [HWL.out]; rfl
              clear HWE HWP HWL hok
              obtain ⟨⟨z0, z1⟩, z2, z3⟩ := (HY.out.below HB2.out).c2
              obtain ⟨HA, HC⟩ := HP1.out _ HB2.out
              have HA := hide HA
              have HC := hide HC
              go_wp2
              generalize (World.setCell (World.setCell _ ⟨w.heap.size + 1, 0, none⟩ (.int .i64 0)) ⟨w.heap.size + 1, 1, none⟩ (.slice none 0 0)) = X at HA HC ⊢
              obtain ⟨⟨u0, u1⟩, -⟩ := HA.out.c2
              refine bodyPost_ret (v := vw 0 (.slice none 0 0) 1) (by simp [results, Try.results13, go_sem, u0, u1]) rfl ?_
              exact ⟨_, rfl, Own.nil _ _, HC.out⟩
            · rcases h1 with h1 | h1
              · skip
                obtain rfl : E = 1 := by rw [HWE.out]; rw [hok]; simp
                obtain rfl : PP = 0 := by rw [HWP.out]; rfl
                obtain rfl : LL = [] := by rw [HWL.out]; rfl
                clear HWE HWP HWL hok
                obtain ⟨⟨z0, z1⟩, z2, z3⟩ := (HY.out.below HB2.out).c2
                obtain ⟨HA, HC⟩ := HP1.out _ HB2.out
                have HA := hide HA
                have HC := hide HC
                go_wp2
                generalize (World.setCell (World.setCell _ ⟨w.heap.size + 1, 0, none⟩ (.int .i64 0)) ⟨w.heap.size + 1, 1, none⟩ (.slice none 0 0)) = X at HA HC ⊢
                obtain ⟨⟨u0, u1⟩, -⟩ := HA.out.c2
                refine bodyPost_ret (v := vw 0 (.slice none 0 0) 1) (by simp [results, Try.results13, go_sem, u0, u1]) rfl ?_
                exact ⟨_, rfl, Own.nil _ _, HC.out⟩
              · have h4 : ¬ lf < 1 := by omega
                obtain rfl : E = 1 := by rw [HWE.out]; rw [hok]; simp
                obtain rfl : PP = 0 := by rw [HWP.out]; rfl
                obtain rfl : LL = [] := by rw [HWL.out]; rfl
                clear HWE HWP HWL hok
                obtain ⟨⟨z0, z1⟩, z2, z3⟩ := (HY.out.below HB2.out).c2
                obtain ⟨HA, HC⟩ := HP1.out _ HB2.out
                have HA := hide HA
                have HC := hide HC
                go_wp2
                generalize (World.setCell (World.setCell _ ⟨w.heap.size + 1, 0, none⟩ (.int .i64 0)) ⟨w.heap.size + 1, 1, none⟩ (.slice none 0 0)) = X at HA HC ⊢
                obtain ⟨⟨u0, u1⟩, -⟩ := HA.out.c2
                refine bodyPost_ret (v := vw 0 (.slice none 0 0) 1) (by simp [results, Try.results13, go_sem, u0, u1]) rfl ?_
                exact ⟨_, rfl, Own.nil _ _, HC.out⟩
      | true =>
        obtain ⟨⟨h1, h2⟩, h3, h4⟩ := (okM_iff _).1 hok
        simp only at h1 h2 h3 h4
        have j1 : ¬ nd < 0 := by omega
        have j2 : ¬ 15 < nd := by omega
        have j3 : ¬ lf < 1 := by omega
        have j4 : ¬ 2147483647 < lf := by omega
        have HE2 := hide (show E = if ep = 2147483647 then 16 else 0 by rw [HWE.out, hok]; rfl)
        clear HWE hok h1 h2 h3 h4
        go_upto_region 5 with fail
        obtain ⟨⟨x0, x1⟩, -⟩ := (HX.out.below HB2.out).c2
        by_cases hmx : ep = 2147483647
        · subst hmx
          obtain rfl : E = 16 := by rw [HE2.out]; rfl
          obtain rfl : PP = 0 := by rw [HWP.out]; rfl
          obtain rfl : LL = [] := by rw [HWL.out]; rfl
          clear HE2 HWP HWL
          obtain ⟨⟨z0, z1⟩, z2, z3⟩ := (HY.out.below HB2.out).c2
          obtain ⟨HA, HC⟩ := HP1.out _ HB2.out
          have HA := hide HA
          have HC := hide HC
          go_wp2
          generalize (World.setCell (World.setCell _ ⟨w.heap.size + 1, 0, none⟩ (.int .i64 0)) ⟨w.heap.size + 1, 1, none⟩ (.slice none 0 0)) = X at HA HC ⊢
          obtain ⟨⟨u0, u1⟩, -⟩ := HA.out.c2
          refine bodyPost_ret (v := vw 0 (.slice none 0 0) 16) (by simp [results, Try.results13, go_sem, u0, u1]) rfl ?_
          exact ⟨_, rfl, Own.nil _ _, HC.out⟩
        · have qe : (ep == 2147483647) = false := by simp [hmx]
          have hw1 : IntKind.i64.wrap (ep + 1) = ep + 1 := by rw [IntKind.wrap_i64]; omega
          obtain rfl : E = 0 := by rw [HE2.out, if_neg hmx]
          obtain rfl : PP = ep + 1 := by rw [HWP.out]; rfl
          obtain rfl : LL = insV ms (nd, lf) := by rw [HWL.out]; rfl
          clear HE2 HWP HWL hmx HP1
          go_upto_region 8 with fail
          have HBD := hide (show Bld w (w2.alloc (.cells #[.int .i64 (ep + 1), .slice none 0 0] 24)) (w.heap.size + 1) w2.heap.size (w2.heap.size + 1) (ep + 1) (.slice none 0 0) 0 [] from
            ⟨(HB.out.trans (HB2.out.mono HB.out.size)).trans ((below_new w2 _).mono (Nat.le_trans HB.out.size HB2.out.size)), by simp, (HY.out.below HB2.out).below (below_new w2 _), BoxL.new w2 [.int .i64 (ep + 1), .slice none 0 0] 24, Own.nil _ _, by have := HSZ.out; have := HB2.out.size; omega⟩)
          have HXB := hide (show BoxL (w2.alloc (.cells #[.int .i64 (ep + 1), .slice none 0 0] 24)) w.heap.size [.int .i64 ep, .slice a l c] from (HX.out.below HB2.out).below (below_new w2 _))
          generalize w2.alloc (.cells #[.int .i64 (ep + 1), .slice none 0 0] 24) = V2 at HBD HXB ⊢
          have hgw : w.heap.size + 2 ≤ w2.heap.size := by have := HSZ.out; have := HB2.out.size; omega
          generalize w2.heap.size = g1 at HBD hgw ⊢
          have HGW := hide hgw
          clear x0 x1 hgw HB2 HX HY HB HR HV HSZ hw1 qe HMY
          go_wp2
          go_loopw [11, 12] (fun pv i wr => ∃ (k n : Nat) (p : Bool) (v : Value) (L : List Mb), k ≤ l ∧ n ≤ 2 * k ∧ i = .int .i64 (k : Nat) ∧ pv = .bool p ∧ Hid (Bld w wr (w.heap.size + 1) g1 (g1 + 1) (ep + 1) v n L) ∧ Hid (BoxL wr w.heap.size [.int .i64 ep, .slice a l c]) ∧ Hid (insV ms (nd, lf) = L ++ toGo (nd, lf) p (ms.drop k))) (fun _ i _ => l - (intOf i).toNat)
          case atStart => exact ⟨0, 0, false, _, [], Nat.zero_le _, Nat.zero_le _, rfl, rfl, HBD, HXB, hide rfl⟩
          case round =>
            clear HBD HXB
            obtain ⟨k, n, p, v, L, hk, hnk, rfl, rfl, hD, hX, hI⟩ := hrel
            obtain ⟨sa, sc, rfl⟩ := hD.out.row.open
            obtain ⟨⟨-, x1⟩, -⟩ := hX.out.c2
            by_cases hlt : k < l
            · have hlt' : (k : Int) < (l : Int) := by omega
              have hkl : k < ms.length := by have := HL.out; omega
              have hni : n ≤ 100000 := by omega
              obtain ⟨g, off, har, y0, y1⟩ := mem_at (HR0.out.below hD.out.bl) hkl
              subst har
              have HDR := hide (show ms.drop k = ms[k] :: ms.drop (k + 1) from List.drop_eq_getElem_cons hkl)
              have HRE := hide (fun W (hW : Below w.heap.size w W) => mem_at (HR0.out.below hW) hkl)
              generalize ms[k] = x at y0 y1 HDR HRE
              obtain ⟨x, y⟩ := x
              simp only at y0 y1 HRE
              have hI2 := hide (show insV ms (nd, lf) = L ++ toGo (nd, lf) p ((x, y) :: ms.drop (k + 1)) by rw [← HDR.out]; exact hI.out)
              clear hI HDR
              have hnk2 : n + 2 ≤ 2 * (k + 1) := by omega
              clear hnk
              cases p with
              | true =>
                have HN := hide (show insV ms (nd, lf) = (L ++ [(x, y)]) ++ toGo (nd, lf) true (ms.drop (k + 1)) by rw [hI2.out, toGo_done]; simp)
                clear hI2 HRE
                go_upto_region 15 with fail
                have HD2 := hide (hD.out.below (below_new wr (.cells #[.int .i64 x, .int .i64 y] 41)))
                have HX2 := hide (hX.out.below (below_new wr (.cells #[.int .i64 x, .int .i64 y] 41)))
                have HOd := hide (show (wr.alloc (.cells #[.int .i64 x, .int .i64 y] 41)).ownsRow (g1 + 1) 41 2 (.slice sa n sc) n (mV (L)) from HD2.out.row)
                have HNW := hide (news_new wr [.int .i64 x, .int .i64 y] 41)
                have HON := hide (show ∀ u ∈ [Value.int .i64 x, .int .i64 y], u.oneCell' = true from fun u hu => mV_one [(x, y)] u hu)
                obtain ⟨i0, hi, hz0, hz1, hz2⟩ := info_parts Try.info41
                have HI := hide (And.intro hi (And.intro hz0 (And.intro hz1 hz2)))
                obtain ⟨⟨-, c1⟩, -⟩ := hD.out.b1.c2
                have c1a := keep_cell c1 (below_new wr (.cells #[.int .i64 x, .int .i64 y] 41))
                have c1b : (wr.alloc (.cells #[.int .i64 x, .int .i64 y] 41)).drew.cell? ⟨g1, 1, none⟩ = some (.slice sa n sc) := c1a
                have c1c : (wr.drew.alloc (.cells #[.int .i64 x, .int .i64 y] 41)).cell? ⟨g1, 1, none⟩ = some (.slice sa n sc) := c1a
                have HSZ2 := hide HD2.out.sz
                clear hi hz0 hz1 hz2 hD hX
                go_region_law (refine step_append_lies _ rfl (.tmp 76) (.tmp 82) 22 rfl (g1 + 1) 41 i0 (.agg #[.int .i64 0, .int .i64 0]) 2 16 Try.underlying22 HI.out.1 HI.out.2.1 HI.out.2.2.1 HI.out.2.2.2 rfl (by omega) (.slice sa (n) sc) (n) _ (by simp [Act.eval, Act.put]) HOd.out ⟨_, 0, none⟩ 1 1 [.int .i64 x, .int .i64 y] (by simp [Act.eval, Act.put]) rfl HNW.out HON.out (by omega) (by unfold maxLen; omega) (by omega) HSZ2.out _ rfl ?_; intro g3 cap3 w3 ho3 hg3 hat3 hlt3; have hg4 : (wr.alloc (.cells #[.int .i64 x, .int .i64 y] 41)).grownBy w3 (Value.slice sa (n) sc).ownBlock := ⟨hg3.os, hg3.tape, hg3.output, hg3.size, hg3.block⟩; have HM3 := hide (HD2.out.more (show Own (g1 + 1) w3 (.slice (some ⟨g3, 0, none⟩) (n + 1) cap3) (n + 1) ((L) ++ [(x, y)]) by unfold Own; rw [mV_app]; exact ho3) hg4); have HX3 := hide (HD2.out.other (v' := .slice (some ⟨g3, 0, none⟩) (n + 1) cap3) hg4 HX2.out (by have := HGW.out; omega) (by have := HGW.out; omega)); obtain ⟨z1, z2⟩ := HD2.out.cells hg4; clear ho3 hg3 hg4 hat3 hlt3)
                all_goals go_wp2_with fail
                all_goals go_roundw
                all_goals first
                  | (case rel => exact ⟨k + 1, n + 1, true, _, _, by omega, by omega, by go_num, rfl, HM3, HX3, HN⟩)
                  | (case measure => simp [intOf]; omega)
                  | skip
              | false =>
                by_cases hgt : nd < x
                · have HN := hide (show insV ms (nd, lf) = ((L ++ [(nd, lf)]) ++ [(x, y)]) ++ toGo (nd, lf) true (ms.drop (k + 1)) by rw [hI2.out, toGo_before hgt]; simp)
                  have HD1 := hide (hD.out.below (below_new wr (.cells #[.int .i64 nd, .int .i64 lf] 41)))
                  have HX1 := hide (hX.out.below (below_new wr (.cells #[.int .i64 nd, .int .i64 lf] 41)))
                  have HRD := hide (show Reads (wr.alloc (.cells #[.int .i64 nd, .int .i64 lf] 41)) (some ⟨wr.heap.size, 0, none⟩) (mV [(nd, lf)]) from reads_new wr (mV [(nd, lf)]) 41)
                  obtain ⟨⟨-, o1⟩, -⟩ := hD.out.b1.c2
                  clear hI2 hD hX
                  go_upto_region 15 with (at_builtin; go_must (refine append_m rfl (.tmp 68) (.tmp 72) rfl (g1 + 1) (.slice sa n sc) n L rfl HD1.out.row (some ⟨wr.heap.size, 0, none⟩) 1 1 [(nd, lf)] rfl (fun h => by cases h) rfl HRD.out (by omega) HD1.out.sz ?_; intro v' w1 ho hg; obtain ⟨a', c', rfl⟩ := ho.open; have HM := hide (HD1.out.more ho hg); have HX3 := hide (HD1.out.other (v' := .slice a' (n + 1) c') hg HX1.out (by have := HGW.out; omega) (by have := HGW.out; omega)); obtain ⟨z1, z2⟩ := HD1.out.cells hg; clear ho hg))
                  generalize w1.setCell ⟨g1, 1, none⟩ (.slice a' (n + 1) c') = W3 at HM HX3 ⊢
                  obtain ⟨g', off', har, y0', y1'⟩ := HRE.out W3 HM.out.bl
                  simp only [Option.some.injEq, Addr.mk.injEq] at har
                  obtain ⟨rfl, rfl, -⟩ := har
                  obtain ⟨⟨-, x1'⟩, -⟩ := HX3.out.c2
                  clear HD1 HX1 HRD o1 y0 y1 z1 z2 x1 HRE
                  have HM' := HM
                  have HX' := HX3
                  clear HM HX3
                  have HD2 := hide (HM'.out.below (below_new W3 (.cells #[.int .i64 x, .int .i64 y] 41)))
                  have HX2 := hide (HX'.out.below (below_new W3 (.cells #[.int .i64 x, .int .i64 y] 41)))
                  have HOd := hide (show (W3.alloc (.cells #[.int .i64 x, .int .i64 y] 41)).ownsRow (g1 + 1) 41 2 (.slice a' (n + 1) c') (n + 1) (mV (L ++ [(nd, lf)])) from HD2.out.row)
                  have HNW := hide (news_new W3 [.int .i64 x, .int .i64 y] 41)
                  have HON := hide (show ∀ u ∈ [Value.int .i64 x, .int .i64 y], u.oneCell' = true from fun u hu => mV_one [(x, y)] u hu)
                  obtain ⟨i0, hi, hz0, hz1, hz2⟩ := info_parts Try.info41
                  have HI := hide (And.intro hi (And.intro hz0 (And.intro hz1 hz2)))
                  obtain ⟨⟨-, c1⟩, -⟩ := HM'.out.b1.c2
                  have c1a := keep_cell c1 (below_new W3 (.cells #[.int .i64 x, .int .i64 y] 41))
                  have c1b : (W3.alloc (.cells #[.int .i64 x, .int .i64 y] 41)).drew.cell? ⟨g1, 1, none⟩ = some (.slice a' (n + 1) c') := c1a
                  have c1c : (W3.drew.alloc (.cells #[.int .i64 x, .int .i64 y] 41)).cell? ⟨g1, 1, none⟩ = some (.slice a' (n + 1) c') := c1a
                  have HSZ2 := hide HD2.out.sz
                  clear hi hz0 hz1 hz2 HM' HX'
                  go_region_law (refine step_append_lies _ rfl (.tmp 76) (.tmp 82) 22 rfl (g1 + 1) 41 i0 (.agg #[.int .i64 0, .int .i64 0]) 2 16 Try.underlying22 HI.out.1 HI.out.2.1 HI.out.2.2.1 HI.out.2.2.2 rfl (by omega) (.slice a' ((n + 1)) c') ((n + 1)) _ (by simp [Act.eval, Act.put]) HOd.out ⟨_, 0, none⟩ 1 1 [.int .i64 x, .int .i64 y] (by simp [Act.eval, Act.put]) rfl HNW.out HON.out (by omega) (by unfold maxLen; omega) (by omega) HSZ2.out _ rfl ?_; intro g3 cap3 w3 ho3 hg3 hat3 hlt3; have hg4 : (W3.alloc (.cells #[.int .i64 x, .int .i64 y] 41)).grownBy w3 (Value.slice a' ((n + 1)) c').ownBlock := ⟨hg3.os, hg3.tape, hg3.output, hg3.size, hg3.block⟩; have HM3 := hide (HD2.out.more (show Own (g1 + 1) w3 (.slice (some ⟨g3, 0, none⟩) ((n + 1) + 1) cap3) ((n + 1) + 1) ((L ++ [(nd, lf)]) ++ [(x, y)]) by unfold Own; rw [mV_app]; exact ho3) hg4); have HX3 := hide (HD2.out.other (v' := .slice (some ⟨g3, 0, none⟩) ((n + 1) + 1) cap3) hg4 HX2.out (by have := HGW.out; omega) (by have := HGW.out; omega)); obtain ⟨z1, z2⟩ := HD2.out.cells hg4; clear ho3 hg3 hg4 hat3 hlt3)
                  all_goals go_wp2_with fail
                  all_goals go_roundw
                  all_goals first
                    | (case rel => exact ⟨k + 1, (n + 1) + 1, true, _, _, by omega, by omega, by go_num, rfl, HM3, HX3, HN⟩)
                    | (case measure => simp [intOf]; omega)
                    | skip
                · have HN := hide (show insV ms (nd, lf) = (L ++ [(x, y)]) ++ toGo (nd, lf) false (ms.drop (k + 1)) by rw [hI2.out, toGo_later hgt]; simp)
                  clear hI2 HRE
                  go_upto_region 15 with fail
                  have HD2 := hide (hD.out.below (below_new wr (.cells #[.int .i64 x, .int .i64 y] 41)))
                  have HX2 := hide (hX.out.below (below_new wr (.cells #[.int .i64 x, .int .i64 y] 41)))
                  have HOd := hide (show (wr.alloc (.cells #[.int .i64 x, .int .i64 y] 41)).ownsRow (g1 + 1) 41 2 (.slice sa n sc) n (mV (L)) from HD2.out.row)
                  have HNW := hide (news_new wr [.int .i64 x, .int .i64 y] 41)
                  have HON := hide (show ∀ u ∈ [Value.int .i64 x, .int .i64 y], u.oneCell' = true from fun u hu => mV_one [(x, y)] u hu)
                  obtain ⟨i0, hi, hz0, hz1, hz2⟩ := info_parts Try.info41
                  have HI := hide (And.intro hi (And.intro hz0 (And.intro hz1 hz2)))
                  obtain ⟨⟨-, c1⟩, -⟩ := hD.out.b1.c2
                  have c1a := keep_cell c1 (below_new wr (.cells #[.int .i64 x, .int .i64 y] 41))
                  have c1b : (wr.alloc (.cells #[.int .i64 x, .int .i64 y] 41)).drew.cell? ⟨g1, 1, none⟩ = some (.slice sa n sc) := c1a
                  have c1c : (wr.drew.alloc (.cells #[.int .i64 x, .int .i64 y] 41)).cell? ⟨g1, 1, none⟩ = some (.slice sa n sc) := c1a
                  have HSZ2 := hide HD2.out.sz
                  clear hi hz0 hz1 hz2 hD hX
                  go_region_law (refine step_append_lies _ rfl (.tmp 76) (.tmp 82) 22 rfl (g1 + 1) 41 i0 (.agg #[.int .i64 0, .int .i64 0]) 2 16 Try.underlying22 HI.out.1 HI.out.2.1 HI.out.2.2.1 HI.out.2.2.2 rfl (by omega) (.slice sa (n) sc) (n) _ (by simp [Act.eval, Act.put]) HOd.out ⟨_, 0, none⟩ 1 1 [.int .i64 x, .int .i64 y] (by simp [Act.eval, Act.put]) rfl HNW.out HON.out (by omega) (by unfold maxLen; omega) (by omega) HSZ2.out _ rfl ?_; intro g3 cap3 w3 ho3 hg3 hat3 hlt3; have hg4 : (wr.alloc (.cells #[.int .i64 x, .int .i64 y] 41)).grownBy w3 (Value.slice sa (n) sc).ownBlock := ⟨hg3.os, hg3.tape, hg3.output, hg3.size, hg3.block⟩; have HM3 := hide (HD2.out.more (show Own (g1 + 1) w3 (.slice (some ⟨g3, 0, none⟩) (n + 1) cap3) (n + 1) ((L) ++ [(x, y)]) by unfold Own; rw [mV_app]; exact ho3) hg4); have HX3 := hide (HD2.out.other (v' := .slice (some ⟨g3, 0, none⟩) (n + 1) cap3) hg4 HX2.out (by have := HGW.out; omega) (by have := HGW.out; omega)); obtain ⟨z1, z2⟩ := HD2.out.cells hg4; clear ho3 hg3 hg4 hat3 hlt3)
                  all_goals go_wp2_with fail
                  all_goals go_roundw
                  all_goals first
                    | (case rel => exact ⟨k + 1, n + 1, false, _, _, by omega, by omega, by go_num, rfl, HM3, HX3, HN⟩)
                    | (case measure => simp [intOf]; omega)
                    | skip
            · have hkl : ms.drop k = [] := List.drop_of_length_le (by have := HL.out; omega)
              have hlt' : ¬ (k : Int) < (l : Int) := by omega
              rw [hkl] at hI
              clear hkl
              have hni : n ≤ 100000 := by omega
              have HFIN := hide (show ∀ X v n, Bld w X (w.heap.size + 1) g1 (g1 + 1) (ep + 1) v n (insV ms (nd, lf)) → BoxL ((X.setCell ⟨w.heap.size + 1, 0, none⟩ (.int .i64 (ep + 1))).setCell ⟨w.heap.size + 1, 1, none⟩ v) (w.heap.size + 1) [.int .i64 (ep + 1), v] ∧ Below w.heap.size w ((X.setCell ⟨w.heap.size + 1, 0, none⟩ (.int .i64 (ep + 1))).setCell ⟨w.heap.size + 1, 1, none⟩ v) ∧ Own w.heap.size ((X.setCell ⟨w.heap.size + 1, 0, none⟩ (.int .i64 (ep + 1))).setCell ⟨w.heap.size + 1, 1, none⟩ v) v (insV ms (nd, lf)).length (insV ms (nd, lf)) from
                fun X v n h => ⟨h.b0.put2 _ _, below_put2 h.bl (by omega) _ _, by
                  have h1 := (h.row.put2 (g := w.heap.size + 1) (by have := HGW.out; omega) (.int .i64 (ep + 1)) v).mono (show w.heap.size ≤ g1 + 1 by have := HGW.out; omega)
                  rw [h.row.len]; exact h1⟩)
              cases p with
              | true =>
                have hL : insV ms (nd, lf) = L := by rw [hI.out]; simp [toGo]
                obtain ⟨HZ, HW, HO3⟩ := HFIN.out _ _ _ (by rw [hL]; exact hD.out)
                have HZ := hide HZ
                have HW := hide HW
                have HO3 := hide HO3
                obtain ⟨⟨x0, x1'⟩, x2, x3⟩ := hD.out.b0.c2
                obtain ⟨⟨q0, q1⟩, -⟩ := hD.out.b1.c2
                clear hL hD hI HFIN
                go_wp2
                generalize (World.setCell (World.setCell _ ⟨w.heap.size + 1, 0, none⟩ (.int .i64 (ep + 1))) ⟨w.heap.size + 1, 1, none⟩ (.slice sa n sc)) = X at HZ HW HO3 ⊢
                obtain ⟨⟨z0, z1⟩, -⟩ := HZ.out.c2
                refine bodyPost_ret (v := vw (ep + 1) (.slice sa n sc) 0) (by simp [results, Try.results13, go_sem, z0, z1]) rfl ?_
                exact ⟨_, rfl, HO3.out, HW.out⟩
              | false =>
                have hL : insV ms (nd, lf) = L ++ [(nd, lf)] := by rw [hI.out]; simp [toGo, insV]
                have HLL := hide hL
                have HD1 := hide (hD.out.below (below_new wr (.cells #[.int .i64 nd, .int .i64 lf] 41)))
                have HRD := hide (show Reads (wr.alloc (.cells #[.int .i64 nd, .int .i64 lf] 41)) (some ⟨wr.heap.size, 0, none⟩) (mV [(nd, lf)]) from reads_new wr (mV [(nd, lf)]) 41)
                obtain ⟨⟨-, o1⟩, -⟩ := hD.out.b1.c2
                clear hL hD hI hX
                go_upto_region 18 with (at_builtin; go_must (refine append_m rfl (.tmp 88) (.tmp 92) rfl (g1 + 1) (.slice sa n sc) n L rfl HD1.out.row (some ⟨wr.heap.size, 0, none⟩) 1 1 [(nd, lf)] rfl (fun h => by cases h) rfl HRD.out (by omega) HD1.out.sz ?_; intro v' w1 ho hg; obtain ⟨a', c', rfl⟩ := ho.open; have HM := hide (HD1.out.more ho hg); obtain ⟨z1, z2⟩ := HD1.out.cells hg; clear ho hg))
                generalize w1.setCell ⟨g1, 1, none⟩ (.slice a' (n + 1) c') = W3 at HM ⊢
                obtain ⟨HZ, HW, HO3⟩ := HFIN.out _ _ _ (by rw [HLL.out]; exact HM.out)
                have HZ := hide HZ
                have HW := hide HW
                have HO3 := hide HO3
                obtain ⟨⟨x0, x1'⟩, x2, x3⟩ := HM.out.b0.c2
                obtain ⟨⟨q0, q1⟩, -⟩ := HM.out.b1.c2
                clear HD1 HRD o1 z1 z2 HM HFIN
                go_wp2
                generalize (World.setCell (World.setCell _ ⟨w.heap.size + 1, 0, none⟩ (.int .i64 (ep + 1))) ⟨w.heap.size + 1, 1, none⟩ (.slice a' (n + 1) c')) = X at HZ HW HO3 ⊢
                obtain ⟨⟨z0, z1⟩, -⟩ := HZ.out.c2
                refine bodyPost_ret (v := vw (ep + 1) (.slice a' (n + 1) c') 0) (by simp [results, Try.results13, go_sem, z0, z1]) rfl ?_
                exact ⟨_, rfl, HO3.out, HW.out⟩
end Go.Proofs.Ythjkfpcbbjmclaa
