/- view.With. -/
import Derived.Test.YthjkfpcbbjmclaaIns
namespace Go.Proofs.Ythjkfpcbbjmclaa
open Go.RowKit Go.ChangeShapes Go.WideShapes Go.ChangeAt Go.Deep

theorem Own.some {B n : Nat} {w : World} {v : Value} {l : List Mb} (h : Own B w v n l) (hn : 0 < n) : ∃ g c, v = .slice (.some ⟨g, 0, none⟩) n c ∧ B ≤ g := by
  rcases h.2 with ⟨_, h0⟩ | ⟨g, cap, cur, e, h1, _⟩
  · omega
  · exact ⟨g, cap, e, h1⟩
theorem goV_at : ∀ {ms : List Mb}, headZ ms = true → 0 < ms.length
  | [], h => by simp [headZ] at h
  | _ :: _, _ => by simp
theorem mayV_pos {ep : Int} {ms : List Mb} (h : mayV ep ms = true) : 0 < ms.length := by
  simp only [mayV, Bool.and_eq_true] at h
  exact goV_at h.2.1
theorem ins_of {ms : List Mb} {n lf : Int} {k : Nat} (hp : PlaceAt ms n k) (hi : inV ms n = false) : insV ms (n, lf) = ms.take k ++ (n, lf) :: ms.drop k := by
  refine insV_at ms (n, lf) k hp.1 hp.2.1 (fun j hj hkj => ?_)
  have h1 := hp.2.2 j hj hkj
  have h2 : ms[j].1 ≠ n := fun e => by
    have := PlaceAt.yes (n := n) hj e
    rw [hi] at this; cases this
  show n < _
  omega
theorem insV_len (ms : List Mb) (m : Mb) : (insV ms m).length = ms.length + 1 := by
  induction ms with
  | nil => rfl
  | cons x r ih => unfold insV; split <;> simp [ih]

set_option linter.unusedSimpArgs false in
set_option maxRecDepth 100000 in
set_option maxHeartbeats 4000000 in
theorem with_any (ep : Int) (ms : List Mb) (n lf : Int) (a : Option Addr) (l c : Nat) (w : World) (hl : ms.length = l) (hlen : l ≤ 20000) (hr : Reads w a (mV ms)) (hnil : a = none → l = 0 ∧ c = 0) :
    Calls Try.prog 12 #[.agg #[.int .i64 ep, .slice a l c], .int .i64 n, .int .i64 lf] w (VwPost w (wiP ep ms n lf) (wiE ep ms n lf) (wiL ep ms n lf)) := by
  obtain ⟨V, hV, hx, hy, hz, hb, hsz⟩ := box3 w [.int .i64 ep, .slice a l c] [.int .i64 0, .slice none 0 0] [.int .i64 n, .int .i64 lf] 24 24 41
  have HX := hide hx
  have HY := hide hy
  have HZ := hide hz
  have HB := hide hb
  have HV := hide hV
  have HSZ := hide hsz
  have HR := hide (hr.below hb)
  have HL := hide hl
  have HNIL := hide hnil
  have C19 := hide (may_any ep ms a l c V hl hlen HR.out)
  have C33 := hide (fun X => mayMember_any n lf X)
  have HWE := hide (show wiE ep ms n lf = if mayV ep ms && (okM (n, lf) && !inV ms n) then (if ep = 2147483647 then 16 else 0) else 1 from rfl)
  have HWP := hide (show wiP ep ms n lf = if wiE ep ms n lf = 0 then ep + 1 else 0 from rfl)
  have HWL := hide (show wiL ep ms n lf = if wiE ep ms n lf = 0 then insV ms (n, lf) else [] from rfl)
  generalize wiE ep ms n lf = E at HWE HWP HWL ⊢
  generalize wiP ep ms n lf = PP at HWP ⊢
  generalize wiL ep ms n lf = LL at HWL ⊢
  have HP1 := hide (show ∀ X, Below V.heap.size V X → BoxL ((X.setCell ⟨w.heap.size + 1, 0, none⟩ (.int .i64 0)).setCell ⟨w.heap.size + 1, 1, none⟩ (.slice none 0 0)) (w.heap.size + 1) [.int .i64 0, .slice none 0 0] ∧ Below w.heap.size w ((X.setCell ⟨w.heap.size + 1, 0, none⟩ (.int .i64 0)).setCell ⟨w.heap.size + 1, 1, none⟩ (.slice none 0 0)) from
    fun X hX => ⟨(HY.out.below hX).put2 _ _, below_put2 (HB.out.trans (hX.mono HB.out.size)) (by omega) _ _⟩)
  clear hx hy hz hb hV hsz hr hl hnil
  cases hmay : mayV ep ms with
  | false =>
    rw [hmay] at C19
    obtain rfl : E = 1 := by rw [HWE.out, hmay]; rfl
    obtain rfl : PP = 0 := by rw [HWP.out]; rfl
    obtain rfl : LL = [] := by rw [HWL.out]; rfl
    clear HWE HWP HWL
    go_enter Try.func12, Try.ntmps12
    go_upto_region 2 with fail
    rw [← HV.out]
    obtain ⟨⟨x0, x1⟩, -⟩ := HX.out.c2
    go_upto_region 3 with (go_at_call 19; go_must ((with_reducible refine C19.out.mono ?_); rintro e w1 ⟨rfl, hb1⟩; have HB1 := hide hb1; clear hb1))
    obtain ⟨⟨z0, z1⟩, z2, z3⟩ := (HY.out.below HB1.out).c2
    obtain ⟨HA, HC⟩ := HP1.out w1 HB1.out
    have HA := hide HA
    have HC := hide HC
    go_wp2
    generalize (w1.setCell ⟨w.heap.size + 1, 0, none⟩ (.int .i64 0)).setCell ⟨w.heap.size + 1, 1, none⟩ (.slice none 0 0) = X at HA HC ⊢
    obtain ⟨⟨u0, u1⟩, -⟩ := HA.out.c2
    refine bodyPost_ret (v := vw 0 (.slice none 0 0) 1) (by simp [results, Try.results12, go_sem, u0, u1]) rfl ?_
    exact ⟨_, rfl, Own.nil _ _, HC.out⟩
  | true =>
    rw [hmay] at C19
    have HRI := hide (mayV_rise hmay)
    have hep := mayV_ep hmay
    have hl0 : 0 < l := by have := mayV_pos hmay; have := HL.out; omega
    cases hok : okM (n, lf) with
    | false =>
      rw [hok] at C33
      obtain rfl : E = 1 := by rw [HWE.out, hmay, hok]; rfl
      obtain rfl : PP = 0 := by rw [HWP.out]; rfl
      obtain rfl : LL = [] := by rw [HWL.out]; rfl
      clear HWE HWP HWL hok hmay
      go_enter Try.func12, Try.ntmps12
      go_upto_region 2 with fail
      rw [← HV.out]
      obtain ⟨⟨x0, x1⟩, -⟩ := HX.out.c2
      obtain ⟨⟨y0, y1⟩, -⟩ := HZ.out.c2
      go_upto_region 3 with first
        | (go_at_call 33; go_must ((with_reducible refine (C33.out _).mono ?_); rintro e w2 ⟨rfl, hb2⟩; have HB2 := hide (HB1.out.trans (hb2.mono HB1.out.size)); clear hb2))
        | (go_at_call 19; go_must ((with_reducible refine C19.out.mono ?_); rintro e w1 ⟨rfl, hb1⟩; have HB1 := hide hb1; have y0' := keep_cell y0 hb1; have y1' := keep_cell y1 hb1; clear hb1 x0 x1 y0 y1))
      obtain ⟨⟨z0, z1⟩, z2, z3⟩ := (HY.out.below HB2.out).c2
      obtain ⟨HA, HC⟩ := HP1.out w2 HB2.out
      have HA := hide HA
      have HC := hide HC
      go_wp2
      generalize (w2.setCell ⟨w.heap.size + 1, 0, none⟩ (.int .i64 0)).setCell ⟨w.heap.size + 1, 1, none⟩ (.slice none 0 0) = X at HA HC ⊢
      obtain ⟨⟨u0, u1⟩, -⟩ := HA.out.c2
      refine bodyPost_ret (v := vw 0 (.slice none 0 0) 1) (by simp [results, Try.results12, go_sem, u0, u1]) rfl ?_
      exact ⟨_, rfl, Own.nil _ _, HC.out⟩
    | true =>
      rw [hok] at C33
      have C34 := hide (fun X (hX : Below V.heap.size V X) => place_any ep ms n a l c X HL.out hlen (HR.out.below hX) HRI.out)
      go_enter Try.func12, Try.ntmps12
      go_upto_region 2 with fail
      rw [← HV.out]
      obtain ⟨⟨x0, x1⟩, -⟩ := HX.out.c2
      obtain ⟨⟨y0, y1⟩, -⟩ := HZ.out.c2
      go_upto_region 5 with first
        | (go_at_call 34; go_must ((with_reducible refine (C34.out _ HB2.out).mono ?_); rintro e w3 ⟨k, b, rfl, hP, hbb, hb3⟩; have HPK := hide hP; have HBB := hide hbb; have HB3 := hide (HB2.out.trans (hb3.mono HB2.out.size)); clear hb3 hP hbb x0 x1))
        | (go_at_call 33; go_must ((with_reducible refine (C33.out _).mono ?_); rintro e w2 ⟨rfl, hb2⟩; have HB2 := hide (HB1.out.trans (hb2.mono HB1.out.size)); have x0 := keep_cell x0' hb2; have x1 := keep_cell x1' hb2; clear hb2 x0' x1' y0' y1'))
        | (go_at_call 19; go_must ((with_reducible refine C19.out.mono ?_); rintro e w1 ⟨rfl, hb1⟩; have HB1 := hide hb1; have x0' := keep_cell x0 hb1; have x1' := keep_cell x1 hb1; have y0' := keep_cell y0 hb1; have y1' := keep_cell y1 hb1; clear hb1 x0 x1 y0 y1))
      cases b with
      | true =>
        obtain rfl : E = 1 := by rw [HWE.out, hmay, hok, ← HBB.out]; rfl
        obtain rfl : PP = 0 := by rw [HWP.out]; rfl
        obtain rfl : LL = [] := by rw [HWL.out]; rfl
        clear HWE HWP HWL hok hmay
        obtain ⟨⟨z0, z1⟩, z2, z3⟩ := (HY.out.below HB3.out).c2
        obtain ⟨HA, HC⟩ := HP1.out w3 HB3.out
        have HA := hide HA
        have HC := hide HC
        go_wp2
        generalize (w3.setCell ⟨w.heap.size + 1, 0, none⟩ (.int .i64 0)).setCell ⟨w.heap.size + 1, 1, none⟩ (.slice none 0 0) = X at HA HC ⊢
        obtain ⟨⟨u0, u1⟩, -⟩ := HA.out.c2
        refine bodyPost_ret (v := vw 0 (.slice none 0 0) 1) (by simp [results, Try.results12, go_sem, u0, u1]) rfl ?_
        exact ⟨_, rfl, Own.nil _ _, HC.out⟩
      | false =>
        have HE2 := hide (show E = if ep = 2147483647 then 16 else 0 by rw [HWE.out, hmay, hok, ← HBB.out]; rfl)
        have HINS := hide (ins_of (lf := lf) HPK.out HBB.out.symm)
        have hkl : k ≤ l := by have := HPK.out.1; have := HL.out; omega
        clear HWE hok hmay HBB
        go_wp2_with fail
        have HVE := hide hep
        have HK := hide (show ∀ W, Below V.heap.size V W → W.cell? ⟨w.heap.size, 0, none⟩ = some (.int .i64 ep) ∧ W.cell? ⟨w.heap.size, 1, none⟩ = some (.slice a l c) ∧ W.cell? ⟨w.heap.size + 2, 0, none⟩ = some (.int .i64 n) ∧ W.cell? ⟨w.heap.size + 2, 1, none⟩ = some (.int .i64 lf) from fun W hW => by
          obtain ⟨⟨p0, p1⟩, -⟩ := (HX.out.below hW).c2
          obtain ⟨⟨p2, p3⟩, -⟩ := (HZ.out.below hW).c2
          exact ⟨p0, p1, p2, p3⟩)
        have HKP := hide (show ∀ W x y, Below V.heap.size V W → ((W.setCell ⟨w.heap.size + 1, 0, none⟩ x).setCell ⟨w.heap.size + 1, 1, none⟩ y).cell? ⟨w.heap.size, 0, none⟩ = some (.int .i64 ep) ∧ ((W.setCell ⟨w.heap.size + 1, 0, none⟩ x).setCell ⟨w.heap.size + 1, 1, none⟩ y).cell? ⟨w.heap.size, 1, none⟩ = some (.slice a l c) ∧ ((W.setCell ⟨w.heap.size + 1, 0, none⟩ x).setCell ⟨w.heap.size + 1, 1, none⟩ y).cell? ⟨w.heap.size + 2, 0, none⟩ = some (.int .i64 n) ∧ ((W.setCell ⟨w.heap.size + 1, 0, none⟩ x).setCell ⟨w.heap.size + 1, 1, none⟩ y).cell? ⟨w.heap.size + 2, 1, none⟩ = some (.int .i64 lf) from fun W x y hW => by
          obtain ⟨h0, h1, h2, h3⟩ := HK.out W hW
          refine ⟨?_, ?_, ?_, ?_⟩ <;> (rw [World.cell?_setCell_other (h := by simp), World.cell?_setCell_other (h := by simp)]; assumption))
        have C27 := hide (fun X (hX : Below V.heap.size V X) => clone_any ms a l c X HL.out hlen (HR.out.below hX) HNIL.out)
        have C35 := hide (fun g c g2 Y (h : Own V.heap.size Y (.slice (some ⟨g, 0, none⟩) l c) l ms) (hY : Below V.heap.size V Y) (hm : BoxL Y g2 [.int .i64 n, .int .i64 lf]) (hg2 : Y.heap[g2]? = some (.cells #[.int .i64 n, .int .i64 lf] 41 (0, 0))) (hne : g2 ≠ g) => insert_any V.heap.size ms (n, lf) g l c k g2 Y h hlen hY.size hm hg2 hne hkl)
        have HY5 := hide (fun X (hX : Below V.heap.size V X) => (HY.out.below hX).c2)
        have hN : Below V.heap.size V w3.drew := HB3.out.drew
        by_cases hmx : ep = 2147483647
        · subst hmx
          have C30 := hide (fun v a' n' c' W hv => next_max 2147483647 (.slice a l c) v a' n' c' W hv ⟨_, _, _, rfl⟩ hep rfl)
          obtain rfl : E = 16 := by rw [HE2.out]; rfl
          obtain rfl : PP = 0 := by rw [HWP.out]; rfl
          obtain rfl : LL = [] := by rw [HWL.out]; rfl
          clear HE2 HWP HWL
          go_region_held3 (fun W => W.cell? ⟨w.heap.size, 0, none⟩ = some (.int .i64 2147483647) ∧ W.cell? ⟨w.heap.size, 1, none⟩ = some (.slice a l c) ∧ W.cell? ⟨w.heap.size + 2, 0, none⟩ = some (.int .i64 n) ∧ W.cell? ⟨w.heap.size + 2, 1, none⟩ = some (.int .i64 lf)) (first | exact HK.out _ hN | exact HK.out _ (hN.alloc hN.size _) | exact HK.out _ (HB3.out.alloc HB3.out.size _).drew | exact HKP.out _ _ _ hN)
            (first
              | (go_at_call 30; go_must ((with_reducible refine (C30.out _ _ _ _ _ rfl).mono ?_); rintro e w6 ⟨rfl, hb6⟩; have hN := hN.trans (hb6.mono hN.size); obtain ⟨⟨z0, z1⟩, z2, z3⟩ := HY5.out _ hN; clear hb6))
              | (go_at_call 35; (with_reducible refine (C35.out _ _ _ _ (HO4.out.below (below_new _ _)) (hN.alloc hN.size _) (BoxL.new _ [.int .i64 n, .int .i64 lf] 41) (heap_alloc_new _ _) HNE.out).mono ?_); rintro e w5 ⟨v5, rfl, ho5, hb5⟩; have hN := (hN.alloc hN.size _).trans hb5; have HO5 := hide ho5; obtain ⟨a5, c5, rfl⟩ := ho5.open; clear hb5 ho5)
              | (go_at_call 35; (with_reducible refine (C35.out _ _ _ _ HO4.out hN HM2.out HG2.out HNE.out).mono ?_); rintro e w5 ⟨v5, rfl, ho5, hb5⟩; have hN := hN.trans hb5; have HO5 := hide ho5; obtain ⟨a5, c5, rfl⟩ := ho5.open; clear hb5 ho5)
              | (go_at_call 27; (with_reducible refine (C27.out _ hN).mono ?_); rintro e w4 ⟨v4, rfl, ho4, hb4⟩; obtain ⟨g4, c4, rfl, hBg⟩ := ho4.some hl0; have HNE := hide (show w4.heap.size ≠ g4 from by have := ((show Own _ w4 _ l ms from ho4).lt g4 rfl).2; omega); have HO4 := hide (ho4.mono hN.size); have hN := hN.trans (hb4.mono hN.size); clear hb4 ho4 hBg)
              | (go_at_call 27; (with_reducible refine (C27.out _ (HB3.out.alloc HB3.out.size (.cells #[.int .i64 n, .int .i64 lf] 41)).drew).mono ?_); rintro e w4 ⟨v4, rfl, ho4, hb4⟩; obtain ⟨g4, c4, rfl, hBg⟩ := ho4.some hl0; have HM2 := hide ((show BoxL (w3.alloc (.cells #[.int .i64 n, .int .i64 lf] 41)).drew w3.heap.size [.int .i64 n, .int .i64 lf] from BoxL.new w3 [.int .i64 n, .int .i64 lf] 41).below hb4); have HG2 := hide ((hb4.block w3.heap.size (by show w3.heap.size < (w3.alloc _).heap.size; simp)).trans (heap_alloc_new w3 (.cells #[.int .i64 n, .int .i64 lf] 41))); have HNE := hide (show w3.heap.size ≠ g4 from by have h1 : (w3.alloc (.cells #[.int .i64 n, .int .i64 lf] 41)).heap.size ≤ g4 := hBg; simp at h1; omega); have HO4 := hide (ho4.mono (HB3.out.alloc HB3.out.size (.cells #[.int .i64 n, .int .i64 lf] 41)).drew.size); have hN := (HB3.out.alloc HB3.out.size (.cells #[.int .i64 n, .int .i64 lf] 41)).drew.trans (hb4.mono (HB3.out.alloc HB3.out.size (.cells #[.int .i64 n, .int .i64 lf] 41)).drew.size); clear hb4 ho4 hBg))
          all_goals
            obtain ⟨HA, HC⟩ := HP1.out _ hN
            have HA := hide HA
            have HC := hide HC
            generalize (World.setCell (World.setCell _ ⟨w.heap.size + 1, 0, none⟩ (.int .i64 0)) ⟨w.heap.size + 1, 1, none⟩ (.slice none 0 0)) = X at HA HC ⊢
            obtain ⟨⟨u0, u1⟩, -⟩ := HA.out.c2
            go_wp2
            refine bodyPost_ret (v := vw 0 (.slice none 0 0) 16) (by simp [results, Try.results12, go_sem, u0, u1]) rfl ?_
            exact ⟨_, rfl, Own.nil _ _, HC.out⟩
        · have C30 := hide (fun v a' n' c' W hv => next_more ep (.slice a l c) v a' n' c' W hv ⟨_, _, _, rfl⟩ hep hmx)
          obtain rfl : E = 0 := by rw [HE2.out, if_neg hmx]
          obtain rfl : PP = ep + 1 := by rw [HWP.out]; rfl
          obtain rfl : LL = ms.take k ++ (n, lf) :: ms.drop k := by rw [HWL.out, HINS.out]; rfl
          have HLL := hide (show (ms.take k ++ (n, lf) :: ms.drop k).length = l + 1 by rw [← HINS.out, insV_len, HL.out])
          generalize hLL : ms.take k ++ (n, lf) :: ms.drop k = LL at HLL HWL ⊢
          have HEQ := hide hLL
          clear hLL
          have HP2 := hide (show ∀ a5 c5 X, Below V.heap.size V X → Own V.heap.size X (.slice a5 (l + 1) c5) (l + 1) LL → BoxL ((X.setCell ⟨w.heap.size + 1, 0, none⟩ (.int .i64 (ep + 1))).setCell ⟨w.heap.size + 1, 1, none⟩ (.slice a5 (l + 1) c5)) (w.heap.size + 1) [.int .i64 (ep + 1), .slice a5 (l + 1) c5] ∧ Below w.heap.size w ((X.setCell ⟨w.heap.size + 1, 0, none⟩ (.int .i64 (ep + 1))).setCell ⟨w.heap.size + 1, 1, none⟩ (.slice a5 (l + 1) c5)) ∧ Own w.heap.size ((X.setCell ⟨w.heap.size + 1, 0, none⟩ (.int .i64 (ep + 1))).setCell ⟨w.heap.size + 1, 1, none⟩ (.slice a5 (l + 1) c5)) (.slice a5 (l + 1) c5) (l + 1) LL from
            fun a5 c5 X hX ho => ⟨(HY.out.below hX).put2 _ _, below_put2 (HB.out.trans (hX.mono HB.out.size)) (by omega) _ _, (ho.put2 (by have := HSZ.out; omega) _ _).mono HB.out.size⟩)
          clear HE2 HWP HWL hmx HP1 HINS
          go_region_held3 (fun W => W.cell? ⟨w.heap.size, 0, none⟩ = some (.int .i64 ep) ∧ W.cell? ⟨w.heap.size, 1, none⟩ = some (.slice a l c) ∧ W.cell? ⟨w.heap.size + 2, 0, none⟩ = some (.int .i64 n) ∧ W.cell? ⟨w.heap.size + 2, 1, none⟩ = some (.int .i64 lf)) (first | exact HK.out _ hN | exact HK.out _ (hN.alloc hN.size _) | exact HK.out _ (HB3.out.alloc HB3.out.size _).drew | exact HKP.out _ _ _ hN)
            (first
              | (go_at_call 30; go_must ((with_reducible refine (C30.out _ _ _ _ _ rfl).mono ?_); rintro e w6 ⟨rfl, hb6⟩; have hN := hN.trans (hb6.mono hN.size); obtain ⟨⟨z0, z1⟩, z2, z3⟩ := HY5.out _ hN; have HO6 := hide (HO5.out.below hb6); clear hb6))
              | (go_at_call 35; (with_reducible refine (C35.out _ _ _ _ (HO4.out.below (below_new _ _)) (hN.alloc hN.size _) (BoxL.new _ [.int .i64 n, .int .i64 lf] 41) (heap_alloc_new _ _) HNE.out).mono ?_); rintro e w5 ⟨v5, rfl, ho5, hb5⟩; have hN := (hN.alloc hN.size _).trans hb5; have HO5 := hide ho5; obtain ⟨a5, c5, rfl⟩ := ho5.open; clear hb5 ho5)
              | (go_at_call 35; (with_reducible refine (C35.out _ _ _ _ HO4.out hN HM2.out HG2.out HNE.out).mono ?_); rintro e w5 ⟨v5, rfl, ho5, hb5⟩; have hN := hN.trans hb5; have HO5 := hide ho5; obtain ⟨a5, c5, rfl⟩ := ho5.open; clear hb5 ho5)
              | (go_at_call 27; (with_reducible refine (C27.out _ hN).mono ?_); rintro e w4 ⟨v4, rfl, ho4, hb4⟩; obtain ⟨g4, c4, rfl, hBg⟩ := ho4.some hl0; have HNE := hide (show w4.heap.size ≠ g4 from by have := ((show Own _ w4 _ l ms from ho4).lt g4 rfl).2; omega); have HO4 := hide (ho4.mono hN.size); have hN := hN.trans (hb4.mono hN.size); clear hb4 ho4 hBg)
              | (go_at_call 27; (with_reducible refine (C27.out _ (HB3.out.alloc HB3.out.size (.cells #[.int .i64 n, .int .i64 lf] 41)).drew).mono ?_); rintro e w4 ⟨v4, rfl, ho4, hb4⟩; obtain ⟨g4, c4, rfl, hBg⟩ := ho4.some hl0; have HM2 := hide ((show BoxL (w3.alloc (.cells #[.int .i64 n, .int .i64 lf] 41)).drew w3.heap.size [.int .i64 n, .int .i64 lf] from BoxL.new w3 [.int .i64 n, .int .i64 lf] 41).below hb4); have HG2 := hide ((hb4.block w3.heap.size (by show w3.heap.size < (w3.alloc _).heap.size; simp)).trans (heap_alloc_new w3 (.cells #[.int .i64 n, .int .i64 lf] 41))); have HNE := hide (show w3.heap.size ≠ g4 from by have h1 : (w3.alloc (.cells #[.int .i64 n, .int .i64 lf] 41)).heap.size ≤ g4 := hBg; simp at h1; omega); have HO4 := hide (ho4.mono (HB3.out.alloc HB3.out.size (.cells #[.int .i64 n, .int .i64 lf] 41)).drew.size); have hN := (HB3.out.alloc HB3.out.size (.cells #[.int .i64 n, .int .i64 lf] 41)).drew.trans (hb4.mono (HB3.out.alloc HB3.out.size (.cells #[.int .i64 n, .int .i64 lf] 41)).drew.size); clear hb4 ho4 hBg))
          all_goals
            obtain ⟨HA, HC, HD⟩ := HP2.out _ _ _ hN (by rw [← HEQ.out]; exact HO6.out)
            have HA := hide HA
            have HC := hide HC
            have HD := hide HD
            generalize (World.setCell (World.setCell _ ⟨w.heap.size + 1, 0, none⟩ (.int .i64 (ep + 1))) ⟨w.heap.size + 1, 1, none⟩ (.slice a5 (l + 1) c5)) = X at HA HC HD ⊢
            obtain ⟨⟨u0, u1⟩, -⟩ := HA.out.c2
            go_wp2
            refine bodyPost_ret (v := vw (ep + 1) (.slice a5 (l + 1) c5) 0) (by simp [results, Try.results12, go_sem, u0, u1]) rfl ?_
            exact ⟨_, rfl, by rw [HEQ.out, HLL.out]; exact HD.out, HC.out⟩
end Go.Proofs.Ythjkfpcbbjmclaa
