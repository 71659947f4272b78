/- view.Without. -/
import Derived.Test.YthjkfpcbbjmclaaNxt
namespace Go.Proofs.Ythjkfpcbbjmclaa
open Go.RowKit Go.ChangeShapes Go.WideShapes Go.ChangeAt Go.Deep

theorem box3 (w : World) (L M N : List Value) (t u v : TypeId) : ∃ V, V = ((w.alloc (.cells L.toArray t)).alloc (.cells M.toArray u)).alloc (.cells N.toArray v) ∧ BoxL V w.heap.size L ∧ BoxL V (w.heap.size + 1) M ∧ BoxL V (w.heap.size + 2) N ∧ Below w.heap.size w V ∧ V.heap.size = w.heap.size + 3 := by
  obtain ⟨h1, h2, h3, h4⟩ := box2 w L M t u
  have b := below_new ((w.alloc (.cells L.toArray t)).alloc (.cells M.toArray u)) (.cells N.toArray v)
  have n := BoxL.new ((w.alloc (.cells L.toArray t)).alloc (.cells M.toArray u)) N v
  rw [h4] at n
  exact ⟨_, rfl, h1.below b, h2.below b, n, h3.trans (b.mono h3.size), by simp⟩
theorem BoxL.c1 {w : World} {g : Nat} {x : Value} (h : BoxL w g [x]) : w.cell? ⟨g, 0, none⟩ = some x ∧ w.frozen? ⟨g, 0, none⟩ = false := ⟨(h.2 0 (by simp)).1, (h.2 0 (by simp)).2⟩
theorem filter_stM (ns : List Int) (ms : List Mb) : ms.filter (stM ns) = ms.filter (fun m => !decide (m.1 ∈ ns)) := by
  congr 1
  funext x
  simp [stM, inI_eq]
theorem Own.put2 {B n g : Nat} {w : World} {v : Value} {l : List Mb} (h : Own B w v n l) (hg : g < B) (x y : Value) : Own B ((w.setCell ⟨g, 0, none⟩ x).setCell ⟨g, 1, none⟩ y) v n l :=
  ownsRow_setCell_below (ownsRow_setCell_below h (by show g < B; exact hg) x) (by show g < B; exact hg) y
theorem mayV_ep {ep : Int} {ms : List Mb} (h : mayV ep ms = true) : 1 ≤ ep ∧ ep ≤ 2147483647 := by
  simp only [mayV, Bool.and_eq_true] at h
  exact (okN_iff _).1 h.1

/-- What Without and With answer. -/
def VwPost (w : World) (p er : Int) (l : List Mb) (e : Ending) (w' : World) : Prop :=
  ∃ v, e = .returned (vw p v er) ∧ Own w.heap.size w' v l.length l ∧ Below w.heap.size w w'

set_option linter.unusedSimpArgs false in
set_option maxRecDepth 100000 in
set_option maxHeartbeats 4000000 in
theorem without_any (ep : Int) (ms : List Mb) (ns : List Int) (a : Option Addr) (l c : Nat) (b : Option Addr) (m d : Nat) (w : World) (hl : ms.length = l) (hlen : l ≤ 20000) (hr : Reads w a (mV ms)) (hnil : a = none → l = 0 ∧ c = 0)
    (hm : ns.length = m) (hml : m ≤ 20000) (hs : Reads w b (iV ns)) :
    Calls Try.prog 10 #[.agg #[.int .i64 ep, .slice a l c], .slice b m d] w (VwPost w (woP ep ms ns) (woE ep ms ns) (woL ep ms ns)) := by
  obtain ⟨V, hV, hx, hy, hz, hb, hsz⟩ := box3 w [.int .i64 ep, .slice a l c] [.slice b m d] [.int .i64 0, .slice none 0 0] 24 25 24
  have HX := hide hx
  have HY := hide hy
  have HZ := hide hz
  have HB := hide hb
  have HV := hide hV
  have HSZ := hide hsz
  have HR := hide (hr.below hb)
  have HS := hide (hs.below hb)
  have HL := hide hl
  have HM := hide hm
  have HNIL := hide hnil
  have C19 := hide (may_any ep ms a l c V hl hlen HR.out)
  have HWE := hide (show woE ep ms ns = if mayV ep ms && (outOk ms ns && !ns.isEmpty) then (if ep = 2147483647 then 16 else 0) else 1 from rfl)
  have HWP := hide (show woP ep ms ns = if woE ep ms ns = 0 then ep + 1 else 0 from rfl)
  have HWL := hide (show woL ep ms ns = if woE ep ms ns = 0 then ms.filter (stM ns) else [] by rw [filter_stM]; rfl)
  generalize woE ep ms ns = E at HWE HWP HWL ⊢
  generalize woP ep ms ns = PP at HWP ⊢
  generalize woL ep ms ns = LL at HWL ⊢
  have HP1 := hide (show ∀ X, Below V.heap.size V X → BoxL ((X.setCell ⟨w.heap.size + 2, 0, none⟩ (.int .i64 0)).setCell ⟨w.heap.size + 2, 1, none⟩ (.slice none 0 0)) (w.heap.size + 2) [.int .i64 0, .slice none 0 0] ∧ Below w.heap.size w ((X.setCell ⟨w.heap.size + 2, 0, none⟩ (.int .i64 0)).setCell ⟨w.heap.size + 2, 1, none⟩ (.slice none 0 0)) from
    fun X hX => ⟨(HZ.out.below hX).put2 _ _, below_put2 (HB.out.trans (hX.mono HB.out.size)) (by omega) _ _⟩)
  clear hx hy hz hb hV hsz hr hs hl hm hnil
  cases hmay : mayV ep ms with
  | false =>
    rw [hmay] at C19
    obtain rfl : E = 1 := by rw [HWE.out, hmay]; rfl
    obtain rfl : PP = 0 := by rw [HWP.out]; rfl
    obtain rfl : LL = [] := by rw [HWL.out]; rfl
    clear HWE HWP HWL
    go_enter Try.func10, Try.ntmps10
    go_upto_region 1 with fail
    rw [← HV.out]
    obtain ⟨⟨x0, x1⟩, -⟩ := HX.out.c2
    go_upto_region 2 with (go_at_call 19; go_must ((with_reducible refine C19.out.mono ?_); rintro e w1 ⟨rfl, hb1⟩; have HB1 := hide hb1; clear hb1))
    obtain ⟨⟨z0, z1⟩, z2, z3⟩ := (HZ.out.below HB1.out).c2
    obtain ⟨HA, HC⟩ := HP1.out w1 HB1.out
    have HA := hide HA
    have HC := hide HC
    go_wp2
    generalize (w1.setCell ⟨w.heap.size + 2, 0, none⟩ (.int .i64 0)).setCell ⟨w.heap.size + 2, 1, none⟩ (.slice none 0 0) = X at HA HC ⊢
    obtain ⟨⟨u0, u1⟩, -⟩ := HA.out.c2
    refine bodyPost_ret (v := vw 0 (.slice none 0 0) 1) (by simp [results, Try.results10, go_sem, u0, u1]) rfl ?_
    exact ⟨_, rfl, Own.nil _ _, HC.out⟩
  | true =>
    rw [hmay] at C19
    have HRI := hide (mayV_rise hmay)
    have hep := mayV_ep hmay
    have C25 := hide (fun X (hX : Below V.heap.size V X) => leave_any ep ms ns a l c b m d X HL.out hlen (HR.out.below hX) HRI.out HM.out hml (HS.out.below hX))
    cases hout : (outOk ms ns && !ns.isEmpty) with
    | false =>
      rw [hout] at C25
      obtain rfl : E = 1 := by rw [HWE.out, hmay, hout]; rfl
      obtain rfl : PP = 0 := by rw [HWP.out]; rfl
      obtain rfl : LL = [] := by rw [HWL.out]; rfl
      clear HWE HWP HWL hout hmay
      go_enter Try.func10, Try.ntmps10
      go_upto_region 1 with fail
      rw [← HV.out]
      obtain ⟨⟨x0, x1⟩, -⟩ := HX.out.c2
      obtain ⟨y0, -⟩ := HY.out.c1
      go_upto_region 2 with first
        | (go_at_call 25; go_must ((with_reducible refine (C25.out _ HB1.out).mono ?_); rintro e w2 ⟨rfl, hb2⟩; have HB2 := hide (HB1.out.trans (hb2.mono HB1.out.size)); clear hb2))
        | (go_at_call 19; go_must ((with_reducible refine C19.out.mono ?_); rintro e w1 ⟨rfl, hb1⟩; have HB1 := hide hb1; have x0' := keep_cell x0 hb1; have x1' := keep_cell x1 hb1; have y0' := keep_cell y0 hb1; clear hb1 x0 x1 y0))
      obtain ⟨⟨z0, z1⟩, z2, z3⟩ := (HZ.out.below HB2.out).c2
      obtain ⟨HA, HC⟩ := HP1.out w2 HB2.out
      have HA := hide HA
      have HC := hide HC
      go_wp2
      generalize (w2.setCell ⟨w.heap.size + 2, 0, none⟩ (.int .i64 0)).setCell ⟨w.heap.size + 2, 1, none⟩ (.slice none 0 0) = X at HA HC ⊢
      obtain ⟨⟨u0, u1⟩, -⟩ := HA.out.c2
      refine bodyPost_ret (v := vw 0 (.slice none 0 0) 1) (by simp [results, Try.results10, go_sem, u0, u1]) rfl ?_
      exact ⟨_, rfl, Own.nil _ _, HC.out⟩
    | true =>
      rw [hout] at C25
      have HE2 := hide (show E = if ep = 2147483647 then 16 else 0 by rw [HWE.out, hmay, hout]; rfl)
      clear HWE hout hmay
      have C27 := hide (fun X (hX : Below V.heap.size V X) => clone_any ms a l c X HL.out hlen (HR.out.below hX) HNIL.out)
      have C26 := hide (fun X (hX : Below V.heap.size V X) Y (hY : Below X.heap.size X Y) v (ho : Own X.heap.size Y v l ms) => delf_any X.heap.size (w.heap.size + 1) ns ms v l Y ho hlen ⟨X, Nat.le_refl _, hY, b, m, d, HY.out.below hX, HS.out.below hX, HM.out, hml⟩ hY.size)
      go_enter Try.func10, Try.ntmps10
      go_upto_region 1 with fail
      rw [← HV.out]
      obtain ⟨⟨x0, x1⟩, -⟩ := HX.out.c2
      obtain ⟨y0, -⟩ := HY.out.c1
      go_upto_region 3 with first
        | (go_at_call 25; go_must ((with_reducible refine (C25.out _ HB1.out).mono ?_); rintro e w2 ⟨rfl, hb2⟩; have HB2 := hide (HB1.out.trans (hb2.mono HB1.out.size)); have x0 := keep_cell x0' hb2; have x1 := keep_cell x1' hb2; clear x0' x1' y0' hb2))
        | (go_at_call 19; go_must ((with_reducible refine C19.out.mono ?_); rintro e w1 ⟨rfl, hb1⟩; have HB1 := hide hb1; have x0' := keep_cell x0 hb1; have x1' := keep_cell x1 hb1; have y0' := keep_cell y0 hb1; clear hb1 x0 x1 y0))
      go_upto_region 4 with first
        | (go_at_call 26; go_must ((with_reducible refine (C26.out _ HB2.out _ HB3.out _ HO3.out).mono ?_); rintro e w4 ⟨v4, rfl, ho4, hb4⟩; have HO4 := hide ho4; have HB4 := hide (HB3.out.trans hb4); clear hb4 ho4))
        | (go_at_call 27; go_must ((with_reducible refine (C27.out _ HB2.out).mono ?_); rintro e w3 ⟨v3, rfl, ho3, hb3⟩; have HO3 := hide ho3; have HB3 := hide hb3; obtain ⟨a3, c3, rfl⟩ := ho3.open; clear hb3 ho3))
      obtain ⟨a4, c4, rfl⟩ := HO4.out.open
      have HB5 := hide (show Below V.heap.size V w4 from HB2.out.trans (HB4.out.mono HB2.out.size))
      obtain ⟨⟨p0, p1⟩, -⟩ := (HX.out.below HB5.out).c2
      by_cases hmx : ep = 2147483647
      · obtain rfl : E = 16 := by rw [HE2.out, if_pos hmx]
        obtain rfl : PP = 0 := by rw [HWP.out]; rfl
        obtain rfl : LL = [] := by rw [HWL.out]; rfl
        have C30 := hide (next_max ep (.slice a l c) (.slice a4 (ms.filter (stM ns)).length c4) a4 _ c4 w4 rfl ⟨_, _, _, rfl⟩ hep hmx)
        clear HE2 HWP HWL hmx
        have HP2 := hide (fun X (hX : Below w4.heap.size w4 X) => HP1.out X (HB5.out.trans (hX.mono HB5.out.size)))
        have HZ2 := hide (fun X (hX : Below w4.heap.size w4 X) => (HZ.out.below HB5.out).below hX)
        go_upto_region 5 with (go_at_call 30; go_must ((with_reducible refine C30.out.mono ?_); rintro e w5 ⟨rfl, hb5⟩; obtain ⟨⟨z0, z1⟩, z2, z3⟩ := (HZ2.out w5 hb5).c2; obtain ⟨HA, HC⟩ := HP2.out w5 hb5; have HA := hide HA; have HC := hide HC; clear hb5))
        generalize (w5.setCell ⟨w.heap.size + 2, 0, none⟩ (.int .i64 0)).setCell ⟨w.heap.size + 2, 1, none⟩ (.slice none 0 0) = X at HA HC ⊢
        obtain ⟨⟨u0, u1⟩, -⟩ := HA.out.c2
        refine bodyPost_ret (v := vw 0 (.slice none 0 0) 16) (by simp [results, Try.results10, go_sem, u0, u1]) rfl ?_
        exact ⟨_, rfl, Own.nil _ _, HC.out⟩
      · obtain rfl : E = 0 := by rw [HE2.out, if_neg hmx]
        obtain rfl : PP = ep + 1 := by rw [HWP.out]; rfl
        obtain rfl : LL = ms.filter (stM ns) := by rw [HWL.out]; rfl
        have C30 := hide (next_more ep (.slice a l c) (.slice a4 (ms.filter (stM ns)).length c4) a4 _ c4 w4 rfl ⟨_, _, _, rfl⟩ hep hmx)
        clear HE2 HWP HWL hmx HP1
        have HP2 := hide (show ∀ X, Below w4.heap.size w4 X → BoxL ((X.setCell ⟨w.heap.size + 2, 0, none⟩ (.int .i64 (ep + 1))).setCell ⟨w.heap.size + 2, 1, none⟩ (.slice a4 (ms.filter (stM ns)).length c4)) (w.heap.size + 2) [.int .i64 (ep + 1), .slice a4 (ms.filter (stM ns)).length c4] ∧ Below w.heap.size w ((X.setCell ⟨w.heap.size + 2, 0, none⟩ (.int .i64 (ep + 1))).setCell ⟨w.heap.size + 2, 1, none⟩ (.slice a4 (ms.filter (stM ns)).length c4)) ∧ Own w.heap.size ((X.setCell ⟨w.heap.size + 2, 0, none⟩ (.int .i64 (ep + 1))).setCell ⟨w.heap.size + 2, 1, none⟩ (.slice a4 (ms.filter (stM ns)).length c4)) (.slice a4 (ms.filter (stM ns)).length c4) (ms.filter (stM ns)).length (ms.filter (stM ns)) from
          fun X hX => ⟨((HZ.out.below HB5.out).below hX).put2 _ _, below_put2 (HB.out.trans ((HB5.out.trans (hX.mono HB5.out.size)).mono HB.out.size)) (by omega) _ _,
            ((HO4.out.below hX).put2 (by have := HSZ.out; have := HB2.out.size; omega) _ _).mono (by have := HB.out.size; have := HB2.out.size; omega)⟩)
        have HZ2 := hide (fun X (hX : Below w4.heap.size w4 X) => (HZ.out.below HB5.out).below hX)
        go_upto_region 5 with (go_at_call 30; go_must ((with_reducible refine C30.out.mono ?_); rintro e w5 ⟨rfl, hb5⟩; obtain ⟨⟨z0, z1⟩, z2, z3⟩ := (HZ2.out w5 hb5).c2; obtain ⟨HA, HC, HD⟩ := HP2.out w5 hb5; have HA := hide HA; have HC := hide HC; have HD := hide HD; clear hb5))
        generalize (w5.setCell ⟨w.heap.size + 2, 0, none⟩ (.int .i64 (ep + 1))).setCell ⟨w.heap.size + 2, 1, none⟩ (.slice a4 (ms.filter (stM ns)).length c4) = X at HA HC HD ⊢
        obtain ⟨⟨u0, u1⟩, -⟩ := HA.out.c2
        refine bodyPost_ret (v := vw (ep + 1) (.slice a4 (ms.filter (stM ns)).length c4) 0) (by simp [results, Try.results10, go_sem, u0, u1]) rfl ?_
        exact ⟨_, rfl, HD.out, HC.out⟩
end Go.Proofs.Ythjkfpcbbjmclaa
