/- ViewTells' walk. -/
import Derived.Test.YthjkfpcbbjmclaaTelP
namespace Go.Proofs.Ythjkfpcbbjmclaa
open Go.RowKit Go.ChangeShapes Go.WideShapes Go.ChangeAt Go.Deep
namespace viewTells

set_option linter.unusedSimpArgs false in
set_option maxRecDepth 100000 in
set_option maxHeartbeats 16000000 in
theorem walk1 (ep : Int) (ms : List Mb) (a : Option Addr) (l c : Nat) (b : Option Addr) (m d : Nat) (ns : List Int) (nd lf x : Int) (w : World) (hl : ms.length = l) (hlen : l ≤ 200) (hr : Reads w a (mV ms)) (hnil : a = none → l = 0 ∧ c = 0)
    (hm : ns.length = m) (hml : m ≤ 100) (hs : Reads w b (iV ns)) :
    Calls Try.prog 3 #[.agg #[.int .i64 ep, .slice a l c], .slice b m d, .int .i64 nd, .int .i64 lf, .int .i64 x] w fun e w' => e = .returned (.bool true) ∧ Below w.heap.size w w' := by
  have HB0 := hide (below_new w (.cells #[.int .i64 ep, .slice a l c] 24))
  have HX0 := hide (BoxL.new w [.int .i64 ep, .slice a l c] 24)
  obtain ⟨V, hV⟩ : ∃ V, V = w.alloc (.cells #[.int .i64 ep, .slice a l c] 24) := ⟨_, rfl⟩
  have HX := hide (show BoxL V w.heap.size [.int .i64 ep, .slice a l c] by rw [hV]; exact HX0.out)
  rw [← hV] at HB0
  have HSZ := hide (show V.heap.size = w.heap.size + 1 by rw [hV]; simp)
  have HV := hide hV
  have HR := hide (hr.below HB0.out)
  have HS := hide (hs.below HB0.out)
  have C8 := hide (alive_any V)
  have C9 := hide (fun X => big_any ep a l c X)
  have C10 := hide (fun X (hX : Below V.heap.size V X) => own_calls (without_any ep ms ns a l c b m d X hl (by omega) (HR.out.below hX) hnil hm (by omega) (HS.out.below hX)))
  have C11 := hide (fun X (hX : Below V.heap.size V X) => own_calls (rwithout_any ep ms ns a l c b m d X hl (by omega) (HR.out.below hX) hm (by omega) (HS.out.below hX)))
  have C12 := hide (fun X (hX : Below V.heap.size V X) => own_calls (with_any ep ms nd lf a l c X hl (by omega) (HR.out.below hX) hnil))
  have C13 := hide (fun X (hX : Below V.heap.size V X) => own_calls (rwith_any ep ms nd lf a l c X hl (by omega) (HR.out.below hX)))
  have C14 := hide (fun X => own_calls (first_any nd X))
  have C15 := hide (fun X => own_calls (rfirst_any nd X))
  have C16 := hide (fun X (hX : Below V.heap.size V X) => rhas_any ep ms nd lf a l c X hl (by omega) (HR.out.below hX))
  have HR0 := hide hr
  have C21 := hide (fun X (hX : Below w.heap.size w X) => has_any ep ms nd lf a l c X hl (by omega) (HR0.out.below hX))
  have C22 := hide (fun X (hX : Below w.heap.size w X) => fenced_any ep ms x nd lf a l c X hl (by omega) (HR0.out.below hX))
  have C19 := hide (fun X (hX : Below w.heap.size w X) => may_any ep ms a l c X hl (by omega) (HR0.out.below hX))
  have C20 := hide (fun X (hX : Below w.heap.size w X) => rmay_any ep ms a l c X hl (by omega) (HR0.out.below hX))
  have C17 := hide (fun x X => num_any x X)
  have C18 := hide (fun (p : Int) (L : List Mb) (hL : L.length ≤ 20000) a1 c1 a2 c2 B1 B2 W (h1 : Own B1 W (.slice a1 L.length c1) L.length L) (h2 : Own B2 W (.slice a2 L.length c2) L.length L) => show Calls Try.prog 18 #[.agg #[.int .i64 p, .slice a1 L.length c1], .agg #[.int .i64 p, .slice a2 L.length c2]] W fun e w' => e = .returned (.bool true) ∧ Below W.heap.size W w' from by
    obtain ⟨_, _, e1, _, _, _, hr1, _⟩ := h1.form
    obtain ⟨_, _, e2, _, _, _, hr2, _⟩ := h2.form
    simp only [Value.slice.injEq] at e1 e2
    obtain ⟨rfl, _, rfl⟩ := e1
    obtain ⟨rfl, _, rfl⟩ := e2
    have := sameView_any p p L L a1 a2 L.length c1 L.length c2 W rfl rfl hL hr1 hr2
    simpa using this)
  have HLA := hide (wo_len ep ms ns)
  have HLC := hide (wi_len ep ms nd lf)
  have HLF := hide (fm_len nd)
  have HL := hide hl
  have HB := hide HB0.out
  generalize woP ep ms ns = pa at C10 C11
  generalize woE ep ms ns = ea at C10 C11
  generalize woL ep ms ns = La at C10 C11 HLA
  generalize wiP ep ms nd lf = pc at C12 C13
  generalize wiE ep ms nd lf = ec at C12 C13
  generalize wiL ep ms nd lf = Lc at C12 C13 HLC
  generalize fiP nd = pf at C14 C15
  generalize fiE nd = ef at C14 C15
  generalize fiM nd = Lf at C14 C15 HLF
  have HFE := hide (show fenV ep ms x nd lf = (!decide (x = ep) || !hasV ms nd lf) from rfl)
  generalize hasV ms nd lf = hh at C16 C21 HFE
  generalize mayV ep ms = my at C19 C20
  generalize fenV ep ms x nd lf = fe at C22 HFE
  have qb : decide (200 < l) = false := by simp; omega
  have qm : ¬ (100 : Int) < (m : Int) := by omega
  rw [qb] at C9
  clear hr hs hV HX0 HB0 qb
  go_enter Try.func3, Try.ntmps3
  go_upto_region 1 with fail
  rw [← HV.out]
  go_upto_region 2 with (go_at_call 8; go_must ((with_reducible refine C8.out.mono ?_); rintro e w1 ⟨rfl, hb1⟩; have HQ1 := hide hb1; clear hb1))
  obtain ⟨⟨x0, x1⟩, -⟩ := (HX.out.below HQ1.out).c2
  go_upto_region 5 with (go_at_call 9; go_must ((with_reducible refine (C9.out _).mono ?_); rintro e X2 ⟨rfl, hb2⟩; have HQ2 := hide (HQ1.out.trans (hb2.mono HQ1.out.size)); clear hb2))
  clear x0 x1 HQ1 C8 C9
  obtain ⟨⟨x0, x1⟩, -⟩ := (HX.out.below HQ2.out).c2
  go_upto_region 6 with (go_at_call 10; go_must ((with_reducible refine (C10.out _ HQ2.out).mono ?_); rintro e w3 ⟨a3, c3, rfl, HO3, HB3⟩))
  have HQ3 := hide ((HQ2.out.trans (HB3.out.mono HQ2.out.size)).trans ((below_new w3 (.cells #[.int .i64 pa, .slice a3 La.length c3] 24)).mono (HQ2.out.trans (HB3.out.mono HQ2.out.size)).size))
  have HG3 := hide (BoxL.new w3 [.int .i64 pa, .slice a3 La.length c3] 24)
  have HP3 := hide (Own.below HO3.out (below_new w3 (.cells #[.int .i64 pa, .slice a3 La.length c3] 24)))
  have HH3 := hide (show ∀ ad, a3 = some ad → ad.block < w3.heap.size from fun ad e => by subst e; exact ((show World.ownsRow _ _ _ _ _ _ _ from HO3.out).lt ad.block rfl).2)
  have HN3 := hide (show Below X2.heap.size X2 (w3.alloc (.cells #[.int .i64 pa, .slice a3 La.length c3] 24)) from HB3.out.trans ((below_new w3 _).mono HB3.out.size))
  have HZ3 := hide (show X2.heap.size ≤ w3.heap.size from HB3.out.size)
  generalize w3.alloc (.cells #[.int .i64 pa, .slice a3 La.length c3] 24) = X3 at HQ3 HG3 HP3 HN3 ⊢
  generalize w3.heap.size = g3 at HG3 HH3 HZ3 ⊢
  clear HO3 HB3 x0 x1
  obtain ⟨⟨x0, x1⟩, -⟩ := (HX.out.below HQ3.out).c2
  go_upto_region 7 with (go_at_call 11; go_must ((with_reducible refine (C11.out _ HQ3.out).mono ?_); rintro e w4 ⟨a4, c4, rfl, HO4, HB4⟩))
  have HQ4 := hide ((HQ3.out.trans (HB4.out.mono HQ3.out.size)).trans ((below_new w4 (.cells #[.int .i64 pa, .slice a4 La.length c4] 24)).mono (HQ3.out.trans (HB4.out.mono HQ3.out.size)).size))
  have HG4 := hide (BoxL.new w4 [.int .i64 pa, .slice a4 La.length c4] 24)
  have HP4 := hide (Own.below HO4.out (below_new w4 (.cells #[.int .i64 pa, .slice a4 La.length c4] 24)))
  have HH4 := hide (show ∀ ad, a4 = some ad → ad.block < w4.heap.size from fun ad e => by subst e; exact ((show World.ownsRow _ _ _ _ _ _ _ from HO4.out).lt ad.block rfl).2)
  have HN4 := hide (show Below X3.heap.size X3 (w4.alloc (.cells #[.int .i64 pa, .slice a4 La.length c4] 24)) from HB4.out.trans ((below_new w4 _).mono HB4.out.size))
  have HZ4 := hide (show X3.heap.size ≤ w4.heap.size from HB4.out.size)
  generalize w4.alloc (.cells #[.int .i64 pa, .slice a4 La.length c4] 24) = X4 at HQ4 HG4 HP4 HN4 ⊢
  generalize w4.heap.size = g4 at HG4 HH4 HZ4 ⊢
  clear HO4 HB4 x0 x1
  obtain ⟨⟨x0, x1⟩, -⟩ := (HX.out.below HQ4.out).c2
  go_upto_region 8 with (go_at_call 12; go_must ((with_reducible refine (C12.out _ HQ4.out).mono ?_); rintro e w5 ⟨a5, c5, rfl, HO5, HB5⟩))
  have HQ5 := hide ((HQ4.out.trans (HB5.out.mono HQ4.out.size)).trans ((below_new w5 (.cells #[.int .i64 pc, .slice a5 Lc.length c5] 24)).mono (HQ4.out.trans (HB5.out.mono HQ4.out.size)).size))
  have HG5 := hide (BoxL.new w5 [.int .i64 pc, .slice a5 Lc.length c5] 24)
  have HP5 := hide (Own.below HO5.out (below_new w5 (.cells #[.int .i64 pc, .slice a5 Lc.length c5] 24)))
  have HH5 := hide (show ∀ ad, a5 = some ad → ad.block < w5.heap.size from fun ad e => by subst e; exact ((show World.ownsRow _ _ _ _ _ _ _ from HO5.out).lt ad.block rfl).2)
  have HN5 := hide (show Below X4.heap.size X4 (w5.alloc (.cells #[.int .i64 pc, .slice a5 Lc.length c5] 24)) from HB5.out.trans ((below_new w5 _).mono HB5.out.size))
  have HZ5 := hide (show X4.heap.size ≤ w5.heap.size from HB5.out.size)
  generalize w5.alloc (.cells #[.int .i64 pc, .slice a5 Lc.length c5] 24) = X5 at HQ5 HG5 HP5 HN5 ⊢
  generalize w5.heap.size = g5 at HG5 HH5 HZ5 ⊢
  clear HO5 HB5 x0 x1
  obtain ⟨⟨x0, x1⟩, -⟩ := (HX.out.below HQ5.out).c2
  go_upto_region 9 with (go_at_call 13; go_must ((with_reducible refine (C13.out _ HQ5.out).mono ?_); rintro e w6 ⟨a6, c6, rfl, HO6, HB6⟩))
  have HQ6 := hide ((HQ5.out.trans (HB6.out.mono HQ5.out.size)).trans ((below_new w6 (.cells #[.int .i64 pc, .slice a6 Lc.length c6] 24)).mono (HQ5.out.trans (HB6.out.mono HQ5.out.size)).size))
  have HG6 := hide (BoxL.new w6 [.int .i64 pc, .slice a6 Lc.length c6] 24)
  have HP6 := hide (Own.below HO6.out (below_new w6 (.cells #[.int .i64 pc, .slice a6 Lc.length c6] 24)))
  have HH6 := hide (show ∀ ad, a6 = some ad → ad.block < w6.heap.size from fun ad e => by subst e; exact ((show World.ownsRow _ _ _ _ _ _ _ from HO6.out).lt ad.block rfl).2)
  have HN6 := hide (show Below X5.heap.size X5 (w6.alloc (.cells #[.int .i64 pc, .slice a6 Lc.length c6] 24)) from HB6.out.trans ((below_new w6 _).mono HB6.out.size))
  have HZ6 := hide (show X5.heap.size ≤ w6.heap.size from HB6.out.size)
  generalize w6.alloc (.cells #[.int .i64 pc, .slice a6 Lc.length c6] 24) = X6 at HQ6 HG6 HP6 HN6 ⊢
  generalize w6.heap.size = g6 at HG6 HH6 HZ6 ⊢
  clear HO6 HB6 x0 x1
  obtain ⟨⟨x0, x1⟩, -⟩ := (HX.out.below HQ6.out).c2
  go_upto_region 10 with (go_at_call 14; go_must ((with_reducible refine (C14.out _).mono ?_); rintro e w7 ⟨a7, c7, rfl, HO7, HB7⟩))
  have HQ7 := hide ((HQ6.out.trans (HB7.out.mono HQ6.out.size)).trans ((below_new w7 (.cells #[.int .i64 pf, .slice a7 Lf.length c7] 24)).mono (HQ6.out.trans (HB7.out.mono HQ6.out.size)).size))
  have HG7 := hide (BoxL.new w7 [.int .i64 pf, .slice a7 Lf.length c7] 24)
  have HP7 := hide (Own.below HO7.out (below_new w7 (.cells #[.int .i64 pf, .slice a7 Lf.length c7] 24)))
  have HH7 := hide (show ∀ ad, a7 = some ad → ad.block < w7.heap.size from fun ad e => by subst e; exact ((show World.ownsRow _ _ _ _ _ _ _ from HO7.out).lt ad.block rfl).2)
  have HN7 := hide (show Below X6.heap.size X6 (w7.alloc (.cells #[.int .i64 pf, .slice a7 Lf.length c7] 24)) from HB7.out.trans ((below_new w7 _).mono HB7.out.size))
  have HZ7 := hide (show X6.heap.size ≤ w7.heap.size from HB7.out.size)
  generalize w7.alloc (.cells #[.int .i64 pf, .slice a7 Lf.length c7] 24) = X7 at HQ7 HG7 HP7 HN7 ⊢
  generalize w7.heap.size = g7 at HG7 HH7 HZ7 ⊢
  clear HO7 HB7 x0 x1
  obtain ⟨⟨x0, x1⟩, -⟩ := (HX.out.below HQ7.out).c2
  go_upto_region 11 with (go_at_call 15; go_must ((with_reducible refine (C15.out _).mono ?_); rintro e w8 ⟨a8, c8, rfl, HO8, HB8⟩))
  have HQ8 := hide ((HQ7.out.trans (HB8.out.mono HQ7.out.size)).trans ((below_new w8 (.cells #[.int .i64 pf, .slice a8 Lf.length c8] 24)).mono (HQ7.out.trans (HB8.out.mono HQ7.out.size)).size))
  have HG8 := hide (BoxL.new w8 [.int .i64 pf, .slice a8 Lf.length c8] 24)
  have HP8 := hide (Own.below HO8.out (below_new w8 (.cells #[.int .i64 pf, .slice a8 Lf.length c8] 24)))
  have HH8 := hide (show ∀ ad, a8 = some ad → ad.block < w8.heap.size from fun ad e => by subst e; exact ((show World.ownsRow _ _ _ _ _ _ _ from HO8.out).lt ad.block rfl).2)
  have HN8 := hide (show Below X7.heap.size X7 (w8.alloc (.cells #[.int .i64 pf, .slice a8 Lf.length c8] 24)) from HB8.out.trans ((below_new w8 _).mono HB8.out.size))
  have HZ8 := hide (show X7.heap.size ≤ w8.heap.size from HB8.out.size)
  generalize w8.alloc (.cells #[.int .i64 pf, .slice a8 Lf.length c8] 24) = X8 at HQ8 HG8 HP8 HN8 ⊢
  generalize w8.heap.size = g8 at HG8 HH8 HZ8 ⊢
  clear HO8 HB8 x0 x1
  obtain ⟨⟨x0, x1⟩, -⟩ := (HX.out.below HQ8.out).c2
  go_upto_region 12 with (go_at_call 16; go_must ((with_reducible refine (C16.out _ HQ8.out).mono ?_); rintro e X9 ⟨rfl, hb9⟩; have HN9 := hide hb9; have HQ9 := hide (HQ8.out.trans (hb9.mono HQ8.out.size)); clear hb9))
  have K8 := hide HN9.out
  have K7 := hide (HN8.out.trans (K8.out.mono HN8.out.size))
  have K6 := hide (HN7.out.trans (K7.out.mono HN7.out.size))
  have K5 := hide (HN6.out.trans (K6.out.mono HN6.out.size))
  have K4 := hide (HN5.out.trans (K5.out.mono HN5.out.size))
  have K3 := hide (HN4.out.trans (K4.out.mono HN4.out.size))
  have HCE := hide (show ∀ W, Below X9.heap.size X9 W → (W.cell? ⟨g3, 0, none⟩ = some (.int .i64 pa) ∧ W.cell? ⟨g3, 1, none⟩ = some (.slice a3 La.length c3)) ∧ (W.cell? ⟨g4, 0, none⟩ = some (.int .i64 pa) ∧ W.cell? ⟨g4, 1, none⟩ = some (.slice a4 La.length c4)) ∧ (W.cell? ⟨g5, 0, none⟩ = some (.int .i64 pc) ∧ W.cell? ⟨g5, 1, none⟩ = some (.slice a5 Lc.length c5)) ∧ (W.cell? ⟨g6, 0, none⟩ = some (.int .i64 pc) ∧ W.cell? ⟨g6, 1, none⟩ = some (.slice a6 Lc.length c6)) ∧ (W.cell? ⟨g7, 0, none⟩ = some (.int .i64 pf) ∧ W.cell? ⟨g7, 1, none⟩ = some (.slice a7 Lf.length c7)) ∧ (W.cell? ⟨g8, 0, none⟩ = some (.int .i64 pf) ∧ W.cell? ⟨g8, 1, none⟩ = some (.slice a8 Lf.length c8)) from fun W hW =>
    ⟨((HG3.out.below K3.out).below hW).c2.1, ((HG4.out.below K4.out).below hW).c2.1, ((HG5.out.below K5.out).below hW).c2.1, ((HG6.out.below K6.out).below hW).c2.1, ((HG7.out.below K7.out).below hW).c2.1, ((HG8.out.below K8.out).below hW).c2.1⟩)
  have C18a := hide (fun W (hW : Below X9.heap.size X9 W) => C18.out pa La (by have := HLA.out; have := HL.out; omega) a3 c3 a4 c4 _ _ W ((Own.below HP3.out K3.out).below hW) ((Own.below HP4.out K4.out).below hW))
  have C18b := hide (fun W (hW : Below X9.heap.size X9 W) => C18.out pc Lc (by have := HLC.out; have := HL.out; omega) a5 c5 a6 c6 _ _ W ((Own.below HP5.out K5.out).below hW) ((Own.below HP6.out K6.out).below hW))
  have C18c := hide (fun W (hW : Below X9.heap.size X9 W) => C18.out pf Lf (by have := HLF.out; omega) a7 c7 a8 c8 _ _ W ((Own.below HP7.out K7.out).below hW) ((Own.below HP8.out K8.out).below hW))
  have HQ0 := hide (Below.refl X9.heap.size X9)
  clear x0 x1 C18
  obtain ⟨⟨u0, u1⟩, ⟨v0, v1⟩, -⟩ := HCE.out X9 HQ0.out
  go_upto_region 14 with first
    | (go_at_call 17; go_must ((with_reducible refine (C17.out _ _).mono ?_); rintro e Y ⟨rfl, hw⟩; subst hw))
    | (go_at_call 18; (with_reducible refine (C18c.out _ HQB.out).mono ?_); rintro e Y3 ⟨rfl, hb⟩; have HQC := hide (HQB.out.trans (hb.mono HQB.out.size)); clear hb u0 u1 v0 v1)
    | (go_at_call 18; (with_reducible refine (C18b.out _ HQA.out).mono ?_); rintro e Y2 ⟨rfl, hb⟩; have HQB := hide (HQA.out.trans (hb.mono HQA.out.size)); clear hb u0 u1 v0 v1; obtain ⟨-, -, -, -, ⟨u0, u1⟩, ⟨v0, v1⟩⟩ := HCE.out _ HQB.out)
    | (go_at_call 18; (with_reducible refine (C18a.out _ HQ0.out).mono ?_); rintro e Y1 ⟨rfl, hb⟩; have HQA := hide (HQ0.out.trans (hb.mono HQ0.out.size)); clear hb u0 u1 v0 v1; obtain ⟨-, -, ⟨u0, u1⟩, ⟨v0, v1⟩, -⟩ := HCE.out _ HQA.out)
  have HTS := hide (show TwS w Y3 ep a l c g3 pa a3 La.length c3 g5 pc a5 Lc.length c5 X2.heap.size X4.heap.size from
    ⟨HB.out.trans ((HQ9.out.trans (HQC.out.mono HQ9.out.size)).mono HB.out.size), (HX.out.below HQ9.out).below HQC.out, (HG3.out.below K3.out).below HQC.out, (HG5.out.below K5.out).below HQC.out,
      ⟨La, Own.below (Own.below HP3.out K3.out) HQC.out⟩, ⟨Lc, Own.below (Own.below HP5.out K5.out) HQC.out⟩, ⟨by have := HSZ.out; have := HQ2.out.size; omega, Nat.lt_of_lt_of_le HG3.out.1 HN4.out.size⟩, HH3.out, HH5.out⟩)
  have hg35 : g3 < g5 := Nat.lt_of_lt_of_le (Nat.lt_of_lt_of_le HG3.out.1 HN4.out.size) HZ5.out
  have HB2 := hide (show w.heap.size < X4.heap.size from by have := HSZ.out; have := HQ4.out.size; omega)
  generalize X2.heap.size = B1 at HTS
  generalize X4.heap.size = B2 at HTS HB2
  have hLa : La.length ≤ 1000 := by have := HLA.out; have := HL.out; omega
  have hLc : Lc.length ≤ 1000 := by have := HLC.out; have := HL.out; omega
  generalize La.length = na at HTS hLa ⊢
  generalize Lc.length = nc at HTS hLc ⊢
  clear HCE C18a C18b C18c HQ0 HQA HQB HQC K3 K4 K5 K6 K7 K8 HN4 HN5 HN6 HN7 HN8 HN9 HG3 HG4 HG5 HG6 HG7 HG8 HP3 HP4 HP5 HP6 HP7 HP8 HQ2 HQ3 HQ4 HQ5 HQ6 HQ7 HQ8 HQ9 HZ3 HZ4 HZ5 HZ6 HZ7 HZ8 HH3 HH4 HH5 HH6 HH7 HH8 HLA HLC HLF HX HR HS HB C10 C11 C12 C13 C14 C15 C16
  go_wp2
  go_loopw [26] (fun i wr => ∃ k : Nat, k ≤ na ∧ i = .int .i64 (k : Nat) ∧ Hid (TwS w wr ep a l c g3 pa a3 na c3 g5 pc a5 nc c5 B1 B2)) (fun i _ => na - (intOf i).toNat)
  case atStart => exact ⟨0, Nat.zero_le _, rfl, HTS⟩
  case round =>
    clear HTS
    obtain ⟨k, hk, rfl, hT⟩ := hrel
    obtain ⟨⟨x0, x1⟩, -⟩ := hT.out.b1.c2
    by_cases hlt : k < na
    · have hlt' : (k : Int) < (na : Int) := by omega
      obtain ⟨L, hL⟩ := hT.out.o1
      obtain ⟨ga, rfl, hBa, hnc⟩ := Own.blk hL (by omega)
      obtain ⟨q0, q1⟩ := hL.cell (k * 2) (by omega)
      obtain ⟨q2, q0⟩ := Option.isSome_iff_exists.1 q0
      have HNT := hide (hT.out.put1 hBa hg35 (k * 2) 99)
      clear hT hL
      go_wp2
      go_roundw
      case rel => exact ⟨k + 1, by omega, by go_num, HNT⟩
      case measure => simp [intOf]; omega
    · have hlt' : ¬ (k : Int) < (na : Int) := by omega
      have HTT := hide (show TwT w wr ep a l c g5 pc a5 nc c5 B2 from ⟨hT.out.bl, hT.out.bv, hT.out.b2, hT.out.o2, HB2.out, hT.out.h2⟩)
      clear hT
      go_wp2
      go_loopw [27] (fun i wr => ∃ k : Nat, k ≤ nc ∧ i = .int .i64 (k : Nat) ∧ Hid (TwT w wr ep a l c g5 pc a5 nc c5 B2)) (fun i _ => nc - (intOf i).toNat)
      case atStart => exact ⟨0, Nat.zero_le _, rfl, HTT⟩
      case round =>
        clear HTT x0 x1 hlt hlt' hk
        obtain ⟨k, hk, rfl, hT⟩ := hrel
        obtain ⟨⟨x0, x1⟩, -⟩ := hT.out.b2.c2
        by_cases hlt : k < nc
        · have hlt' : (k : Int) < (nc : Int) := by omega
          obtain ⟨L, hL⟩ := hT.out.o2
          obtain ⟨ga, rfl, hBa, hnc⟩ := Own.blk hL (by omega)
          obtain ⟨q0, q1⟩ := hL.cell (k * 2) (by omega)
          obtain ⟨q2, q0⟩ := Option.isSome_iff_exists.1 q0
          have HNT := hide (hT.out.put hBa (k * 2) 99)
          clear hT hL
          go_wp2
          go_roundw
          case rel => exact ⟨k + 1, by omega, by go_num, HNT⟩
          case measure => simp [intOf]; omega
        · have hlt' : ¬ (k : Int) < (nc : Int) := by omega
          have HBL := hide hT.out.bl
          have HK := hide (show ∀ W, Below wr.heap.size wr W → W.cell? ⟨w.heap.size, 0, none⟩ = some (.int .i64 ep) ∧ W.cell? ⟨w.heap.size, 1, none⟩ = some (.slice a l c) from fun W hW => (hT.out.bv.below hW).c2.1)
          have HBS := hide hT.out.bl.size
          clear hT
          go_upto_region 22 with fail
          clear x0 x1
          have HQ : Below wr.heap.size wr wr.drew := (Below.refl _ _).drew
          by_cases hx : x = ep
          · have hx' := hx.symm
            subst hx'
            cases hh with
            | true =>
              obtain rfl : fe = false := by rw [HFE.out]; simp
              clear HFE
              go_region_held3 (fun W => W.cell? ⟨w.heap.size, 0, none⟩ = some (.int .i64 ep) ∧ W.cell? ⟨w.heap.size, 1, none⟩ = some (.slice a l c)) (exact HK.out _ HQ)
                (first
                  | (go_at_call 19; (with_reducible refine (C19.out _ (HBL.out.trans (HQ.mono HBS.out))).mono ?_); rintro e w10 ⟨rfl, hb⟩; have HQ := HQ.trans (hb.mono HQ.size); clear hb)
                  | (go_at_call 20; (with_reducible refine (C20.out _ (HBL.out.trans (HQ.mono HBS.out))).mono ?_); rintro e w10 ⟨rfl, hb⟩; have HQ := HQ.trans (hb.mono HQ.size); clear hb)
                  | (go_at_call 21; (with_reducible refine (C21.out _ (HBL.out.trans (HQ.mono HBS.out))).mono ?_); rintro e w10 ⟨rfl, hb⟩; have HQ := HQ.trans (hb.mono HQ.size); clear hb)
                  | (go_at_call 22; (with_reducible refine (C22.out _ (HBL.out.trans (HQ.mono HBS.out))).mono ?_); rintro e w10 ⟨rfl, hb⟩; have HQ := HQ.trans (hb.mono HQ.size); clear hb))
              all_goals
                have HQE := hide HQ
                clear HQ
                go_wp2
                go_ret
                exact ⟨rfl, HBL.out.trans (HQE.out.mono HBS.out)⟩
            | false =>
              obtain rfl : fe = true := by rw [HFE.out]; simp
              clear HFE
              go_region_held3 (fun W => W.cell? ⟨w.heap.size, 0, none⟩ = some (.int .i64 ep) ∧ W.cell? ⟨w.heap.size, 1, none⟩ = some (.slice a l c)) (exact HK.out _ HQ)
                (first
                  | (go_at_call 19; (with_reducible refine (C19.out _ (HBL.out.trans (HQ.mono HBS.out))).mono ?_); rintro e w10 ⟨rfl, hb⟩; have HQ := HQ.trans (hb.mono HQ.size); clear hb)
                  | (go_at_call 20; (with_reducible refine (C20.out _ (HBL.out.trans (HQ.mono HBS.out))).mono ?_); rintro e w10 ⟨rfl, hb⟩; have HQ := HQ.trans (hb.mono HQ.size); clear hb)
                  | (go_at_call 21; (with_reducible refine (C21.out _ (HBL.out.trans (HQ.mono HBS.out))).mono ?_); rintro e w10 ⟨rfl, hb⟩; have HQ := HQ.trans (hb.mono HQ.size); clear hb)
                  | (go_at_call 22; (with_reducible refine (C22.out _ (HBL.out.trans (HQ.mono HBS.out))).mono ?_); rintro e w10 ⟨rfl, hb⟩; have HQ := HQ.trans (hb.mono HQ.size); clear hb))
              all_goals
                have HQE := hide HQ
                clear HQ
                go_wp2
                go_ret
                exact ⟨rfl, HBL.out.trans (HQE.out.mono HBS.out)⟩
          · obtain rfl : fe = true := by rw [HFE.out]; simp [hx]
            have q1 : (x == ep) = false := by simp [hx]
            have q2 : (x != ep) = true := by simp [hx]
            clear HFE hx
            clear HQ
            obtain ⟨z0, z1⟩ := HK.out wr (Below.refl _ _)
            refine wp_region_noPanic ?_
            have hN : Below wr.heap.size wr wr.drew := (Below.refl _ _).drew
            refine wp_region_held_drew (S := fun W => W.cell? ⟨w.heap.size, 0, none⟩ = some (.int .i64 ep) ∧ W.cell? ⟨w.heap.size, 1, none⟩ = some (.slice a l c)) (by kernel_rfl) (⟨keep_cell z0 hN, keep_cell z1 hN⟩) (fun hHeld => ?_)
            refine takeD (i := 0) (d := some 140) (v := ?_) rfl rfl (by kernel_rfl) (by kernel_rfl) (by kernel_rfl) (fun _ _ _ h => h) (Or.inl ⟨by rfl, ?_⟩) (by assumption) ?_
            rotate_left
            · intro w hSw
              go_simp
              try (with_reducible rfl)
            try simp only [Act.put, List.setIfInBounds_toArray, List.set_cons_zero, List.set_cons_succ]
            refine takeD (i := 2) (d := some 142) (v := ?_) rfl rfl (by kernel_rfl) (by kernel_rfl) (by kernel_rfl) (fun _ _ _ h => h) (Or.inl ⟨by rfl, ?_⟩) (by assumption) ?_
            rotate_left
            · intro w hSw
              go_simp
              try (with_reducible rfl)
            try simp only [Act.put, List.setIfInBounds_toArray, List.set_cons_zero, List.set_cons_succ]
            refine wpAnyH_ready (rs := [1]) (by kernel_rfl) (by simp) ?_
            refine AllReadyH.cons rfl (fun K hK => ?_) AllReadyH.nil
            go_simp
            refine (C19.out _ (HBL.out.trans (hN.mono HBS.out))).mono ?_
            rintro e w10 ⟨rfl, hb⟩
            replace hN := hN.trans (hb.mono hN.size)
            clear hb
            go_wp2_with fail
            clear hHeld
            refine hK.out _ _ (⟨keep_cell z0 hN, keep_cell z1 hN⟩) (fun hHeld => ?_)
            clear hK K
            try simp only [Act.put, List.setIfInBounds_toArray, List.set_cons_zero, List.set_cons_succ]
            refine wpAnyH_ready (rs := [3]) (by kernel_rfl) (by simp) ?_
            refine AllReadyH.cons rfl (fun K hK => ?_) AllReadyH.nil
            go_simp
            refine (C20.out _ (HBL.out.trans (hN.mono HBS.out))).mono ?_
            rintro e w10 ⟨rfl, hb⟩
            replace hN := hN.trans (hb.mono hN.size)
            clear hb
            go_wp2_with fail
            clear hHeld
            refine hK.out _ _ (⟨keep_cell z0 hN, keep_cell z1 hN⟩) (fun hHeld => ?_)
            clear hK K
            try simp only [Act.put, List.setIfInBounds_toArray, List.set_cons_zero, List.set_cons_succ]
            refine takeD (i := 4) (d := some 144) (v := ?_) rfl rfl (by kernel_rfl) (by kernel_rfl) (by kernel_rfl) (fun _ _ _ h => h) (Or.inl ⟨by rfl, ?_⟩) (by assumption) ?_
            rotate_left
            · intro w hSw
              go_simp
              try (with_reducible rfl)
            try simp only [Act.put, List.setIfInBounds_toArray, List.set_cons_zero, List.set_cons_succ]
            refine takeD (i := 5) (d := some 145) (v := ?_) rfl rfl (by kernel_rfl) (by kernel_rfl) (by kernel_rfl) (fun _ _ _ h => h) (Or.inl ⟨by rfl, ?_⟩) (by assumption) ?_
            rotate_left
            · intro w hSw
              go_simp
              try (with_reducible rfl)
            try simp only [Act.put, List.setIfInBounds_toArray, List.set_cons_zero, List.set_cons_succ]
            refine takeD (i := 6) (d := some 146) (v := ?_) rfl rfl (by kernel_rfl) (by kernel_rfl) (by kernel_rfl) (fun _ _ _ h => h) (Or.inl ⟨by rfl, ?_⟩) (by assumption) ?_
            rotate_left
            · intro w hSw
              go_simp
              try (with_reducible rfl)
            try simp only [Act.put, List.setIfInBounds_toArray, List.set_cons_zero, List.set_cons_succ]
            refine takeD (i := 7) (d := some 147) (v := ?_) rfl rfl (by kernel_rfl) (by kernel_rfl) (by kernel_rfl) (fun _ _ _ h => h) (Or.inl ⟨by rfl, ?_⟩) (by assumption) ?_
            rotate_left
            · intro w hSw
              go_simp
              try (with_reducible rfl)
            try simp only [Act.put, List.setIfInBounds_toArray, List.set_cons_zero, List.set_cons_succ]
            refine takeD (i := 8) (d := some 148) (v := ?_) rfl rfl (by kernel_rfl) (by kernel_rfl) (by kernel_rfl) (fun _ _ _ h => h) (Or.inl ⟨by rfl, ?_⟩) (by assumption) ?_
            rotate_left
            · intro w hSw
              go_simp
              try (with_reducible rfl)
            try simp only [Act.put, List.setIfInBounds_toArray, List.set_cons_zero, List.set_cons_succ]
            refine takeD (i := 10) (d := some 150) (v := ?_) rfl rfl (by kernel_rfl) (by kernel_rfl) (by kernel_rfl) (fun _ _ _ h => h) (Or.inl ⟨by rfl, ?_⟩) (by assumption) ?_
            rotate_left
            · intro w hSw
              go_simp
              try (with_reducible rfl)
            try simp only [Act.put, List.setIfInBounds_toArray, List.set_cons_zero, List.set_cons_succ]
            refine wpAnyH_ready (rs := [9]) (by kernel_rfl) (by simp) ?_
            refine AllReadyH.cons rfl (fun K hK => ?_) AllReadyH.nil
            go_simp
            refine (C21.out _ (HBL.out.trans (hN.mono HBS.out))).mono ?_
            rintro e w10 ⟨rfl, hb⟩
            replace hN := hN.trans (hb.mono hN.size)
            clear hb
            go_wp2_with fail
            clear hHeld
            refine hK.out _ _ (⟨keep_cell z0 hN, keep_cell z1 hN⟩) (fun hHeld => ?_)
            clear hK K
            try simp only [Act.put, List.setIfInBounds_toArray, List.set_cons_zero, List.set_cons_succ]
            refine takeD (i := 11) (d := some 151) (v := ?_) rfl rfl (by kernel_rfl) (by kernel_rfl) (by kernel_rfl) (fun _ _ _ h => h) (Or.inl ⟨by rfl, ?_⟩) (by assumption) ?_
            rotate_left
            · intro w hSw
              go_simp
              try (with_reducible rfl)
            try simp only [Act.put, List.setIfInBounds_toArray, List.set_cons_zero, List.set_cons_succ]
            refine takeD (i := 12) (d := some 152) (v := ?_) rfl rfl (by kernel_rfl) (by kernel_rfl) (by kernel_rfl) (fun _ _ _ h => h) (Or.inl ⟨by rfl, ?_⟩) (by assumption) ?_
            rotate_left
            · intro w hSw
              go_simp
              try (with_reducible rfl)
            try simp only [Act.put, List.setIfInBounds_toArray, List.set_cons_zero, List.set_cons_succ]
            refine takeD (i := 13) (d := some 153) (v := ?_) rfl rfl (by kernel_rfl) (by kernel_rfl) (by kernel_rfl) (fun _ _ _ h => h) (Or.inl ⟨by rfl, ?_⟩) (by assumption) ?_
            rotate_left
            · intro w hSw
              go_simp
              try (with_reducible rfl)
            try simp only [Act.put, List.setIfInBounds_toArray, List.set_cons_zero, List.set_cons_succ]
            refine takeD (i := 14) (d := some 154) (v := ?_) rfl rfl (by kernel_rfl) (by kernel_rfl) (by kernel_rfl) (fun _ _ _ h => h) (Or.inl ⟨by rfl, ?_⟩) (by assumption) ?_
            rotate_left
            · intro w hSw
              go_simp
              try (with_reducible rfl)
            try simp only [Act.put, List.setIfInBounds_toArray, List.set_cons_zero, List.set_cons_succ]
            refine takeD (i := 15) (d := some 155) (v := ?_) rfl rfl (by kernel_rfl) (by kernel_rfl) (by kernel_rfl) (fun _ _ _ h => h) (Or.inl ⟨by rfl, ?_⟩) (by assumption) ?_
            rotate_left
            · intro w hSw
              go_simp
              try (with_reducible rfl)
            try simp only [Act.put, List.setIfInBounds_toArray, List.set_cons_zero, List.set_cons_succ]
            refine takeD (i := 16) (d := some 156) (v := ?_) rfl rfl (by kernel_rfl) (by kernel_rfl) (by kernel_rfl) (fun _ _ _ h => h) (Or.inl ⟨by rfl, ?_⟩) (by assumption) ?_
            rotate_left
            · intro w hSw
              go_simp
              try (with_reducible rfl)
            try simp only [Act.put, List.setIfInBounds_toArray, List.set_cons_zero, List.set_cons_succ]
            refine takeD (i := 17) (d := some 157) (v := ?_) rfl rfl (by kernel_rfl) (by kernel_rfl) (by kernel_rfl) (fun _ _ _ h => h) (Or.inl ⟨by rfl, ?_⟩) (by assumption) ?_
            rotate_left
            · intro w hSw
              go_simp
              try (with_reducible rfl)
            try simp only [Act.put, List.setIfInBounds_toArray, List.set_cons_zero, List.set_cons_succ]
            refine takeD (i := 19) (d := some 159) (v := ?_) rfl rfl (by kernel_rfl) (by kernel_rfl) (by kernel_rfl) (fun _ _ _ h => h) (Or.inl ⟨by rfl, ?_⟩) (by assumption) ?_
            rotate_left
            · intro w hSw
              go_simp
              try (with_reducible rfl)
            try simp only [Act.put, List.setIfInBounds_toArray, List.set_cons_zero, List.set_cons_succ]
            refine takeD (i := 20) (d := some 160) (v := ?_) rfl rfl (by kernel_rfl) (by kernel_rfl) (by kernel_rfl) (fun _ _ _ h => h) (Or.inl ⟨by rfl, ?_⟩) (by assumption) ?_
            rotate_left
            · intro w hSw
              go_simp
              try (with_reducible rfl)
            try simp only [Act.put, List.setIfInBounds_toArray, List.set_cons_zero, List.set_cons_succ]
            refine takeD (i := 21) (d := some 161) (v := ?_) rfl rfl (by kernel_rfl) (by kernel_rfl) (by kernel_rfl) (fun _ _ _ h => h) (Or.inl ⟨by rfl, ?_⟩) (by assumption) ?_
            rotate_left
            · intro w hSw
              go_simp
              try (with_reducible rfl)
            try simp only [Act.put, List.setIfInBounds_toArray, List.set_cons_zero, List.set_cons_succ]
            refine takeD (i := 22) (d := some 162) (v := ?_) rfl rfl (by kernel_rfl) (by kernel_rfl) (by kernel_rfl) (fun _ _ _ h => h) (Or.inl ⟨by rfl, ?_⟩) (by assumption) ?_
            rotate_left
            · intro w hSw
              go_simp
              try (with_reducible rfl)
            try simp only [Act.put, List.setIfInBounds_toArray, List.set_cons_zero, List.set_cons_succ]
            refine wpAnyH_ready (rs := [18]) (by kernel_rfl) (by simp) ?_
            refine AllReadyH.cons rfl (fun K hK => ?_) AllReadyH.nil
            go_simp
            refine (C22.out _ (HBL.out.trans (hN.mono HBS.out))).mono ?_
            rintro e w10 ⟨rfl, hb⟩
            replace hN := hN.trans (hb.mono hN.size)
            clear hb
            go_wp2_with fail
            clear hHeld
            refine hK.out _ _ (⟨keep_cell z0 hN, keep_cell z1 hN⟩) (fun hHeld => ?_)
            clear hK K
            try simp only [Act.put, List.setIfInBounds_toArray, List.set_cons_zero, List.set_cons_succ]
            refine takeD (i := 23) (d := some 163) (v := ?_) rfl rfl (by kernel_rfl) (by kernel_rfl) (by kernel_rfl) (fun _ _ _ h => h) (Or.inl ⟨by rfl, ?_⟩) (by assumption) ?_
            rotate_left
            · intro w hSw
              go_simp
              try (with_reducible rfl)
            try simp only [Act.put, List.setIfInBounds_toArray, List.set_cons_zero, List.set_cons_succ]
            refine takeD (i := 24) (d := some 164) (v := undef) rfl rfl (by kernel_rfl) (by kernel_rfl) (by kernel_rfl) (fun _ _ _ h => h) (Or.inr ⟨by rfl, rfl⟩) (by assumption) ?_
            try simp only [Act.put, List.setIfInBounds_toArray, List.set_cons_zero, List.set_cons_succ]
            refine takeD (i := 25) (d := some 165) (v := undef) rfl rfl (by kernel_rfl) (by kernel_rfl) (by kernel_rfl) (fun _ _ _ h => h) (Or.inr ⟨by rfl, rfl⟩) (by assumption) ?_
            try simp only [Act.put, List.setIfInBounds_toArray, List.set_cons_zero, List.set_cons_succ]
            refine takeD (i := 26) (d := some 166) (v := ?_) rfl rfl (by kernel_rfl) (by kernel_rfl) (by kernel_rfl) (fun _ _ _ h => h) (Or.inl ⟨by rfl, ?_⟩) (by assumption) ?_
            rotate_left
            · intro w hSw
              go_simp
              try (with_reducible rfl)
            try simp only [Act.put, List.setIfInBounds_toArray, List.set_cons_zero, List.set_cons_succ]
            refine takeD (i := 27) (d := some 167) (v := ?_) rfl rfl (by kernel_rfl) (by kernel_rfl) (by kernel_rfl) (fun _ _ _ h => h) (Or.inl ⟨by rfl, ?_⟩) (by assumption) ?_
            rotate_left
            · intro w hSw
              go_simp
              try (with_reducible rfl)
            try simp only [Act.put, List.setIfInBounds_toArray, List.set_cons_zero, List.set_cons_succ]
            refine takeD (i := 28) (d := some 168) (v := ?_) rfl rfl (by kernel_rfl) (by kernel_rfl) (by kernel_rfl) (fun _ _ _ h => h) (Or.inl ⟨by rfl, ?_⟩) (by assumption) ?_
            rotate_left
            · intro w hSw
              go_simp
              try (with_reducible rfl)
            try simp only [Act.put, List.setIfInBounds_toArray, List.set_cons_zero, List.set_cons_succ]
            refine takeD (i := 29) (d := some 10) (v := ?_) rfl rfl (by kernel_rfl) (by kernel_rfl) (by kernel_rfl) (fun _ _ _ h => h) (Or.inl ⟨by rfl, ?_⟩) (by assumption) ?_
            rotate_left
            · intro w hSw
              go_simp
              try (with_reducible rfl)
            try simp only [Act.put, List.setIfInBounds_toArray, List.set_cons_zero, List.set_cons_succ]
            refine wpAnyH_done (by kernel_rfl) ?_ _
            refine NoPanic.normal ?_
            have HQE := hide hN
            clear hN
            go_wp2
            go_ret
            exact ⟨rfl, HBL.out.trans (HQE.out.mono HBS.out)⟩
end viewTells
end Go.Proofs.Ythjkfpcbbjmclaa
