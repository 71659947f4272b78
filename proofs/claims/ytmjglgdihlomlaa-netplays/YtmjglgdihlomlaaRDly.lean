/- (*gleanerref10.Net).Deliver, where there is such a parcel. -/
import Derived.Test.YtmjglgdihlomlaaRDel
import Derived.Deep.Cut
namespace Go.Proofs.Ytmjglgdihlomlaa
open Go.RowKit Go.ChangeShapes Go.WideShapes Go.ChangeAt Go.Deep

theorem rowO_any {D : Nat → Prop} {w' : World} {B m : Nat} {v : Value} {l : List Pm} (h : w'.ownsRow B 37 3 v m (cV l)) (hx : ∀ x ∈ l, x.ok D w' ∧ ∀ ad, x.a = some ad → ad.block < B) :
    ∃ a c, v = .slice a m c ∧ (∀ ad, a = some ad → B ≤ ad.block) ∧ RowO (fun k => D k ∨ (B ≤ k ∧ k < w'.heap.size)) w' a m c l := by
  have hlen := h.1
  rw [cV_len] at hlen
  have hl : l.length = m := by omega
  rcases h.2 with ⟨rfl, h0⟩ | ⟨g, cap, cur, rfl, hB, hg, h1, h2, h3, h4⟩
  · subst h0
    have hl0 : l = [] := List.eq_nil_of_length_eq_zero hl
    subst hl0
    exact ⟨none, 0, rfl, (fun ad e => by cases e), ⟨⟨rfl, ⟨Nat.le_refl _, Nat.zero_le _⟩, fun _ => ⟨rfl, rfl⟩, .inl rfl, (fun ad e => by cases e), fun x hx => by cases hx⟩, fun ad e => by cases e⟩⟩
  · have hlt : g < w'.heap.size := (Array.getElem?_eq_some_iff.1 hg).1
    have hcell : ∀ j, w'.cell? ⟨g, j, none⟩ = cur[j]? := fun j => by simp [World.cell?, hg]
    refine ⟨some ⟨g, 0, none⟩, cap, rfl, (fun ad e => by cases e; exact hB), ⟨hl, ⟨h1, h2⟩, (fun e => by cases e), .inr ⟨g, 0, rfl, fun j u hu => ?_⟩, fun ad e => by cases e; exact .inr ⟨hB, hlt⟩, fun x hq => (hx x hq).1.mono fun k hk => .inl hk⟩, fun ad e => ?_⟩
    · have := h.cells (g := g) rfl j u hu
      rwa [add_none] at this
    · cases e
      refine ⟨g, 0, rfl, fun j hj => ⟨?_, ?_⟩, fun x hq ad' e' => by have := (hx x hq).2 ad' e'; omega⟩
      · rw [hcell]; simp; omega
      · simp [World.frozen?, hg]
theorem own_openP {w : World} {B n : Nat} {v : Value} {xs : List Pm} (h : w.ownsRow B 37 3 v n (cV xs)) (hl : xs.length = n) : ∃ a c, v = .slice a n c ∧ (a = none → n = 0 ∧ c = 0) ∧ Reads w a (cV xs) ∧ ∀ q, (Value.slice a n c).ownBlock = some q → B ≤ q := by
  rcases h.2 with ⟨rfl, rfl⟩ | ⟨g, cap, cur, rfl, hB, _⟩
  · exact ⟨none, 0, rfl, fun _ => ⟨rfl, rfl⟩, .inl (by rw [List.eq_nil_of_length_eq_zero hl]; rfl), fun q e => by cases e⟩
  · refine ⟨_, cap, rfl, (fun e => by cases e), .inr ⟨g, 0, rfl, fun j u hu => ?_⟩, fun q e => by simp only [Value.ownBlock, Option.some.injEq] at e; omega⟩
    have := h.cells (g := g) rfl j u hu
    rwa [add_none] at this

theorem rdel_row {D : Nat → Prop} {X w4 w5 w6 : World} {cb m : Nat} {l lf : List Pm} {v5 v6 : Value} (hM : NetM D X cb l) (h4 : Below X.heap.size X w4) (h5 : Below w4.heap.size w4 w5) (hg : w5.grownBy w6 v5.ownBlock) (hq : ∀ q, v5.ownBlock = some q → w4.heap.size ≤ q) (ho : w6.ownsRow w4.heap.size 37 3 v6 m (cV lf)) (hs : lf.Sublist l) :
    ∃ a6 c6, v6 = .slice a6 m c6 ∧ GoneS D X w6 a6 m c6 lf ∧ Below X.heap.size X w6 := by
  have h45 := h4.trans (h5.mono h4.size)
  have hb6 : Below X.heap.size X w6 := h45.grown hg h45.size (fun q e => Nat.le_trans h4.size (hq q e))
  obtain ⟨⟨c1, c2, c3⟩, a, n, c, hcell, hro, hne, hxs⟩ := hM
  have h4s := h4.size
  obtain ⟨a6, c6, e, hB, hR⟩ := rowO_any (D := D) ho (fun x hx => by
    have hok := hro.1.2.2.2.2.2 x (hs.subset hx)
    exact ⟨hok.keep fun k _ hk => hb6.block k hk, fun ad e => by have := c3 _ (hok.2.2.2.2.2 ad e); omega⟩)
  refine ⟨a6, c6, e, ⟨hR.mono fun k hk => ?_, fun ad e => by have := hB ad e; omega⟩, hb6⟩
  rcases hk with hk | hk
  · exact .inl hk
  · exact .inr ⟨by omega, hk.2⟩
theorem erase_eq (l : List Pm) (k : Nat) : l.take k ++ l.drop (k + 1) = l.eraseIdx k := (List.eraseIdx_eq_take_drop_succ ..).symm

set_option linter.unusedSimpArgs false in
set_option maxRecDepth 100000 in
set_option maxHeartbeats 4000000 in
theorem rdeliver_yes (D : Nat → Prop) (w : World) (cb : Nat) (L : List Pc) (k : Nat) (hN : NetR D w cb L) (hk : k < L.length) (hL : L.length ≤ 20000) :
    Calls Try.prog 13 #[.pointer (some ⟨cb, 0, none⟩), .int .i64 (k : Int)] w (RDelYes D w cb L k L[k]) := by
  obtain ⟨l, rfl, hM, hE⟩ := hN
  rw [List.length_map] at hL
  have hkl : k < l.length := by simpa using hk
  have HM := hide hM
  have HE := hide hE
  obtain ⟨hx1, hx2, hx3⟩ := box1 w [.int .i64 0, .int .i64 0, .slice none 0 0] 37
  obtain ⟨V, hV⟩ : ∃ V, V = w.alloc (.cells #[.int .i64 0, .int .i64 0, .slice none 0 0] 37) := ⟨_, rfl⟩
  have HX := hide (show BoxL V w.heap.size [.int .i64 0, .int .i64 0, .slice none 0 0] by rw [hV]; exact hx1)
  have HB := hide (show Below w.heap.size w V by rw [hV]; exact hx2)
  have HS := hide (show V.heap.size = w.heap.size + 1 by rw [hV]; exact hx3)
  have HV := hide hV
  obtain ⟨hcc, a, n, c, hcell, hro, hne, hxs⟩ := hM.below HB.out
  have hn := hro.1.1
  obtain ⟨g, off, har, y0, y1, y2⟩ := hro.1.at hkl
  subst har
  have HRO := hide hro
  have HNE := hide hne
  have HCC := hide hcc
  rw [List.getElem_map]
  have HOK := hide (hro.1.2.2.2.2.2 l[k] (List.getElem_mem _))
  obtain ⟨⟨⟨f, t, bs⟩, xa, xn, xc⟩, hx⟩ : ∃ x, x = l[k] := ⟨_, rfl⟩
  have HXN := hide (hxs l[k] (List.getElem_mem _))
  rw [← hx] at y0 y1 y2 HOK HXN ⊢
  simp only at y0 y1 y2
  have hkn : k < n := by omega
  have hki : (k : Int) < (n : Int) := by omega
  have hnc := hro.1.2.1.1
  have HLn := hide hn
  clear hx1 hx2 hx3 hV hx hro hne hxs hcc hk hkl hE hM hn
  unfold RDelYes
  go_enter Try.func13, Try.ntmps13
  go_upto_region 1 with fail
  rw [← HV.out]
  go_upto_region 4 with fail
  have hPX := BoxL.new V [.int .i64 f, .int .i64 t, .slice xa xn xc] 37
  have hbX := below_new V (.cells #[.int .i64 f, .int .i64 t, .slice xa xn xc] 37)
  have hsX : (V.alloc (.cells #[.int .i64 f, .int .i64 t, .slice xa xn xc] 37)).heap.size = V.heap.size + 1 := by simp
  generalize V.alloc (.cells #[.int .i64 f, .int .i64 t, .slice xa xn xc] 37) = X at hPX hbX hsX ⊢
  have HPX := hide hPX
  have HBX := hide (show Below w.heap.size w X from HB.out.trans (hbX.mono HB.out.size))
  have HXX := hide (HX.out.below hbX)
  have HSX := hide hsX
  have hcX := keep_cell hcell hbX
  have HRd := hide (HRO.out.1.2.2.2.1.below hbX)
  have HRf := hide (show Reads X (some (atp g off c (k + 1))) (cV (l.drop (k + 1))) from reads_fromP HRd.out HLn.out hnc)
  have HRt := hide (show Reads X (some ⟨g, off, none⟩) (cV (l.take k)) from reads_toP HRd.out)
  have HD1 := hide (show (l.drop (k + 1)).length = n - (k + 1) by rw [List.length_drop, HLn.out])
  have HD2 := hide (show (l.take k).length = k by rw [List.length_take, HLn.out]; omega)
  have kf : ∀ W, (Instr.slice 28 (.slice (some ⟨g, off, none⟩) n c) (some (.int .i64 ((k : Int) + 1))) none none).run Try.prog W = .ok (.slice (some (atp g off c (k + 1))) (n - (k + 1)) (c - (k + 1))) W := fun W => slice_fromP W g off n c (k + 1) (by omega)
  have kt := fun W => slice_to W (some ⟨g, off, none⟩) n c k (by omega)
  have hn2 : n ≤ 20000 := by have := HLn.out; omega
  have HMX := hide (HM.out.below HBX.out)
  have HEX := hide (HE.out.keep HM.out.blocks (fun i hi h => HBX.out.block i h))
  have HSUB := hide (show (l.eraseIdx k).Sublist l from List.eraseIdx_sublist ..)
  have HDl := hide HM.out.1.2.2
  have HME := hide (map_erase l k)
  have HRX := hide (show Reads X xa (bV bs) from HOK.out.2.2.2.2.1.below hbX)
  clear hPX hbX hsX y0 y1 y2 hL
  go_upto_region 6 with (first
    | (at_builtin; (refine append_p rfl (.const (.slice none 0 0)) (.tmp 33) rfl X.heap.size (.slice none 0 0) 0 [] rfl (World.ownsRow_nil _ _ _ _) (some (atp g off c (k + 1))) (n - (k + 1)) (c - (k + 1)) (l.drop (k + 1)) rfl (fun e => by cases e) HD1.out HRf.out (by omega) (Nat.le_refl _) ?_; intro v4 w4 ho4 hg4; rw [Nat.zero_add, List.nil_append] at ho4; have HB4 := hide (below_of hg4); obtain ⟨a4, c4, e4, hn4, hr4, -⟩ := own_openP ho4 HD1.out; subst e4; have HN4 := hide hn4; have HR4 := hide hr4; have hc4 := keep_cell hcX (below_of hg4); clear ho4 hg4 hn4 hr4))
    | (at_builtin; (refine append_p rfl (.const (.slice none 0 0)) (.tmp 41) rfl w4.heap.size (.slice none 0 0) 0 [] rfl (World.ownsRow_nil _ _ _ _) (some ⟨g, off, none⟩) k c (l.take k) rfl (fun e => by cases e) HD2.out (HRt.out.below HB4.out) (by omega) (Nat.le_refl _) ?_; intro v5 w5 ho5 hg5; rw [Nat.zero_add, List.nil_append] at ho5; have HB5 := hide (below_of hg5); have HO5 := hide ho5; obtain ⟨a5, c5, e5, -, -, hq5⟩ := own_openP ho5 HD2.out; subst e5; have HQ5 := hide hq5; clear ho5 hg5 hq5))
    | (at_builtin; (refine append_p rfl (.tmp 42) (.tmp 43) rfl w4.heap.size (.slice a5 k c5) k (l.take k) rfl HO5.out a4 (n - (k + 1)) c4 (l.drop (k + 1)) rfl HN4.out HD1.out (HR4.out.below HB5.out) (by omega) HB5.out.size ?_; intro v6 w6 ho6 hg6; rw [erase_eq] at ho6; obtain ⟨a6, c6, e6, hG6, hb6⟩ := rdel_row HMX.out HB4.out HB5.out hg6 HQ5.out ho6 HSUB.out; subst e6; have hc6 := keep_cell hcX hb6; have hf6 : w6.frozen? ⟨cb, 0, none⟩ = false := (by rw [World.frozen?_of_block (w := X) (a := ⟨cb, 0, none⟩) (hb6.block cb (HMX.out.1.2.2 cb HMX.out.1.1))]; exact HMX.out.1.2.1); have HE9 := hide (gone_end HMX.out HEX.out hb6 hG6 HSUB.out); have HR7 := hide (show Reads (w6.setCell ⟨cb, 0, none⟩ (.slice a6 (k + (n - (k + 1))) c6)) xa (bV bs) from (HRX.out.below hb6).keepN (g := cb) HXN.out (fun b hb _ => Below.heap_setCell _ _ _ _ hb)); clear ho6 hg6 hG6 hb6)))
  generalize w6.setCell ⟨cb, 0, none⟩ (.slice a6 (k + (n - (k + 1))) c6) = w7 at HE9 HR7 ⊢
  have HN7 := hide HE9.out.1
  have HK7 := hide HE9.out.2
  have hs0 := HS.out
  have hsx := HSX.out
  have hnV : ¬ D V.heap.size := fun e => by have := HDl.out _ e; omega
  have hnW : ¬ D w.heap.size := fun e => by have := HDl.out _ e; omega
  have hP7 := hide (BoxL.keep (w' := w7) HPX.out HK7.out.size (HK7.out.block _ HPX.out.1 hnV))
  have hX7 := hide (BoxL.keep (w' := w7) HXX.out HK7.out.size (HK7.out.block _ HXX.out.1 hnW))
  obtain ⟨p0, p1, p2⟩ := hP7.out.c3
  obtain ⟨e0, e1, e2⟩ := hX7.out.c3
  obtain ⟨g0, g1, g2⟩ := hX7.out.f3
  have HF := hide (put3_box hX7.out (.int .i64 f) (.int .i64 t) (.slice xa xn xc))
  have hqn : ∀ q, Ex D X w7 q → q ≠ w.heap.size := fun q h1 e => by
    subst e
    rcases h1 with h1 | h1
    · exact hnW h1
    · omega
  have HN9 := hide (HN7.out.keep (w' := put3 w7 w.heap.size 0 (.int .i64 f) (.int .i64 t) (.slice xa xn xc)) (by rw [put3_size]; exact Nat.le_refl _) (fun q h1 _ => put3_keep (hqn q h1) _ _ _))
  have HK9 := hide (show Kp D w (put3 w7 w.heap.size 0 (.int .i64 f) (.int .i64 t) (.slice xa xn xc)) from (((((Kp.of_below HBX.out).trans HK7.out)).put (.inr (Nat.le_refl _)) _).put (.inr (Nat.le_refl _)) _).put (.inr (Nat.le_refl _)) _)
  have hxD := HOK.out.2.2.2.2.2
  have HR9 := hide (show Reads (put3 w7 w.heap.size 0 (.int .i64 f) (.int .i64 t) (.slice xa xn xc)) xa (bV bs) from HR7.out.keepN (g := w.heap.size) (fun ad e => by have := HDl.out _ (hxD ad e); omega) (fun b hb _ => put3_keep hb _ _ _))
  have hs7 : (put3 w7 w.heap.size 0 (.int .i64 f) (.int .i64 t) (.slice xa xn xc)).heap.size = w7.heap.size := put3_size _ _ _ _ _ _
  obtain ⟨X4, hX4⟩ : ∃ X4, X4 = put3 w7 w.heap.size 0 (.int .i64 f) (.int .i64 t) (.slice xa xn xc) := ⟨_, rfl⟩
  rw [← hX4] at HF HN9 HK9 HR9 hs7
  have HX4 := hide hX4
  have HS7 := hide hs7
  clear hX4 hs0 hsx hs7 hqn hnV hnW hxD
  go_wp2
  have hX4 := HX4.out
  unfold put3 at hX4
  rw [← hX4]
  clear hX4
  obtain ⟨x0, x1, x2⟩ := HF.out.c3
  refine bodyPost_ret (v := .tuple #[.agg #[.int .i64 f, .int .i64 t, .slice xa xn xc], .bool true]) (by simp [results, Try.results13, go_sem, x0, x1, x2]) rfl ⟨xa, xn, xc, rfl, HOK.out.1, ⟨HOK.out.2.1, HOK.out.2.2.1, HOK.out.2.2.2.1⟩, HR9.out, ?_, HK9.out⟩
  obtain ⟨l9, e9, h91, h92⟩ := HN9.out
  refine ⟨l9, by rw [e9, HME.out], h91.mono (fun q hq => ?_) (fun q hq => ?_), h92⟩
  · have := HBX.out.size
    have hs7 := HS7.out
    rcases hq with hq | hq
    · exact .inl hq
    · exact .inr ⟨by omega, by omega⟩
  · rcases hq with hq | hq
    · exact h91.1.2.2 q (.inl hq)
    · exact hq.2
end Go.Proofs.Ytmjglgdihlomlaa
