/- (*net.Net).take. -/
import Derived.Test.YtmjglgdihlomlaaTkp
namespace Go.Proofs.Ytmjglgdihlomlaa
open Go.RowKit Go.ChangeShapes Go.WideShapes Go.ChangeAt Go.Deep

/-- The net behind 'take'. -/
theorem net_take {D : Nat → Prop} {w : World} {cb g off n c k : Nat} {l : List Pm} (hc : D cb ∧ w.frozen? ⟨cb, 0, none⟩ = false ∧ ∀ k, D k → k < w.heap.size) (hcell : w.cell? ⟨cb, 0, none⟩ = some (.slice (some ⟨g, off, none⟩) n c)) (h : RowO D w (some ⟨g, off, none⟩) n c l) (hne : g ≠ cb) (hxs : ∀ x ∈ l, ∀ ad, x.a = some ad → ad.block ≠ cb) (hk : k < n) (X : World) (hX : X = put3 (w.setCells g (off + 3) (cV (l.take k))) g off (.int .i64 0) (.int .i64 0) (.slice none 0 0)) :
    X.cell? ⟨cb, 0, none⟩ = some (.slice (some ⟨g, off, none⟩) n c) ∧ X.frozen? ⟨cb, 0, none⟩ = false ∧ NetM D (X.setCell ⟨cb, 0, none⟩ (.slice (some (at1 g off c)) (n - 1) (c - 1))) cb (l.eraseIdx k) ∧ Kp D w (X.setCell ⟨cb, 0, none⟩ (.slice (some (at1 g off c)) (n - 1) (c - 1))) ∧ ∀ x ∈ l, x.ok D (X.setCell ⟨cb, 0, none⟩ (.slice (some (at1 g off c)) (n - 1) (c - 1))) := by
  obtain ⟨hro, hot, hsz⟩ := row_take h hk
  obtain ⟨_, hap⟩ := h.room
  rw [← hX] at hro hot hsz
  have hb := hot cb (fun e => hne e.symm)
  have hc' : X.cell? ⟨cb, 0, none⟩ = some (.slice (some ⟨g, off, none⟩) n c) := by rw [World.cell?_of_block (w := w) (a := ⟨cb, 0, none⟩) hb]; exact hcell
  have hf' : X.frozen? ⟨cb, 0, none⟩ = false := by rw [World.frozen?_of_block (w := w) (a := ⟨cb, 0, none⟩) hb]; exact hc.2.1
  have hDg : D g := h.1.2.2.2.2.1 _ rfl
  have hkk : ∀ k, k ≠ cb → (X.setCell ⟨cb, 0, none⟩ (.slice (some (at1 g off c)) (n - 1) (c - 1))).heap[k]? = X.heap[k]? := fun k hk => Below.heap_setCell _ _ _ _ hk
  have hab : (at1 g off c).block = g := by unfold at1; split <;> rfl
  have hmem : ∀ x ∈ l.eraseIdx k, x ∈ l := fun x hx => List.mem_of_mem_eraseIdx hx
  have hks : Kp D w X := by
    refine ⟨?_, ?_, ?_, by omega, fun q hq hd => hot q (fun e => hd (e ▸ hDg))⟩
    · rw [hX]; show (w.setCells g (off + 3) (cV (l.take k))).os = w.os
      exact (World.keptBut_setCells g (may := fun _ => True) _ _ w (fun _ _ => trivial)).1
    · rw [hX]; show (w.setCells g (off + 3) (cV (l.take k))).tape = w.tape
      exact tape_setCells g _ _ _
    · rw [hX]; show (w.setCells g (off + 3) (cV (l.take k))).output = w.output
      exact (World.keptBut_setCells g (may := fun _ => True) _ _ w (fun _ _ => trivial)).2.1
  refine ⟨hc', hf', ⟨⟨hc.1, by simpa using hf', fun k hd => ?_⟩, _, _, _, World.cell?_setCell_same _ _ _ hc', ?_, fun ad e => by cases e; rw [hab]; exact hne, fun x hx => hxs x (hmem x hx)⟩, hks.put (.inl hc.1) _, fun x hx => ?_⟩
  · show k < (X.setCell ⟨cb, 0, none⟩ _).heap.size
    simp only [World.setCell, Array.size_modify]
    have := hc.2.2 k hd
    omega
  · refine ⟨⟨hro.1.1, hro.1.2.1, hro.1.2.2.1, hro.1.2.2.2.1.keepN (g := cb) (fun ad e => by cases e; rw [hab]; exact hne) (fun k hk _ => hkk k hk), hro.1.2.2.2.2.1, fun x hx => (hro.1.2.2.2.2.2 x hx).keepN (hxs x (hmem x hx)) (fun k hk _ => hkk k hk)⟩, fun ad e => ?_⟩
    obtain ⟨g', off', e', h1, h2⟩ := hro.2 ad e
    cases e
    have hg' : g' = g := by rw [← hab, e']
    subst hg'
    refine ⟨g', off', e', fun j hj => ?_, h2⟩
    rw [World.cell?_of_block (w := X) (a := ⟨g', off' + j, none⟩) (hkk g' hne), World.frozen?_of_block (w := X) (a := ⟨g', off' + j, none⟩) (hkk g' hne)]
    exact h1 j hj
  · have h1 := (h.1.2.2.2.2.2 x hx).keepN (w' := X) (hap x hx) (fun q hq _ => hot q hq)
    exact h1.keepN (hxs x hx) (fun k hk _ => hkk k hk)

def TakePost (D : Nat → Prop) (w : World) (cb : Nat) (l : List Pm) (k : Nat) (x : Pm) (e : Ending) (w' : World) : Prop :=
  e = .returned (.agg #[.int .i64 x.p.1, .int .i64 x.p.2.1, .slice x.a x.n x.c]) ∧ NetM D w' cb (l.eraseIdx k) ∧ Kp D w w' ∧ x.ok D w'
set_option linter.unusedSimpArgs false in
set_option maxRecDepth 100000 in
set_option maxHeartbeats 4000000 in
theorem take_any (D : Nat → Prop) (w : World) (cb k : Nat) (l : List Pm) (hN : NetM D w cb l) (hk : k < l.length) (hl : l.length ≤ 20000) :
    Calls Try.prog 26 #[.pointer (some ⟨cb, 0, none⟩), .int .i64 (k : Int)] w (TakePost D w cb l k l[k]) := by
  obtain ⟨hx1, hx2, hx3, hx4⟩ := box2 w [.int .i64 0, .int .i64 0, .slice none 0 0] [.int .i64 l[k].p.1, .int .i64 l[k].p.2.1, .slice l[k].a l[k].n l[k].c] 37 37
  obtain ⟨V, hV⟩ : ∃ V, V = (w.alloc (.cells #[.int .i64 0, .int .i64 0, .slice none 0 0] 37)).alloc (.cells #[.int .i64 l[k].p.1, .int .i64 l[k].p.2.1, .slice l[k].a l[k].n l[k].c] 37) := ⟨_, rfl⟩
  have HX := hide (show BoxL V w.heap.size [.int .i64 0, .int .i64 0, .slice none 0 0] by rw [hV]; exact hx1)
  have HY := hide (show BoxL V (w.heap.size + 1) [.int .i64 l[k].p.1, .int .i64 l[k].p.2.1, .slice l[k].a l[k].n l[k].c] by rw [hV]; exact hx2)
  have HB := hide (show Below w.heap.size w V by rw [hV]; exact hx3)
  have HS := hide (show V.heap.size = w.heap.size + 2 by rw [hV]; exact hx4)
  have hlt := hN.1.2.2
  have HNV := hide (hN.below HB.out)
  clear hx1 hx2 hx3 hx4
  obtain ⟨⟨hc1, hc2, hc3⟩, a, n, c, hcell, hro, hne, hxs⟩ := hN
  have hn := hro.1.1
  have hnc := hro.1.2.1
  obtain ⟨g, off, rfl⟩ := hro.isAt (by omega)
  obtain ⟨b', off', har, y0, y1, y2⟩ := hro.1.at hk
  simp only [Option.some.injEq, Addr.mk.injEq] at har
  obtain ⟨rfl, rfl, _⟩ := har
  have hgcb : g ≠ cb := hne _ rfl
  obtain ⟨hroom, _⟩ := hro.room
  have hgl : g < w.heap.size := hlt g (hro.1.2.2.2.2.1 _ rfl)
  have hcl : cb < w.heap.size := hlt cb hc1
  have hVc : V.cell? ⟨cb, 0, none⟩ = some (.slice (some ⟨g, off, none⟩) n c) := keep_cell hcell HB.out
  have hroV : RowO D V (some ⟨g, off, none⟩) n c l := hro.keep hlt (fun q _ hq => HB.out.block q hq)
  have hVf : V.frozen? ⟨cb, 0, none⟩ = false := by rw [keep_frozen hcell HB.out]; exact hc2
  obtain ⟨hroomV, _⟩ := hroV.room
  obtain ⟨X1, hX1⟩ : ∃ X1, X1 = V.drew.setCells g (off + 3) (cV (l.take k)) := ⟨_, rfl⟩
  have hcs : (cV (l.take k)).length = k * 3 := by rw [cV_len, List.length_take]; omega
  have hrun := run_copy3 V.drew 3 g (off + 3) (at1 g off c) k (c - 1) c ⟨g, off, none⟩ (cV (l.take k)) hcs (fun h0 => by unfold at1; rw [if_neg (by omega)])
    (fun j v hv => by
      rw [add_none]
      refine hroV.cells j v ?_
      have e2 : cV l = cV (l.take k) ++ cV (l.drop k) := by rw [← cV_app, List.take_append_drop]
      rw [e2, List.getElem?_append_left (List.getElem?_eq_some_iff.1 hv).1]; exact hv)
    (fun j hj => by have := hroomV (3 + j) (by omega); rw [← Nat.add_assoc] at this; exact this.1) (fun j hj => by have := hroomV (3 + j) (by omega); rw [← Nat.add_assoc] at this; exact this.2) (cV_one _)
  rw [← hX1] at hrun
  obtain ⟨m1, m2, m3, m4, m5⟩ := net_take (w := V.drew) (k := k) (l := l) ⟨hc1, hVf, fun q hq => HNV.out.1.2.2 q hq⟩ hVc hroV hgcb hxs (by omega) _ rfl
  rw [← hX1] at m1 m2 m3 m4 m5
  have hX1b : ∀ q, q ≠ g → X1.heap[q]? = V.heap[q]? := fun q hq => by rw [hX1]; exact heap_setCells g _ _ _ q hq
  have hX1s : X1.heap.size = V.heap.size := by rw [hX1]; exact size_setCells g _ _ _
  have hX1c : X1.cell? ⟨cb, 0, none⟩ = some (.slice (some ⟨g, off, none⟩) n c) := by rw [World.cell?_of_block (w := V) (a := ⟨cb, 0, none⟩) (hX1b cb (fun e => hgcb e.symm))]; exact hVc
  have hX1r : ∀ j, j < 3 → (X1.cell? ⟨g, off + j, none⟩).isSome = true ∧ X1.frozen? ⟨g, off + j, none⟩ = false := fun j hj => by
    rw [hX1, World.frozen?_setCells, World.cell?_setCells_out g _ (off + 3) _ ⟨g, off + j, none⟩ (fun _ _ => by simp; omega)]
    exact hroomV j (by omega)
  obtain ⟨r0, r0'⟩ := hX1r 0 (by omega)
  obtain ⟨r1, r1'⟩ := hX1r 1 (by omega)
  obtain ⟨r2, r2'⟩ := hX1r 2 (by omega)
  rw [Nat.add_zero] at r0 r0'
  obtain ⟨o0, r0⟩ := Option.isSome_iff_exists.1 r0
  obtain ⟨o1, r1⟩ := Option.isSome_iff_exists.1 r1
  obtain ⟨o2, r2⟩ := Option.isSome_iff_exists.1 r2
  have HM3 := hide m3
  have HM4 := hide m4
  have HM5 := hide (m5 l[k] (List.getElem_mem _))
  have kq := fun W => slice_to W (some ⟨g, off, none⟩) n c k (by omega)
  have km := fun W => slice_mid W g off n c k (by omega)
  have kf := fun W => slice_from1 W g off n c (by omega)
  have wq : IntKind.i64.wrap ((k : Int) + 1) = (k : Int) + 1 := wrapi (by omega)
  obtain ⟨⟨⟨f, t, bs⟩, xa, xn, xc⟩, hx⟩ : ∃ x, x = l[k] := ⟨_, rfl⟩
  rw [← hx] at y0 y1 y2 HY HM5 hV ⊢
  simp only at y0 y1 y2 HY hV
  have HV := hide hV
  have hVd : V.drew.cell? ⟨cb, 0, none⟩ = some (.slice (some ⟨g, off, none⟩) n c) := hVc
  clear hx hV m3 m4 m5 hX1 hroV hro hroom hroomV hX1r hne hxs hcs
  unfold TakePost
  go_enter Try.func26, Try.ntmps26
  go_upto_region 2 with fail
  rw [← HV.out]
  refine wp_region_noPanic ?_
  refine wp_region_held_drew (S := fun W => W.cell? ⟨cb, 0, none⟩ = some (.slice (some ⟨g, off, none⟩) n c)) (by kernel_rfl) (by first | exact hVd | exact hX1c) (fun hHeld => ?_)
  refine takeD (i := 0) (d := some 13) (v := ?_) rfl rfl (by kernel_rfl) (by kernel_rfl) (by kernel_rfl) (fun _ _ _ h => h) (Or.inl ⟨by rfl, ?_⟩) (by assumption) ?_
  rotate_left
  · intro w hSw
    go_simp
    try (with_reducible rfl)
  try simp only [Act.put, List.setIfInBounds_toArray, List.set_cons_zero, List.set_cons_succ]
  refine takeD (i := 1) (d := some 14) (v := ?_) rfl rfl (by kernel_rfl) (by kernel_rfl) (by kernel_rfl) (fun _ _ _ h => h) (Or.inl ⟨by rfl, ?_⟩) (by assumption) ?_
  rotate_left
  · intro w hSw
    go_simp
    try (with_reducible rfl)
  try simp only [Act.put, List.setIfInBounds_toArray, List.set_cons_zero, List.set_cons_succ]
  refine takeD (i := 2) (d := some 15) (v := ?_) rfl rfl (by kernel_rfl) (by kernel_rfl) (by kernel_rfl) (fun _ _ _ h => h) (Or.inl ⟨by rfl, ?_⟩) (by assumption) ?_
  rotate_left
  · intro w hSw
    go_simp
    try (with_reducible rfl)
  try simp only [Act.put, List.setIfInBounds_toArray, List.set_cons_zero, List.set_cons_succ]
  refine takeD (i := 3) (d := some 16) (v := ?_) rfl rfl (by kernel_rfl) (by kernel_rfl) (by kernel_rfl) (fun _ _ _ h => h) (Or.inl ⟨by rfl, ?_⟩) (by assumption) ?_
  rotate_left
  · intro w hSw
    go_simp
    try (with_reducible rfl)
  try simp only [Act.put, List.setIfInBounds_toArray, List.set_cons_zero, List.set_cons_succ]
  refine takeD (i := 4) (d := some 17) (v := ?_) rfl rfl (by kernel_rfl) (by kernel_rfl) (by kernel_rfl) (fun _ _ _ h => h) (Or.inl ⟨by rfl, ?_⟩) (by assumption) ?_
  rotate_left
  · intro w hSw
    go_simp
    try (with_reducible rfl)
  try simp only [Act.put, List.setIfInBounds_toArray, List.set_cons_zero, List.set_cons_succ]
  refine takeD (i := 5) (d := some 18) (v := ?_) rfl rfl (by kernel_rfl) (by kernel_rfl) (by kernel_rfl) (fun _ _ _ h => h) (Or.inl ⟨by rfl, ?_⟩) (by assumption) ?_
  rotate_left
  · intro w hSw
    go_simp
    try (with_reducible rfl)
  try simp only [Act.put, List.setIfInBounds_toArray, List.set_cons_zero, List.set_cons_succ]
  refine takeD (i := 6) (d := some 19) (v := ?_) rfl rfl (by kernel_rfl) (by kernel_rfl) (by kernel_rfl) (fun _ _ _ h => h) (Or.inl ⟨by rfl, ?_⟩) (by assumption) ?_
  rotate_left
  · intro w hSw
    go_simp
    try (with_reducible rfl)
  try simp only [Act.put, List.setIfInBounds_toArray, List.set_cons_zero, List.set_cons_succ]
  refine takeD (i := 7) (d := some 20) (v := ?_) rfl rfl (by kernel_rfl) (by kernel_rfl) (by kernel_rfl) (fun _ _ _ h => h) (Or.inl ⟨by rfl, ?_⟩) (by assumption) ?_
  rotate_left
  · intro w hSw
    go_simp
    try (with_reducible rfl)
  try simp only [Act.put, List.setIfInBounds_toArray, List.set_cons_zero, List.set_cons_succ]
  refine takeD (i := 8) (d := some 21) (v := ?_) rfl rfl (by kernel_rfl) (by kernel_rfl) (by kernel_rfl) (fun _ _ _ h => h) (Or.inl ⟨by rfl, ?_⟩) (by assumption) ?_
  rotate_left
  · intro w hSw
    go_simp
    try (with_reducible rfl)
  try simp only [Act.put, List.setIfInBounds_toArray, List.set_cons_zero, List.set_cons_succ]
  refine takeD (i := 9) (d := some 22) (v := ?_) rfl rfl (by kernel_rfl) (by kernel_rfl) (by kernel_rfl) (fun _ _ _ h => h) (Or.inl ⟨by rfl, ?_⟩) (by assumption) ?_
  rotate_left
  · intro w hSw
    go_simp
    try (with_reducible rfl)
  try simp only [Act.put, List.setIfInBounds_toArray, List.set_cons_zero, List.set_cons_succ]
  refine takeD (i := 10) (d := some 23) (v := ?_) rfl rfl (by kernel_rfl) (by kernel_rfl) (by kernel_rfl) (fun _ _ _ h => h) (Or.inl ⟨by rfl, ?_⟩) (by assumption) ?_
  rotate_left
  · intro w hSw
    go_simp
    try (with_reducible rfl)
  try simp only [Act.put, List.setIfInBounds_toArray, List.set_cons_zero, List.set_cons_succ]
  refine takeD (i := 11) (d := some 24) (v := ?_) rfl rfl (by kernel_rfl) (by kernel_rfl) (by kernel_rfl) (fun _ _ _ h => h) (Or.inl ⟨by rfl, ?_⟩) (by assumption) ?_
  rotate_left
  · intro w hSw
    go_simp
    try (with_reducible rfl)
  try simp only [Act.put, List.setIfInBounds_toArray, List.set_cons_zero, List.set_cons_succ]
  refine takeD (i := 12) (d := some 25) (v := ?_) rfl rfl (by kernel_rfl) (by kernel_rfl) (by kernel_rfl) (fun _ _ _ h => h) (Or.inl ⟨by rfl, ?_⟩) (by assumption) ?_
  rotate_left
  · intro w hSw
    go_simp
    try (with_reducible rfl)
  try simp only [Act.put, List.setIfInBounds_toArray, List.set_cons_zero, List.set_cons_succ]
  refine wpAnyH_ready (rs := [13]) (by kernel_rfl) (by simp) ?_
  refine AllReadyH.cons rfl (fun K hK => ?_) AllReadyH.nil
  refine Lib.wp_copy_run _ (.tmp 19) (.tmp 25) 28 28 rfl _ _ rfl rfl hrun ?_
  refine hK.out _ _ (by first | exact hVd | exact hX1c) (fun hHeld => ?_)
  clear hK K
  try simp only [Act.put, List.setIfInBounds_toArray, List.set_cons_zero, List.set_cons_succ]
  refine wpAnyH_done (by kernel_rfl) ?_ _
  refine NoPanic.normal ?_
  have HXX := hide (BoxL.keep (w' := (put3 X1 g off (.int .i64 0) (.int .i64 0) (.slice none 0 0)).setCell ⟨cb, 0, none⟩ (.slice (some (at1 g off c)) (n - 1) (c - 1))) HX.out (by simp only [World.setCell, Array.size_modify]; rw [put3_size]; omega) (by rw [Below.heap_setCell _ _ _ _ (by show w.heap.size ≠ cb; omega), put3_keep (by omega), hX1b _ (by omega)]))
  have HYY := hide (BoxL.keep (w' := (put3 X1 g off (.int .i64 0) (.int .i64 0) (.slice none 0 0)).setCell ⟨cb, 0, none⟩ (.slice (some (at1 g off c)) (n - 1) (c - 1))) HY.out (by simp only [World.setCell, Array.size_modify]; rw [put3_size]; omega) (by rw [Below.heap_setCell _ _ _ _ (by show w.heap.size + 1 ≠ cb; omega), put3_keep (by omega), hX1b _ (by omega)]))
  go_upto_region 4 with fail
  have e3 : ((X1.setCell ⟨g, off, none⟩ (.int .i64 0)).setCell ⟨g, off + 1, none⟩ (.int .i64 0)).setCell ⟨g, off + 2, none⟩ (.slice none 0 0) = put3 X1 g off (.int .i64 0) (.int .i64 0) (.slice none 0 0) := rfl
  rw [e3]
  generalize put3 X1 g off (.int .i64 0) (.int .i64 0) (.slice none 0 0) = X2 at m1 m2 HM3 HM4 HM5 HXX HYY ⊢
  clear e3 r0 r1 r2 r0' r1' r2' hX1c hX1b hX1s hrun
  go_upto_region 5 with fail
  generalize X2.setCell ⟨cb, 0, none⟩ (.slice (some (at1 g off c)) (n - 1) (c - 1)) = X3 at HM3 HM4 HM5 HXX HYY ⊢
  obtain ⟨k0, k1, k2⟩ := HYY.out.c3
  obtain ⟨e0, e1, e2⟩ := HXX.out.c3
  obtain ⟨g0, g1, g2⟩ := HXX.out.f3
  have HF := hide (put3_box HXX.out (.int .i64 f) (.int .i64 t) (.slice xa xn xc))
  have hDr : ¬ D w.heap.size := fun e => by have := hlt _ e; omega
  have HN9 := hide (HM3.out.keep (w' := put3 X3 w.heap.size 0 (.int .i64 f) (.int .i64 t) (.slice xa xn xc)) (by rw [put3_size]; exact Nat.le_refl _) (fun q h1 _ => put3_keep (by intro e; subst e; exact hDr h1) _ _ _))
  have HO9 := hide (HM5.out.keep (w' := put3 X3 w.heap.size 0 (.int .i64 f) (.int .i64 t) (.slice xa xn xc)) (fun q h1 _ => put3_keep (by intro e; subst e; exact hDr h1) _ _ _))
  have hsz3 := HM4.out.size
  have HK9 := hide (show Kp D w (put3 X3 w.heap.size 0 (.int .i64 f) (.int .i64 t) (.slice xa xn xc)) from ((((Kp.of_below HB.out).drew.trans HM4.out).put (.inr (Nat.le_refl _)) _).put (.inr (Nat.le_refl _)) _).put (.inr (Nat.le_refl _)) _)
  clear hsz3
  go_wp2
  obtain ⟨X4, hX4⟩ : ∃ X4, X4 = put3 X3 w.heap.size 0 (.int .i64 f) (.int .i64 t) (.slice xa xn xc) := ⟨_, rfl⟩
  rw [← hX4] at HF HN9 HO9 HK9
  unfold put3 at hX4
  rw [← hX4]
  clear hX4
  obtain ⟨x0, x1, x2⟩ := HF.out.c3
  exact bodyPost_ret (v := .agg #[.int .i64 f, .int .i64 t, .slice xa xn xc]) (by simp [results, Try.results26, go_sem, x0, x1, x2]) rfl ⟨rfl, HN9.out, HK9.out, HO9.out⟩

end Go.Proofs.Ytmjglgdihlomlaa
