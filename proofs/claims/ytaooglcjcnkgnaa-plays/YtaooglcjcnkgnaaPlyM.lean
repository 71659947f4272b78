/- Two deques and the document's one, side by side. -/
import Derived.Test.YtaooglcjcnkgnaaRit
import Derived.Test.YtaooglcjcnkgnaaArg
namespace Go.Proofs.Ytaooglcjcnkgnaa
open Go.RowKit Go.ChangeShapes Go.WideShapes Go.ChangeAt Go.Deep

/-- No block is in two of them. -/
def Dis (cb g ob og qb rr rg : Nat) : Prop :=
  cb ≠ ob ∧ cb ≠ og ∧ g ≠ ob ∧ g ≠ og ∧ cb ≠ qb ∧ cb ≠ rr ∧ cb ≠ rg ∧ g ≠ qb ∧ g ≠ rr ∧ g ≠ rg ∧ ob ≠ qb ∧ ob ≠ rr ∧ ob ≠ rg ∧ og ≠ qb ∧ og ≠ rr ∧ og ≠ rg

def Low (B cb g ob og qb rr rg : Nat) : Prop := B ≤ cb ∧ B ≤ g ∧ B ≤ ob ∧ B ≤ og ∧ B ≤ qb ∧ B ≤ rr ∧ B ≤ rg
def Far (ab cb g ob og qb rr rg : Nat) : Prop := ab ≠ cb ∧ ab ≠ g ∧ ab ≠ ob ∧ ab ≠ og ∧ ab ≠ qb ∧ ab ≠ rr ∧ ab ≠ rg

/-- The three, and a box beside them. -/
def Tb (w : World) (cb ob qb ab : Nat) (xs : List Value) (wr : World) (qd qr qo : Dq) : Prop :=
  ∃ g og rr rg, Below w.heap.size w wr ∧ DqM wr cb g qd ∧ DqM wr ob og qo ∧ RQ wr qb rr rg qr ∧ BoxL wr ab xs ∧ w.heap.size ≤ ab ∧ Low w.heap.size cb g ob og qb rr rg ∧ Dis cb g ob og qb rr rg ∧ Far ab cb g ob og qb rr rg

/-- The three alone. -/
def T0 (w : World) (cb ob qb : Nat) (wr : World) (qd qr qo : Dq) : Prop :=
  ∃ g og rr rg, Below w.heap.size w wr ∧ DqM wr cb g qd ∧ DqM wr ob og qo ∧ RQ wr qb rr rg qr ∧ Low w.heap.size cb g ob og qb rr rg ∧ Dis cb g ob og qb rr rg

theorem Tb.t0 {w wr : World} {cb ob qb ab : Nat} {xs : List Value} {qd qr qo : Dq} (h : Tb w cb ob qb ab xs wr qd qr qo) : T0 w cb ob qb wr qd qr qo := by
  obtain ⟨g, og, rr, rg, h1, h2, h3, h4, h5, h6, h7, h8, h9⟩ := h
  exact ⟨g, og, rr, rg, h1, h2, h3, h4, h7, h8⟩

theorem T0.bel {w wr : World} {cb ob qb : Nat} {qd qr qo : Dq} (h : T0 w cb ob qb wr qd qr qo) : Below w.heap.size w wr := by
  obtain ⟨g, og, rr, rg, h1, _⟩ := h
  exact h1

theorem T0.box {w wr V : World} {cb ob qb : Nat} {qd qr qo : Dq} (h : T0 w cb ob qb wr qd qr qo) {xs : List Value} {t : TypeId} (hV : V = wr.alloc (.cells xs.toArray t)) : Tb w cb ob qb wr.heap.size xs V qd qr qo := by
  subst hV
  obtain ⟨g, og, rr, rg, h1, h2, h3, h4, h5, h6⟩ := h
  have hb := below_new wr (.cells xs.toArray t)
  have l2 := h2.lt
  have l3 := h3.lt
  have l4 := h4.lt
  refine ⟨g, og, rr, rg, h1.trans (hb.mono h1.size), h2.below hb, h3.below hb, h4.below hb, BoxL.new _ _ _, h1.size, h5, h6, ?_⟩
  unfold Far
  omega

theorem Tb.below {w wr w' : World} {cb ob qb ab : Nat} {xs : List Value} {qd qr qo : Dq} (h : Tb w cb ob qb ab xs wr qd qr qo) (hb : Below wr.heap.size wr w') : Tb w cb ob qb ab xs w' qd qr qo := by
  obtain ⟨g, og, rr, rg, h1, h2, h3, h4, h5, h6⟩ := h
  exact ⟨g, og, rr, rg, h1.trans (hb.mono h1.size), h2.below hb, h3.below hb, h4.below hb, h5.below hb, h6⟩

theorem Tb.bx {w wr : World} {cb ob qb ab : Nat} {xs : List Value} {qd qr qo : Dq} (h : Tb w cb ob qb ab xs wr qd qr qo) : BoxL wr ab xs := by
  obtain ⟨g, og, rr, rg, h1, h2, h3, h4, h5, h6⟩ := h
  exact h5

theorem ne_new {g g' S x : Nat} (hg : g' = g ∨ S ≤ g') (h : g ≠ x) (hl : x < S) : g' ≠ x := by
  rcases hg with rfl | hg
  · exact h
  · omega
theorem le_new {g g' S B : Nat} (hg : g' = g ∨ S ≤ g') (h : B ≤ g) (hl : B ≤ S) : B ≤ g' := by
  rcases hg with rfl | hg
  · exact h
  · omega

/-- The first one turned. -/
theorem Tb.d {w wr w' : World} {cb ob qb ab : Nat} {xs : List Value} {qd qd' qr qo : Dq} {g og rr rg g' : Nat} (h1 : Below w.heap.size w wr) (h2 : DqM wr cb g qd) (h3 : DqM wr ob og qo) (h4 : RQ wr qb rr rg qr) (h5 : BoxL wr ab xs) (h6 : w.heap.size ≤ ab) (h7 : Low w.heap.size cb g ob og qb rr rg) (h8 : Dis cb g ob og qb rr rg) (h9 : Far ab cb g ob og qb rr rg)
    (hM : DqM w' cb g' qd') (hW : Wr cb g wr w') (hg : g' = g ∨ wr.heap.size ≤ g') : Tb w cb ob qb ab xs w' qd' qr qo := by
  have l2 := h2.lt
  have l3 := h3.lt
  have l4 := h4.lt
  have l5 := h5.1
  have l1 := h1.size
  obtain ⟨w1, w2, w3, w4, w5, w6, w7⟩ := h7
  obtain ⟨d1, d2, d3, d4, d5, d6, d7, d8, d9, d10, d11, d12, d13, d14, d15, d16⟩ := h8
  obtain ⟨f1, f2, f3, f4, f5, f6, f7⟩ := h9
  refine ⟨g', og, rr, rg, below_wr h1 l1 hW w1 w2, hM, h3.wr hW d1.symm d3.symm d2.symm d4.symm, h4.wr hW d5.symm d8.symm d6.symm d9.symm d7.symm d10.symm, h5.wr hW f1 f2, h6, ⟨w1, le_new hg w2 l1, w3, w4, w5, w6, w7⟩, ⟨d1, d2, ne_new hg d3 l3.1, ne_new hg d4 l3.2, d5, d6, d7, ne_new hg d8 l4.1, ne_new hg d9 l4.2.1, ne_new hg d10 l4.2.2, d11, d12, d13, d14, d15, d16⟩, ⟨f1, (ne_new hg f2.symm l5).symm, f3, f4, f5, f6, f7⟩⟩

theorem Tb.o {w wr w' : World} {cb ob qb ab : Nat} {xs : List Value} {qd qr qo qo' : Dq} {g og rr rg g' : Nat} (h1 : Below w.heap.size w wr) (h2 : DqM wr cb g qd) (h3 : DqM wr ob og qo) (h4 : RQ wr qb rr rg qr) (h5 : BoxL wr ab xs) (h6 : w.heap.size ≤ ab) (h7 : Low w.heap.size cb g ob og qb rr rg) (h8 : Dis cb g ob og qb rr rg) (h9 : Far ab cb g ob og qb rr rg)
    (hM : DqM w' ob g' qo') (hW : Wr ob og wr w') (hg : g' = og ∨ wr.heap.size ≤ g') : Tb w cb ob qb ab xs w' qd qr qo' := by
  have l2 := h2.lt
  have l3 := h3.lt
  have l4 := h4.lt
  have l5 := h5.1
  have l1 := h1.size
  obtain ⟨w1, w2, w3, w4, w5, w6, w7⟩ := h7
  obtain ⟨d1, d2, d3, d4, d5, d6, d7, d8, d9, d10, d11, d12, d13, d14, d15, d16⟩ := h8
  obtain ⟨f1, f2, f3, f4, f5, f6, f7⟩ := h9
  refine ⟨g, g', rr, rg, below_wr h1 l1 hW w3 w4, h2.wr hW d1 d2 d3 d4, hM, h4.wr hW d11.symm d14.symm d12.symm d15.symm d13.symm d16.symm, h5.wr hW f3 f4, h6, ⟨w1, w2, w3, le_new hg w4 l1, w5, w6, w7⟩, ⟨d1, (ne_new hg d2.symm l2.1).symm, d3, (ne_new hg d4.symm l2.2).symm, d5, d6, d7, d8, d9, d10, d11, d12, d13, ne_new hg d14 l4.1, ne_new hg d15 l4.2.1, ne_new hg d16 l4.2.2⟩, ⟨f1, f2, f3, (ne_new hg f4.symm l5).symm, f5, f6, f7⟩⟩

theorem Tb.r {w wr w' : World} {cb ob qb ab : Nat} {xs : List Value} {qd qr qr' qo : Dq} {g og rr rg rr' rg' : Nat} (h1 : Below w.heap.size w wr) (h2 : DqM wr cb g qd) (h3 : DqM wr ob og qo) (h4 : RQ wr qb rr rg qr) (h5 : BoxL wr ab xs) (h6 : w.heap.size ≤ ab) (h7 : Low w.heap.size cb g ob og qb rr rg) (h8 : Dis cb g ob og qb rr rg) (h9 : Far ab cb g ob og qb rr rg)
    (hM : RQ w' qb rr' rg' qr') (hW : Wr qb rg wr w') (hmv : Mv rr rg rr' rg' wr) : Tb w cb ob qb ab xs w' qd qr' qo := by
  have l2 := h2.lt
  have l3 := h3.lt
  have l4 := h4.lt
  have l5 := h5.1
  have l1 := h1.size
  obtain ⟨w1, w2, w3, w4, w5, w6, w7⟩ := h7
  obtain ⟨d1, d2, d3, d4, d5, d6, d7, d8, d9, d10, d11, d12, d13, d14, d15, d16⟩ := h8
  obtain ⟨f1, f2, f3, f4, f5, f6, f7⟩ := h9
  have hr : rr' = rr ∨ wr.heap.size ≤ rr' := hmv.elim (fun h => .inl h.1) (fun h => .inr h.1)
  have hg : rg' = rg ∨ wr.heap.size ≤ rg' := hmv.elim (fun h => .inl h.2) (fun h => .inr h.2)
  refine ⟨g, og, rr', rg', below_wr h1 l1 hW w5 w7, h2.wr hW d5 d7 d8 d10, h3.wr hW d11 d13 d14 d16, hM, h5.wr hW f5 f7, h6, ⟨w1, w2, w3, w4, w5, le_new hr w6 l1, le_new hg w7 l1⟩, ⟨d1, d2, d3, d4, d5, (ne_new hr d6.symm l2.1).symm, (ne_new hg d7.symm l2.1).symm, d8, (ne_new hr d9.symm l2.2).symm, (ne_new hg d10.symm l2.2).symm, d11, (ne_new hr d12.symm l3.1).symm, (ne_new hg d13.symm l3.1).symm, d14, (ne_new hr d15.symm l3.2).symm, (ne_new hg d16.symm l3.2).symm⟩, ⟨f1, f2, f3, f4, f5, (ne_new hr f6.symm l5).symm, (ne_new hg f7.symm l5).symm⟩⟩

section
variable {w wr : World} {cb ob qb ab : Nat} {xs : List Value} {qd qr qo : Dq}

theorem Tb.dbegin (h : Tb w cb ob qb ab xs wr qd qr qo) (who kind item : Int) : Calls Try.prog 13 #[.pointer (some ⟨cb, 0, none⟩), .int .i64 who, .int .i64 kind, .int .i64 item] wr fun e w' => e = .returned (.int .i64 (beginD qd who kind item).1) ∧ Tb w cb ob qb ab xs w' (beginD qd who kind item).2 qr qo := by
  obtain ⟨g, og, rr, rg, h1, h2, h3, h4, h5, h6, h7, h8, h9⟩ := h
  refine (begin_any wr cb g qd who kind item h2).mono ?_
  rintro e w' ⟨rfl, hM, hW⟩
  exact ⟨rfl, Tb.d h1 h2 h3 h4 h5 h6 h7 h8 h9 hM hW (.inl rfl)⟩

theorem Tb.dstep (h : Tb w cb ob qb ab xs wr qd qr qo) (hs : Sml 999999 qd) (who : Int) : Calls Try.prog 14 #[.pointer (some ⟨cb, 0, none⟩), .int .i64 who] wr fun e w' => e = .returned (.tuple #[.int .i64 (stepD qd who).1, .int .i64 (stepD qd who).2.1]) ∧ Tb w cb ob qb ab xs w' (stepD qd who).2.2 qr qo := by
  obtain ⟨g, og, rr, rg, h1, h2, h3, h4, h5, h6, h7, h8, h9⟩ := h
  refine (step_any wr cb g qd who h2 hs).mono ?_
  rintro e w' ⟨rfl, g', hM, hW, hg⟩
  exact ⟨rfl, Tb.d h1 h2 h3 h4 h5 h6 h7 h8 h9 hM hW hg⟩

theorem Tb.obegin (h : Tb w cb ob qb ab xs wr qd qr qo) (who kind item : Int) : Calls Try.prog 13 #[.pointer (some ⟨ob, 0, none⟩), .int .i64 who, .int .i64 kind, .int .i64 item] wr fun e w' => (∃ x, e = .returned (.int .i64 x)) ∧ Tb w cb ob qb ab xs w' qd qr (beginD qo who kind item).2 := by
  obtain ⟨g, og, rr, rg, h1, h2, h3, h4, h5, h6, h7, h8, h9⟩ := h
  refine (begin_any wr ob og qo who kind item h3).mono ?_
  rintro e w' ⟨rfl, hM, hW⟩
  exact ⟨⟨_, rfl⟩, Tb.o h1 h2 h3 h4 h5 h6 h7 h8 h9 hM hW (.inl rfl)⟩

theorem Tb.ostep (h : Tb w cb ob qb ab xs wr qd qr qo) (hs : Sml 999999 qo) (who : Int) : Calls Try.prog 14 #[.pointer (some ⟨ob, 0, none⟩), .int .i64 who] wr fun e w' => (∃ x y, e = .returned (.tuple #[.int .i64 x, .int .i64 y])) ∧ Tb w cb ob qb ab xs w' qd qr (stepD qo who).2.2 := by
  obtain ⟨g, og, rr, rg, h1, h2, h3, h4, h5, h6, h7, h8, h9⟩ := h
  refine (step_any wr ob og qo who h3 hs).mono ?_
  rintro e w' ⟨rfl, g', hM, hW, hg⟩
  exact ⟨⟨_, _, rfl⟩, Tb.o h1 h2 h3 h4 h5 h6 h7 h8 h9 hM hW hg⟩

theorem Tb.rbegin (h : Tb w cb ob qb ab xs wr qd qr qo) (who kind item : Int) : Calls Try.prog 16 #[.pointer (some ⟨qb, 0, none⟩), .int .i64 who, .int .i64 kind, .int .i64 item] wr fun e w' => e = .returned (.int .i64 (beginD qr who kind item).1) ∧ Tb w cb ob qb ab xs w' qd (beginD qr who kind item).2 qo := by
  obtain ⟨g, og, rr, rg, h1, h2, h3, h4, h5, h6, h7, h8, h9⟩ := h
  refine (rbegin_any wr qb rr rg qr who kind item h4).mono ?_
  rintro e w' ⟨rfl, hM, hW⟩
  exact ⟨rfl, Tb.r h1 h2 h3 h4 h5 h6 h7 h8 h9 hM hW (.inl ⟨rfl, rfl⟩)⟩

theorem Tb.rstep (h : Tb w cb ob qb ab xs wr qd qr qo) (hs : Sml 999999 qr) (hw : Wf qr) (who : Int) : Calls Try.prog 17 #[.pointer (some ⟨qb, 0, none⟩), .int .i64 who] wr fun e w' => e = .returned (.tuple #[.int .i64 (stepD qr who).1, .int .i64 (stepD qr who).2.1]) ∧ Tb w cb ob qb ab xs w' qd (stepD qr who).2.2 qo := by
  obtain ⟨g, og, rr, rg, h1, h2, h3, h4, h5, h6, h7, h8, h9⟩ := h
  refine (rstep_any wr qb rr rg qr who h4 hs hw).mono ?_
  rintro e w' ⟨rfl, rr', rg', hM, hW, hg⟩
  exact ⟨rfl, Tb.r h1 h2 h3 h4 h5 h6 h7 h8 h9 hM hW hg⟩

theorem Tb.dbusy (h : Tb w cb ob qb ab xs wr qd qr qo) (who : Int) : Calls Try.prog 18 #[.pointer (some ⟨cb, 0, none⟩), .int .i64 who] wr fun e w' => e = .returned (.bool (busyD qd who)) ∧ w' = wr := by
  obtain ⟨g, og, rr, rg, h1, h2, h3, h4, h5, h6, h7, h8, h9⟩ := h
  exact busy_any wr cb g qd who h2

theorem Tb.rbusy (h : Tb w cb ob qb ab xs wr qd qr qo) (who : Int) : Calls Try.prog 19 #[.pointer (some ⟨qb, 0, none⟩), .int .i64 who] wr fun e w' => e = .returned (.bool (busyD qr who)) ∧ w' = wr := by
  obtain ⟨g, og, rr, rg, h1, h2, h3, h4, h5, h6, h7, h8, h9⟩ := h
  exact rbusy_any wr qb rr rg qr who h4

/-- A row that is read. -/
def Rw (w : World) (v : Value) (xs : List Int) : Prop := ∃ a c, v = .slice a xs.length c ∧ Reads w a (iV xs)

theorem Tb.ditems (h : Tb w cb ob qb ab xs wr qd qr qo) (hs : Sml 400000 qd) : Calls Try.prog 21 #[.pointer (some ⟨cb, 0, none⟩)] wr fun e w' => ∃ a c, e = .returned (.slice a (itemsD qd).length c) ∧ Reads w' a (iV (itemsD qd)) ∧ Below wr.heap.size wr w' ∧ Tb w cb ob qb ab xs w' qd qr qo := by
  have h' := h
  obtain ⟨g, og, rr, rg, h1, h2, h3, h4, h5, h6, h7, h8, h9⟩ := h
  refine (items_any wr cb g qd h2 hs).mono ?_
  rintro e w' ⟨a, n, c, rfl, rfl, ho, hb⟩
  obtain ⟨a6, c6, e6, _, hr, _, _⟩ := own_reads ho
  simp only [Value.slice.injEq, true_and] at e6
  obtain ⟨rfl, rfl⟩ := e6
  exact ⟨a, c, rfl, hr, hb, h'.below hb⟩

theorem Tb.ritems (h : Tb w cb ob qb ab xs wr qd qr qo) (hs : Sml 400000 qr) : Calls Try.prog 22 #[.pointer (some ⟨qb, 0, none⟩)] wr fun e w' => ∃ a c, e = .returned (.slice a (itemsD qr).length c) ∧ Reads w' a (iV (itemsD qr)) ∧ Below wr.heap.size wr w' ∧ Tb w cb ob qb ab xs w' qd qr qo := by
  have h' := h
  obtain ⟨g, og, rr, rg, h1, h2, h3, h4, h5, h6, h7, h8, h9⟩ := h
  refine (ritems_any wr qb rr rg qr h4 hs).mono ?_
  rintro e w' ⟨a, n, c, rfl, rfl, ho, hb⟩
  obtain ⟨a6, c6, e6, _, hr, _, _⟩ := own_reads ho
  simp only [Value.slice.injEq, true_and] at e6
  obtain ⟨rfl, rfl⟩ := e6
  exact ⟨a, c, rfl, hr, hb, h'.below hb⟩
end

theorem T0.start {w w1 : World} (hb1 : Below w.heap.size w w1) : Calls Try.prog 11 #[] w1 fun e w2 => ∃ cb, e = .returned (.pointer (some ⟨cb, 0, none⟩)) ∧ Calls Try.prog 11 #[] w2 fun e w3 => ∃ ob, e = .returned (.pointer (some ⟨ob, 0, none⟩)) ∧ Calls Try.prog 12 #[] w3 fun e w4 => ∃ qb, e = .returned (.pointer (some ⟨qb, 0, none⟩)) ∧ T0 w cb ob qb w4 Dq.zero Dq.zero Dq.zero := by
  refine (newD_any w1).mono ?_
  rintro e w2 ⟨cb, g, rfl, hM, c1, c2, hb2⟩
  refine ⟨cb, rfl, (newD_any w2).mono ?_⟩
  rintro e w3 ⟨ob, og, rfl, hO, o1, o2, hb3⟩
  refine ⟨ob, rfl, (newR_any w3).mono ?_⟩
  rintro e w4 ⟨qb, rr, rg, rfl, hR, r1, r2, r3, hb4⟩
  have l2 := hM.lt
  have l3 := hO.lt
  have b1 := hb1.size
  have b2 := hb2.size
  have b3 := hb3.size
  refine ⟨qb, rfl, g, og, rr, rg, ((hb1.trans (hb2.mono b1)).trans (hb3.mono (by omega))).trans (hb4.mono (by omega)), (hM.below hb3).below hb4, hO.below hb4, hR, ?_, ?_⟩
  · unfold Low; omega
  · unfold Dis; omega
end Go.Proofs.Ytaooglcjcnkgnaa
