/- NetPlays: the state between two acts; an act laid in its box; the beginning. -/
import Derived.Test.YtmjglgdihlomlaaPlX
import Derived.Test.YtmjglgdihlomlaaBig
namespace Go.Proofs.Ytmjglgdihlomlaa
namespace netPlays
open Go.RowKit Go.ChangeShapes Go.WideShapes Go.ChangeAt Go.Deep

/-- The three nets between two acts. -/
def N (w0 w : World) (nb ob rb : Nat) (L : List Pc) : Prop := ∃ D1 D2 D3 : Nat → Prop, NetP D1 w nb L ∧ (∃ LO, NetP D2 w ob LO ∧ LO.length ≤ 10000) ∧ NetR D3 w rb L ∧ (∀ k, D1 k → ¬ D2 k) ∧ (∀ k, D1 k → ¬ D3 k) ∧ (∀ k, D2 k → ¬ D3 k) ∧ (∀ k, D1 k ∨ D2 k ∨ D3 k → w0.heap.size ≤ k) ∧ Below w0.heap.size w0 w
theorem G.nn {w0 w : World} {nb ob rb ab : Nat} {xs : List Value} {L : List Pc} (h : G w0 w nb ob rb ab xs L L) : N w0 w nb ob rb L := by
  obtain ⟨D1, D2, D3, h⟩ := h
  exact ⟨D1, D2, D3, h.n, h.o, h.r, h.d12, h.d13, h.d23, fun k hk => hk.elim (fun q => (h.e1 k q).1) fun q => q.elim (fun q => (h.e2 k q).1) fun q => (h.e3 k q).1, h.bel⟩
theorem N.bel {w0 w : World} {nb ob rb : Nat} {L : List Pc} (h : N w0 w nb ob rb L) : Below w0.heap.size w0 w := by
  obtain ⟨D1, D2, D3, _, _, _, _, _, _, _, h⟩ := h
  exact h
theorem n_box {w0 w w' : World} {nb ob rb : Nat} {L : List Pc} {xs : List Value} (h : N w0 w nb ob rb L) (hb : Below w.heap.size w w') (hx : BoxL w' w.heap.size xs) : G w0 w' nb ob rb w.heap.size xs L L := by
  obtain ⟨D1, D2, D3, h1, ⟨LO, h2, hl⟩, h3, h4, h5, h6, h7, h8⟩ := h
  exact ⟨D1, D2, D3, h1.below hb, ⟨LO, h2.below hb, hl⟩, h3.below hb, h4, h5, h6, fun k hk => ⟨h7 k (.inl hk), fun e => by have := h1.lt k hk; omega⟩, fun k hk => ⟨h7 k (.inr (.inl hk)), fun e => by have := h2.lt k hk; omega⟩, fun k hk => ⟨h7 k (.inr (.inr hk)), fun e => by have := h3.lt k hk; omega⟩, h8.size, hx, h8.trans (hb.mono h8.size)⟩
/-- The beginning. -/
theorem n_zero {w w2 w3 : World} {nb ob : Nat} (h2 : NetP (fun k => k = nb) w2 nb []) (hb2 : Below w.heap.size w w2) (hn : w.heap.size ≤ nb) (h3 : NetP (fun k => k = ob) w3 ob []) (hb3 : Below w2.heap.size w2 w3) (ho : w2.heap.size ≤ ob) (t : TypeId) : N w (w3.alloc (.cells #[.slice none 0 0] t)) nb ob w3.heap.size [] := by
  have hbn := below_new w3 (.cells #[.slice none 0 0] t)
  have hl2 := h2.lt nb rfl
  have hl3 := h3.lt ob rfl
  have s1 := hb2.size
  have s2 := hb3.size
  obtain ⟨l, e, hM⟩ := net_new w3 t
  obtain rfl : l = [] := List.map_eq_nil_iff.1 e
  exact ⟨fun k => k = nb, fun k => k = ob, fun k => k = w3.heap.size, (h2.below hb3).below hbn, ⟨[], h3.below hbn, Nat.zero_le _⟩, ⟨[], rfl, hM, List.Pairwise.nil, fun x hx => by cases hx⟩, fun k e1 e2 => by omega, fun k e1 e2 => by omega, fun k e1 e2 => by omega, fun k hk => by omega, (hb2.trans (hb3.mono s1)).trans (hbn.mono (by omega))⟩
/-- Five cells put into a new block. -/
def put5 (w : World) (g : Nat) (a b c d e : Value) : World := ((((w.setCell ⟨g, 0, none⟩ a).setCell ⟨g, 1, none⟩ b).setCell ⟨g, 2, none⟩ c).setCell ⟨g, 3, none⟩ d).setCell ⟨g, 4, none⟩ e
theorem put5_box {w : World} {g : Nat} {y0 y1 y2 y3 y4 : Value} (h : BoxL w g [y0, y1, y2, y3, y4]) (a b c d e : Value) : BoxL (put5 w g a b c d e) g [a, b, c, d, e] := by
  have c0 := (h.2 0 (by simp)).1
  have c1 := (h.2 1 (by simp)).1
  have c2 := (h.2 2 (by simp)).1
  have c3 := (h.2 3 (by simp)).1
  have c4 := (h.2 4 (by simp)).1
  have n : ∀ {i j : Nat}, i ≠ j → (⟨g, i, none⟩ : Addr) ≠ ⟨g, j, none⟩ := fun h e => h (congrArg Addr.off e)
  refine ⟨by unfold put5; simpa using h.1, fun j hj => ⟨?_, by unfold put5; simpa using (h.2 j hj).2⟩⟩
  unfold put5
  match j, hj with
  | 0, _ =>
    rw [World.cell?_setCell_other (h := n (by omega)), World.cell?_setCell_other (h := n (by omega)), World.cell?_setCell_other (h := n (by omega)), World.cell?_setCell_other (h := n (by omega))]
    exact World.cell?_setCell_same _ _ _ c0
  | 1, _ =>
    rw [World.cell?_setCell_other (h := n (by omega)), World.cell?_setCell_other (h := n (by omega)), World.cell?_setCell_other (h := n (by omega))]
    refine World.cell?_setCell_same (u := y1) _ _ _ ?_
    rw [World.cell?_setCell_other (h := n (by omega))]; exact c1
  | 2, _ =>
    rw [World.cell?_setCell_other (h := n (by omega)), World.cell?_setCell_other (h := n (by omega))]
    refine World.cell?_setCell_same (u := y2) _ _ _ ?_
    rw [World.cell?_setCell_other (h := n (by omega)), World.cell?_setCell_other (h := n (by omega))]; exact c2
  | 3, _ =>
    rw [World.cell?_setCell_other (h := n (by omega))]
    refine World.cell?_setCell_same (u := y3) _ _ _ ?_
    rw [World.cell?_setCell_other (h := n (by omega)), World.cell?_setCell_other (h := n (by omega)), World.cell?_setCell_other (h := n (by omega))]; exact c3
  | 4, _ =>
    refine World.cell?_setCell_same (u := y4) _ _ _ ?_
    rw [World.cell?_setCell_other (h := n (by omega)), World.cell?_setCell_other (h := n (by omega)), World.cell?_setCell_other (h := n (by omega)), World.cell?_setCell_other (h := n (by omega))]; exact c4
theorem put5_below {w : World} {B g : Nat} (hg : B ≤ g) (a b c d e : Value) : Below B w (put5 w g a b c d e) :=
  ((((below_put a hg).trans (below_put b hg)).trans (below_put c hg)).trans (below_put d hg)).trans (below_put e hg)
/-- An act laid in a new box. -/
theorem act_box (w : World) (t : TypeId) (y0 y1 y2 y3 y4 a b c d e : Value) : BoxL (put5 (w.alloc (.cells #[y0, y1, y2, y3, y4] t)) w.heap.size a b c d e) w.heap.size [a, b, c, d, e] ∧ Below w.heap.size w (put5 (w.alloc (.cells #[y0, y1, y2, y3, y4] t)) w.heap.size a b c d e) :=
  ⟨put5_box (BoxL.new w [y0, y1, y2, y3, y4] t) a b c d e, (below_new w _).trans (put5_below (Nat.le_refl _) a b c d e)⟩
/-- The state ahead of act i. -/
def S1 (w wr : World) (nb ob rb : Nat) : Prop := ∃ L, Ok L ∧ N w wr nb ob rb L
theorem ok0 : Ok [] := ⟨Nat.zero_le _, (fun p hp => by cases hp), fun p hp => by cases hp⟩
theorem G.cells {w0 w : World} {nb ob rb ab : Nat} {a b c d e : Value} {Ln Lr : List Pc} (h : G w0 w nb ob rb ab [a, b, c, d, e] Ln Lr) : w.cell? ⟨ab, 0, none⟩ = some a ∧ w.cell? ⟨ab, 1, none⟩ = some b ∧ w.cell? ⟨ab, 2, none⟩ = some c ∧ w.cell? ⟨ab, 3, none⟩ = some d ∧ w.cell? ⟨ab, 4, none⟩ = some e := by
  obtain ⟨D1, D2, D3, h⟩ := h
  exact ⟨(h.box.2 0 (by simp)).1, (h.box.2 1 (by simp)).1, (h.box.2 2 (by simp)).1, (h.box.2 3 (by simp)).1, (h.box.2 4 (by simp)).1⟩
theorem act_small {x : Am} (h : ¬ bigA x = true) : x.n ≤ 20 ∧ x.m ≤ 50 ∧ ∀ y ∈ x.l, y.n ≤ 200 := by
  unfold bigA at h
  rw [Bool.not_eq_true, Bool.or_eq_false_iff, Bool.or_eq_false_iff, decide_eq_false_iff_not, decide_eq_false_iff_not] at h
  refine ⟨by omega, by omega, fun y hy => ?_⟩
  have := List.any_eq_false.1 h.2 y hy
  simp only [decide_eq_true_eq] at this
  omega
theorem GX.le {w0 w : World} {nb ob rb ab : Nat} {xs : List Value} {L : List Pc} {B : Nat} (h : GX w0 w nb ob rb ab xs L B) : B ≤ w.heap.size := by
  obtain ⟨D1, D2, D3, _, _, _, _, h⟩ := h
  exact h
/-- The row whose bytes are turned, or none. -/
def XQ (B : Nat) (w : World) (a : Option Addr) (n c : Nat) (l : List Pm) : Prop := n = 0 ∨ ∃ b off, a = some ⟨b, off, none⟩ ∧ B ≤ b ∧ Xs B w b off n c l
theorem xq_of {B : Nat} {w : World} {a : Option Addr} {n c : Nat} {l : List Pm} (h : RowF B w a n c l) : XQ B w a n c l := by
  rcases Nat.eq_zero_or_pos n with h0 | h0
  · exact .inl h0
  · exact .inr (xs_of h h0)
theorem Xs.at {B : Nat} {w : World} {b off n c k : Nat} {l : List Pm} (h : Xs B w b off n c l) (hk : k < l.length) (y : Pm) (hy : y = l[k]) : w.cell? ⟨b, off + k * 3 + 2, none⟩ = some (.slice y.a y.n y.c) ∧ Xb B b w y := by
  subst hy
  exact ⟨h.2.2.2.1 k hk, h.2.2.2.2 _ (List.getElem_mem _)⟩
/-- The byte at a place, as the world has it. -/
def vOf (g j : Nat) (w : World) : Int := intOf ((w.cell? ⟨g, j, none⟩).getD undef)
theorem v_of {g j : Nat} {w : World} {v : Int} (h : w.cell? ⟨g, j, none⟩ = some (.int .u8 v)) : w.cell? ⟨g, j, none⟩ = some (.int .u8 (vOf g j w)) ∧ vOf g j w = v := by
  have : vOf g j w = v := by unfold vOf; rw [h]; rfl
  rw [this]
  exact ⟨h, rfl⟩
theorem v_put {g j : Nat} {w : World} {v : Int} (z : Int) (h : w.cell? ⟨g, j, none⟩ = some (.int .u8 v)) : (w.setCell ⟨g, j, none⟩ (.int .u8 z)).cell? ⟨g, j, none⟩ = some (.int .u8 (vOf g j (w.setCell ⟨g, j, none⟩ (.int .u8 z)))) := (v_of (World.cell?_setCell_same _ _ _ h)).1
/-- The end: what is on the way is what the document's net holds. -/
theorem n_end {w0 w : World} {nb ob rb : Nat} {L : List Pc} (h : N w0 w nb ob rb L) (ok : Ok L) : ∃ a2 n2 c2, w.cell? ⟨rb, 0, none⟩ = some (.slice a2 n2 c2) ∧ Calls Try.prog 22 #[.pointer (some ⟨nb, 0, none⟩)] w fun e w' => ∃ a n c, e = .returned (.slice a n c) ∧ w'.cell? ⟨rb, 0, none⟩ = some (.slice a2 n2 c2) ∧ Calls Try.prog 14 #[.slice a n c, .slice a2 n2 c2] w' fun e w'' => e = .returned (.bool true) ∧ w''.cell? ⟨rb, 0, none⟩ = some (.slice a2 n2 c2) ∧ Below w0.heap.size w0 w'' := by
  obtain ⟨D1, D2, D3, h1, _, ⟨l2, e2, hM, _⟩, _, _, _, _, h8⟩ := h
  obtain ⟨-, a2, n2, c2, hc, hO, -⟩ := hM
  refine ⟨a2, n2, c2, hc, (way_any D1 w nb L h1 (by have := ok.len; omega) ok.sz).mono ?_⟩
  rintro e w' ⟨a, n, c, l, rfl, hR, hl, hb⟩
  have hc' := keep_cell hc hb
  refine ⟨a, n, c, rfl, hc', (same_yes _ D3 w' a a2 n c n2 c2 l l2 hR.1.1.weak (hO.1.weak.below hb) (by rw [hl, e2]) ?_).mono ?_⟩
  · have h3 := hR.1.1.1
    have h4 := congrArg List.length hl
    have h5 := ok.len
    rw [List.length_map] at h4
    omega
  · rintro e w'' ⟨rfl, hb2⟩
    exact ⟨rfl, keep_cell hc' hb2, (h8.trans (hb.mono h8.size)).trans (hb2.mono (Nat.le_trans h8.size hb.size))⟩
theorem N.drew {w0 w : World} {nb ob rb : Nat} {L : List Pc} (h : N w0 w nb ob rb L) : N w0 w.drew nb ob rb L := by
  obtain ⟨D1, D2, D3, h1, ⟨LO, h2, hl⟩, h3, h4, h5, h6, h7, h8⟩ := h
  have hb : Below w.heap.size w w.drew := (Below.refl _ _).drew
  exact ⟨D1, D2, D3, h1.below hb, ⟨LO, h2.below hb, hl⟩, h3.below hb, h4, h5, h6, h7, h8.trans (hb.mono h8.size)⟩
theorem in64_wf {ns : List Int} (h : In64 ns) : ∀ v ∈ ns, (Lit.int .i64 v).wf = true := fun v hv => by
  have := h v hv
  simp [Lit.wf, IntKind.min, IntKind.max, IntKind.signed, IntKind.bits]
  omega
end netPlays
end Go.Proofs.Ytmjglgdihlomlaa
