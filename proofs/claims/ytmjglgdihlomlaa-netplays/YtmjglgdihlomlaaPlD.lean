/- NetPlays: Deliver by both, with a box that stays. -/
import Derived.Test.YtmjglgdihlomlaaPlN
namespace Go.Proofs.Ytmjglgdihlomlaa
namespace netPlays
open Go.RowKit Go.ChangeShapes Go.WideShapes Go.ChangeAt Go.Deep

/-- MD, and a box beside it. -/
def MB (w0 W : World) (nb ob rb ab : Nat) (xs : List Value) (L' L : List Pc) (x : Pm) (qb : Nat) (ys : List Value) : Prop := ∃ D1 D2 D3, GS w0 W nb ob rb ab xs L' L D1 D2 D3 ∧ x.okA (fun k => ¬ D3 k ∧ k < W.heap.size) W ∧ BoxL W qb ys ∧ ¬ D3 qb
theorem MD.box {w0 w : World} {nb ob rb ab : Nat} {xs : List Value} {L' L : List Pc} {x : Pm} (h : MD w0 w nb ob rb ab xs L' L x) (ys : List Value) (t : TypeId) : MB w0 (w.alloc (.cells ys.toArray t)) nb ob rb ab xs L' L x w.heap.size ys := by
  have hlt : ∀ D3 : Nat → Prop, NetR D3 w rb L → ¬ D3 w.heap.size := fun D3 hr hd => by have := hr.lt _ hd; omega
  have hb := below_new w (.cells ys.toArray t)
  obtain ⟨D1, D2, D3, h, hx⟩ := h
  have hnd := hlt D3 h.r
  obtain ⟨LO, ho, hl⟩ := h.o
  obtain ⟨y1, y2, y3, y4, y5, y6⟩ := hx.keep fun k _ hk => hb.block k hk
  exact ⟨D1, D2, D3, ⟨h.n.below hb, ⟨LO, ho.below hb, hl⟩, h.r.below hb, h.d12, h.d13, h.d23, h.e1, h.e2, h.e3, h.lo, box_hold h.box hb.size (hb.block ab h.box.1), h.bel.trans (hb.mono h.bel.size)⟩, ⟨y1, y2, y3, y4, y5, fun ad e h0 => ⟨(y6 ad e h0).1, Nat.lt_of_lt_of_le (y6 ad e h0).2 hb.size⟩⟩, BoxL.new w ys t, hnd⟩
theorem MB.g {w0 w : World} {nb ob rb ab qb : Nat} {xs ys : List Value} {L' L : List Pc} {x : Pm} (h : MB w0 w nb ob rb ab xs L' L x qb ys) : G w0 w nb ob rb ab xs L' L := by
  obtain ⟨D1, D2, D3, h, _⟩ := h
  exact ⟨D1, D2, D3, h⟩
theorem okT_below {w w' : World} {x : Pm} (h : x.okA (fun _ => True) w) (hb : Below w.heap.size w w') : x.okA (fun _ => True) w' := h.keep fun k _ hk => hb.block k hk
/-- Deliver, by both. -/
theorem step_deliver2 {w0 w : World} {nb ob rb ab : Nat} {xs : List Value} {L : List Pc} (h : G w0 w nb ob rb ab xs L L) (ok : Ok L) (k : Int) : ∃ L' v P, Ok L' ∧ Calls Try.prog 12 #[.pointer (some ⟨nb, 0, none⟩), .int .i64 k] w (fun e w' => ∃ x : Pm, e = .returned (.tuple #[.agg #[.int .i64 x.p.1, .int .i64 x.p.2.1, .slice x.a x.n x.c], .bool v]) ∧ x.p = P ∧ MD w0 w' nb ob rb ab xs L' L x) ∧ ∀ (x : Pm) (qb : Nat) (ys : List Value) W, MB w0 W nb ob rb ab xs L' L x qb ys → Calls Try.prog 13 #[.pointer (some ⟨rb, 0, none⟩), .int .i64 k] W fun e w' => ∃ y : Pm, e = .returned (.tuple #[.agg #[.int .i64 y.p.1, .int .i64 y.p.2.1, .slice y.a y.n y.c], .bool v]) ∧ y.p = P ∧ G w0 w' nb ob rb ab xs L' L' ∧ x.okA (fun _ => True) w' ∧ y.okA (fun _ => True) w' ∧ BoxL w' qb ys := by
  have wk : ∀ {D : Nat → Prop} {W : World} {x : Pm}, x.okA D W → x.okA (fun _ => True) W := fun {D W x} hx => ⟨hx.1, hx.2.1, hx.2.2.1, hx.2.2.2.1, hx.2.2.2.2.1, fun _ _ _ => trivial⟩
  by_cases hk : hasB L.length k = false
  · have hnil : ∀ (D : Nat → Prop) (W : World), (⟨(0, 0, []), none, 0, 0⟩ : Pm).okA D W := fun D W => ⟨rfl, (fun z hz => by cases hz), ⟨Nat.le_refl _, Nat.zero_le _⟩, fun _ => ⟨rfl, rfl⟩, .inl rfl, fun ad e => by cases e⟩
    refine ⟨L, false, (0, 0, []), ok, ?_, fun x qb ys W hW => ?_⟩
    · have h' := h
      obtain ⟨D1, D2, D3, hs⟩ := h
      refine (deliver_no D1 w nb L k hs.n hk).mono ?_
      rintro e w' ⟨rfl, hb⟩
      obtain ⟨E1, E2, E3, hs'⟩ := h'.below hb
      exact ⟨⟨(0, 0, []), none, 0, 0⟩, rfl, rfl, E1, E2, E3, hs', hnil _ _⟩
    · have hg := hW.g
      obtain ⟨D1, D2, D3, hs, hx, hbx, hnd⟩ := hW
      refine (rdeliver_no D3 W rb L k hs.r hk).mono ?_
      rintro e w' ⟨rfl, hb⟩
      exact ⟨⟨(0, 0, []), none, 0, 0⟩, rfl, rfl, hg.below hb, wk (hx.keep fun k _ hk => hb.block k hk), hnil _ _, hbx.below hb⟩
  · obtain ⟨j, rfl, hj⟩ := hasB_yes (by simpa using hk)
    have hmem : L[j] ∈ L := List.getElem_mem _
    refine ⟨L.eraseIdx j, true, L[j], ok.erase j, ?_, fun x qb ys W hW => ?_⟩
    · obtain ⟨D1, D2, D3, hs⟩ := h
      have hrl := hs.r.lt
      have hby : Byt L[j].2.2 := by
        obtain ⟨l, e, hM⟩ := hs.n
        subst e
        obtain ⟨-, a, n, c, -, hO, -⟩ := hM
        rw [List.getElem_map]
        exact (hO.1.2.2.2.2.2 _ (List.getElem_mem _)).2.1
      refine (deliver_yes D1 w nb L j hs.n hj (by have := ok.len; omega) (ok.sz _ hmem)).mono ?_
      rintro e w' ⟨a, n, c, rfl, ho, hn, hkp⟩
      have hx : (⟨L[j], a, n, c⟩ : Pm).okA (fun k => ¬ D3 k ∧ k < w'.heap.size) w' := by
        have hl := ho.1
        rw [bV_length] at hl
        rcases ho.2 with ⟨e1, h0⟩ | ⟨g, cap, cur, e1, h1, h2, h3, h4, h5, h6⟩
        · simp only [Value.slice.injEq] at e1
          obtain ⟨rfl, rfl, rfl⟩ := e1
          exact ⟨h0, hby, ⟨Nat.le_refl _, Nat.zero_le _⟩, fun _ => ⟨rfl, rfl⟩, .inl (by rw [List.eq_nil_of_length_eq_zero h0]; rfl), fun ad e => by cases e⟩
        · have hc := ho.cells (g := g)
          simp only [Value.slice.injEq] at e1
          obtain ⟨rfl, rfl, rfl⟩ := e1
          refine ⟨rfl, hby, ⟨h3, h4⟩, (fun e => by cases e), .inr ⟨g, 0, rfl, fun i u hu => ?_⟩, fun ad e _ => ?_⟩
          · have := hc rfl i u hu
            rw [add_none] at this
            exact this
          · simp only [Option.some.injEq] at e
            subst e
            refine ⟨fun hd => by have := hrl _ hd; show False; simp only at this; omega, ?_⟩
            exact (Array.getElem?_eq_some_iff.1 h2).1
      obtain ⟨LO, hoo, hlo⟩ := hs.o
      have hab := hs.box.1
      have hsz := hs.bel.size
      have hng := ex_np hn hkp.size
      exact ⟨⟨L[j], a, n, c⟩, rfl, rfl, _, D2, D3, ⟨hng, ⟨LO, hoo.other hkp fun k hd e => hs.d12 k e hd, hlo⟩, hs.r.other hkp fun k hd e => hs.d13 k e hd, fun k hd hd2 => hd.elim (fun q => hs.d12 k q hd2) fun q => by have := hoo.lt k hd2; omega, fun k hd hd2 => hd.elim (fun q => hs.d13 k q hd2) fun q => by have := hs.r.lt k hd2; omega, hs.d23, fun k hd => hd.elim (hs.e1 k) fun q => ⟨by omega, by omega⟩, hs.e2, hs.e3, hs.lo, box_hold hs.box hkp.size (hkp.block ab hab fun e => (hs.e1 ab e).2 rfl), hs.bel.trans (hkp.to_below hsz fun k e => (hs.e1 k e).1)⟩, hx⟩
    · obtain ⟨D1, D2, D3, hs, hx, hbx, hnd⟩ := hW
      refine (rdeliver_yes D3 W rb L j hs.r hj (by have := ok.len; omega)).mono ?_
      rintro e w' ⟨a, n, c, rfl, h1, ⟨h2, h3, h4⟩, h5, hn, hkp⟩
      exact ⟨⟨L[j], a, n, c⟩, rfl, rfl, hs.ofR hn hkp, wk (hx.keep fun k hd hk => hkp.block k hk hd.1), ⟨h1, h2, h3, h4, h5, fun _ _ _ => trivial⟩, box_hold hbx hkp.size (hkp.block qb hbx.1 hnd)⟩
/-- same of two rows of one parcel each, built side by side. -/
theorem same_two {w : World} {x y : Pm} (hx : x.okA (fun _ => True) w) (hy : y.okA (fun _ => True) w) (he : x.p = y.p) :
    Calls Try.prog 14 #[.slice (some ⟨w.heap.size, 0, none⟩) 1 1, .slice (some ⟨w.heap.size + 1, 0, none⟩) 1 1] ((w.alloc (.cells #[.int .i64 x.p.1, .int .i64 x.p.2.1, .slice x.a x.n x.c] 37)).alloc (.cells #[.int .i64 y.p.1, .int .i64 y.p.2.1, .slice y.a y.n y.c] 37)) fun e w' => e = .returned (.bool true) ∧ Below w.heap.size w w' := by
  obtain ⟨b1, b2, hb, hsz⟩ := box2 w [.int .i64 x.p.1, .int .i64 x.p.2.1, .slice x.a x.n x.c] [.int .i64 y.p.1, .int .i64 y.p.2.1, .slice y.a y.n y.c] 37 37
  obtain ⟨x0, x1, x2⟩ := b1.c3
  obtain ⟨y0, y1, y2⟩ := b2.c3
  refine (same_yes _ _ _ _ _ 1 1 1 1 [x] [y] (row_one (okT_below hx hb) x0 x1 x2) (row_one (okT_below hy hb) y0 y1 y2) (by simp [he]) (by omega)).mono ?_
  rintro e w' ⟨rfl, hb2⟩
  exact ⟨rfl, hb.trans (hb2.mono hb.size)⟩
/-- One parcel more in a row of one's own. -/
theorem own_more {B : Nat} {W w1 : World} {av : Option Addr} {k cv : Nat} {lk : List Pm} (h : RowF B W av k cv lk) (hB : B ≤ W.heap.size) (x : Pc) {a1 : Option Addr} {n1 c1 : Nat} (ho : w1.ownsRow W.heap.size 5 1 (.slice a1 n1 c1) x.2.2.length (bV x.2.2)) (hby : Byt x.2.2) (hb : Below W.heap.size W w1) (hk : k ≤ 20000) (ty : TypeId) :
    ∃ g off c w', (Builtin.append_ #[28, 28] ty #[.slice av k cv, .slice (some ⟨w1.heap.size, 0, none⟩) 1 1]).run Try.prog (w1.alloc (.cells #[.int .i64 x.1, .int .i64 x.2.1, .slice a1 n1 c1] 37)) = .ok (.slice (some ⟨g, off, none⟩) (k + 1) c) w' ∧ RowF B w' (some ⟨g, off, none⟩) (k + 1) c (lk ++ [⟨x, a1, n1, c1⟩]) ∧ Below B W w' := by
  obtain ⟨hn1, hok1, hfr⟩ := pm_new ho hby
  have hbn := below_new w1 (.cells #[.int .i64 x.1, .int .i64 x.2.1, .slice a1 n1 c1] 37)
  have hb2 : Below W.heap.size W (w1.alloc (.cells #[.int .i64 x.1, .int .i64 x.2.1, .slice a1 n1 c1] 37)) := hb.trans (hbn.mono hb.size)
  have hR2 := h.below hb2
  have hrd := reads_new w1 [.int .i64 x.1, .int .i64 x.2.1, .slice a1 n1 c1] 37
  have hs2 : (w1.alloc (.cells #[.int .i64 x.1, .int .i64 x.2.1, .slice a1 n1 c1] 37)).heap.size = w1.heap.size + 1 := by simp
  have hs1 := hb.size
  have hox : (⟨x, a1, n1, c1⟩ : Pm).ok (fun k => B ≤ k ∧ k < (w1.alloc (.cells #[.int .i64 x.1, .int .i64 x.2.1, .slice a1 n1 c1] 37)).heap.size) (w1.alloc (.cells #[.int .i64 x.1, .int .i64 x.2.1, .slice a1 n1 c1] 37)) := by
    obtain ⟨y1, y2, y3, y4, y5, y6⟩ := hok1
    exact ⟨y1, y2, y3, y4, y5.below hbn, fun ad e => by have := y6 ad e; exact ⟨by omega, by omega⟩⟩
  have hav : ∀ ad, av = some ad → B ≤ ad.block ∧ ad.block < W.heap.size := h.1.1.2.2.2.2.1
  generalize hw2 : w1.alloc (.cells #[.int .i64 x.1, .int .i64 x.2.1, .slice a1 n1 c1] 37) = w2 at *
  obtain ⟨v', w', hrun, g, off, c, rfl, hRO, hgb, hkp⟩ := push_run hR2.1 ⟨x, a1, n1, c1⟩ hox (fun k hk => hk.2) (fun ad ad' e e' => by have h1 := hav ad e; have h2 := hfr ad' e'; omega) w1.heap.size hrd hk ty
  have hks := hkp.size
  have hkeep : ∀ y ∈ lk ++ [(⟨x, a1, n1, c1⟩ : Pm)], w2.ownsRow B 5 1 (.slice y.a y.n y.c) y.n (bV y.p.2.2) := fun y hy => by
    rw [List.mem_append, List.mem_singleton] at hy
    rcases hy with hy | rfl
    · exact hR2.2 y hy
    · have ho2 := own_mono (own_below ho (hw2 ▸ hbn)) hB
      show w2.ownsRow B 5 1 (.slice a1 n1 c1) n1 (bV x.2.2)
      rw [hw2] at ho2
      rw [hn1] at ho2 ⊢
      exact ho2
  refine ⟨g, off, c, w', hrun, ⟨hRO.mono fun k hk => hk.elim (fun q => ⟨q.1, by omega⟩) fun q => ⟨by omega, q.2⟩, fun y hy => ?_⟩, (hb2.mono hB).trans (hkp.to_below (by omega) fun k hk => by obtain ⟨ad, e, rfl⟩ := hk; exact (hav ad e).1)⟩
  refine own_keep (hkeep y hy) fun ad e => ?_
  have hlt : ad.block < w2.heap.size := by
    have ho3 := hkeep y hy
    rw [e] at ho3
    obtain ⟨b, o, sp⟩ := ad
    rcases ho3.2 with ⟨e3, _⟩ | ⟨g3, cap3, cur3, e3, _, h3, _⟩
    · simp at e3
    · simp only [Value.slice.injEq, Option.some.injEq, Addr.mk.injEq] at e3
      have := (Array.getElem?_eq_some_iff.1 h3).1
      rw [e3.1.1]; exact this
  refine hkp.block ad.block hlt fun hd => ?_
  obtain ⟨ad2, e2, hq⟩ := hd
  rw [List.mem_append, List.mem_singleton] at hy
  rcases hy with hy | rfl
  · obtain ⟨g4, off4, e4, _, h4⟩ := hR2.1.2 ad2 e2
    subst e4
    exact h4 y hy ad e hq.symm
  · have h1 := hav ad2 e2
    have h2 := hfr ad e
    omega
theorem rowF_nil (B : Nat) (w : World) : RowF B w none 0 0 [] :=
  ⟨⟨⟨rfl, ⟨Nat.le_refl _, Nat.zero_le _⟩, (fun _ => ⟨rfl, rfl⟩), .inl rfl, (fun ad e => by cases e), fun x hx => by cases hx⟩, fun ad e => by cases e⟩, fun x hx => by cases hx⟩
end netPlays
end Go.Proofs.Ytmjglgdihlomlaa
