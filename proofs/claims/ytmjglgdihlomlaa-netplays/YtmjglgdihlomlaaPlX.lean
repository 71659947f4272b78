/- NetPlays: the loops that turn bytes; Deliver by both; Way. -/
import Derived.Test.YtmjglgdihlomlaaPlS
import Derived.Test.YtmjglgdihlomlaaWay
import Derived.Test.YtmjglgdihlomlaaSam
namespace Go.Proofs.Ytmjglgdihlomlaa
namespace netPlays
open Go.RowKit Go.ChangeShapes Go.WideShapes Go.ChangeAt Go.Deep

/-- The bytes of a parcel of one's own: each may be read and written, whatever it is. -/
def Xb (B rb : Nat) (w : World) (x : Pm) : Prop := x.n = 0 ∨ ∃ g, x.a = some ⟨g, 0, none⟩ ∧ B ≤ g ∧ g ≠ rb ∧ x.n ≤ x.c ∧ x.c ≤ maxLen ∧ ∀ j, j < x.n → (∃ v : Nat, v < 256 ∧ w.cell? ⟨g, j, none⟩ = some (.int .u8 (v : Int))) ∧ w.frozen? ⟨g, j, none⟩ = false
/-- A row of such parcels at block b. -/
def Xs (B : Nat) (w : World) (b off n c : Nat) (l : List Pm) : Prop := l.length = n ∧ n ≤ c ∧ c ≤ maxLen ∧ (∀ k (h : k < l.length), w.cell? ⟨b, off + k * 3 + 2, none⟩ = some (.slice l[k].a l[k].n l[k].c)) ∧ ∀ x ∈ l, Xb B b w x
theorem xb_of {B b : Nat} {w : World} {x : Pm} (ho : w.ownsRow B 5 1 (.slice x.a x.n x.c) x.n (bV x.p.2.2)) (hy : Byt x.p.2.2) (hb : ∀ ad, x.a = some ad → ad.block ≠ b) : Xb B b w x := by
  have hl := ho.1
  rw [bV_length] at hl
  rcases ho.2 with ⟨_, h0⟩ | ⟨g, cap, cur, e, h1, h2, h3, h4, h5, h6⟩
  · exact .inl h0
  · simp only [Value.slice.injEq] at e
    obtain ⟨e1, -, e2⟩ := e
    refine .inr ⟨g, e1, h1, hb _ e1, by omega, by omega, fun j hj => ?_⟩
    have hj2 : j < x.p.2.2.length := by omega
    have hc := ho.cells (g := g) (by rw [e1]; rfl) j (.int .u8 (x.p.2.2[j] : Int)) (by unfold bV; rw [List.getElem?_map, List.getElem?_eq_getElem hj2]; rfl)
    rw [add_none] at hc
    refine ⟨⟨x.p.2.2[j], hy _ (List.getElem_mem _), by simpa using hc⟩, ?_⟩
    rw [e1] at ho
    have := ho
    rw [show x.c = cap from e2] at this
    exact this.frozenAt j
theorem xs_of {B : Nat} {w : World} {a : Option Addr} {n c : Nat} {l : List Pm} (h : RowF B w a n c l) (h0 : 0 < n) : ∃ b off, a = some ⟨b, off, none⟩ ∧ B ≤ b ∧ Xs B w b off n c l := by
  obtain ⟨b, off, e, -⟩ := h.1.1.weak.at (k := 0) (by have := h.1.1.1; omega)
  subst e
  have hb := h.1.1.2.2.2.2.1 _ rfl
  refine ⟨b, off, rfl, hb.1, h.1.1.1, h.1.1.2.1.1, h.1.1.2.1.2, fun k hk => ?_, fun x hx => ?_⟩
  · obtain ⟨b', off', e, -, -, hc⟩ := h.1.1.weak.at hk
    simp only [Option.some.injEq, Addr.mk.injEq, and_true] at e
    obtain ⟨rfl, rfl⟩ := e
    exact hc
  · exact xb_of (h.2 x hx) (h.1.1.2.2.2.2.2 x hx).2.1 (h.1.room.2 x hx)
/-- One byte turned. -/
theorem Xs.put {B : Nat} {w : World} {b off n c : Nat} {l : List Pm} (h : Xs B w b off n c l) {g j : Nat} (hg : g ≠ b) (v : Nat) (hv : v < 256) (hc : (w.cell? ⟨g, j, none⟩).isSome = true) : Xs B (w.setCell ⟨g, j, none⟩ (.int .u8 (v : Int))) b off n c l := by
  obtain ⟨h1, h2, h3, h4, h5⟩ := h
  refine ⟨h1, h2, h3, fun k hk => ?_, fun x hx => ?_⟩
  · rw [World.cell?_setCell_far _ _ _ _ (by simpa using hg)]; exact h4 k hk
  · rcases h5 x hx with h0 | ⟨g2, e1, e2, e3, e4, e5, e6⟩
    · exact .inl h0
    · refine .inr ⟨g2, e1, e2, e3, e4, e5, fun i hi => ⟨?_, ?_⟩⟩
      · by_cases he : (⟨g, j, none⟩ : Addr) = ⟨g2, i, none⟩
        · rw [← he, World.cell?_setCell_same' _ _ _ hc]
          exact ⟨v, hv, rfl⟩
        · rw [World.cell?_setCell_other (h := he)]
          exact (e6 i hi).1
      · rw [World.frozen?_setCell]
        exact (e6 i hi).2
/-- Bytes are turned in blocks from B on, and all that counts lies below. -/
def GX (w0 w : World) (nb ob rb ab : Nat) (xs : List Value) (L : List Pc) (B : Nat) : Prop := ∃ D1 D2 D3, GS w0 w nb ob rb ab xs L L D1 D2 D3 ∧ (∀ k, D1 k ∨ D2 k ∨ D3 k → k < B) ∧ ab < B ∧ w0.heap.size ≤ B ∧ B ≤ w.heap.size
theorem GX.g {w0 w : World} {nb ob rb ab : Nat} {xs : List Value} {L : List Pc} {B : Nat} (h : GX w0 w nb ob rb ab xs L B) : G w0 w nb ob rb ab xs L L := by
  obtain ⟨D1, D2, D3, h, _⟩ := h
  exact ⟨D1, D2, D3, h⟩
theorem gx_of {w0 w w' : World} {nb ob rb ab : Nat} {xs : List Value} {L : List Pc} (h : G w0 w nb ob rb ab xs L L) (hb : Below w.heap.size w w') : GX w0 w' nb ob rb ab xs L w.heap.size := by
  obtain ⟨D1, D2, D3, h⟩ := h
  obtain ⟨LO, ho, hl⟩ := h.o
  exact ⟨D1, D2, D3, ⟨h.n.below hb, ⟨LO, ho.below hb, hl⟩, h.r.below hb, h.d12, h.d13, h.d23, h.e1, h.e2, h.e3, h.lo, box_hold h.box hb.size (hb.block ab h.box.1), h.bel.trans (hb.mono h.bel.size)⟩, fun k hk => hk.elim (h.n.lt k) fun q => q.elim (ho.lt k) (h.r.lt k), h.box.1, h.bel.size, hb.size⟩
theorem GX.below {w0 w w' : World} {nb ob rb ab : Nat} {xs : List Value} {L : List Pc} {B : Nat} (h : GX w0 w nb ob rb ab xs L B) (hb : Below B w w') : GX w0 w' nb ob rb ab xs L B := by
  obtain ⟨D1, D2, D3, h, q1, q2, q3, q4⟩ := h
  obtain ⟨LO, ho, hl⟩ := h.o
  exact ⟨D1, D2, D3, ⟨h.n.keep hb.size fun k hd _ => hb.block k (q1 k (.inl hd)), ⟨LO, ho.keep hb.size fun k hd _ => hb.block k (q1 k (.inr (.inl hd))), hl⟩, h.r.keep hb.size fun k hd _ => hb.block k (q1 k (.inr (.inr hd))), h.d12, h.d13, h.d23, h.e1, h.e2, h.e3, h.lo, box_hold h.box hb.size (hb.block ab q2), h.bel.trans (hb.mono q3)⟩, q1, q2, q3, Nat.le_trans q4 hb.size⟩
theorem below_put {w : World} {B g j : Nat} (v : Value) (hg : B ≤ g) : Below B w (w.setCell ⟨g, j, none⟩ v) := ⟨rfl, rfl, rfl, by simp, fun k hk => Below.heap_setCell _ _ _ _ (by show k ≠ g; omega)⟩
/-- Way. -/
theorem step_way {w0 w : World} {nb ob rb ab : Nat} {xs : List Value} {L : List Pc} (h : G w0 w nb ob rb ab xs L L) (ok : Ok L) : Calls Try.prog 22 #[.pointer (some ⟨nb, 0, none⟩)] w fun e w' => ∃ a n c l, e = .returned (.slice a n c) ∧ RowF w.heap.size w' a n c l ∧ l.map Pm.p = L ∧ GX w0 w' nb ob rb ab xs L w.heap.size := by
  have h' := h
  obtain ⟨D1, D2, D3, hs⟩ := h
  refine (way_any D1 w nb L hs.n (by have := ok.len; omega) ok.sz).mono ?_
  rintro e w' ⟨a, n, c, l, rfl, hR, hl, hb⟩
  exact ⟨a, n, c, l, rfl, hR, hl, gx_of h' hb⟩
/-- What the document's net holds, and that a row with the same parcels is the same. -/
theorem step_same {w0 w : World} {nb ob rb ab : Nat} {xs : List Value} {L : List Pc} (h : G w0 w nb ob rb ab xs L L) (ok : Ok L) : ∃ a2 n2 c2, w.cell? ⟨rb, 0, none⟩ = some (.slice a2 n2 c2) ∧ ∀ (A : Nat → Prop) a n c l, RowP A w a n c l → l.map Pm.p = L → Calls Try.prog 14 #[.slice a n c, .slice a2 n2 c2] w fun e w' => e = .returned (.bool true) ∧ Below w.heap.size w w' := by
  obtain ⟨D1, D2, D3, hs⟩ := h
  obtain ⟨l2, e2, hM, -⟩ := hs.r
  obtain ⟨-, a2, n2, c2, hc, hO, -⟩ := hM
  refine ⟨a2, n2, c2, hc, fun A a n c l hR he => ?_⟩
  have hn : n ≤ 20000 := by
    have := hR.1
    have h2 := congrArg List.length he
    have h3 := ok.len
    rw [List.length_map] at h2
    omega
  exact same_yes A D3 w a a2 n c n2 c2 l l2 hR hO.1.weak (by rw [he, e2]) hn
/-- One parcel in a row of its own. -/
theorem row_one {W : World} {g : Nat} {x : Pm} (hx : x.okA (fun _ => True) W) (h0 : W.cell? ⟨g, 0, none⟩ = some (.int .i64 x.p.1)) (h1 : W.cell? ⟨g, 1, none⟩ = some (.int .i64 x.p.2.1)) (h2 : W.cell? ⟨g, 2, none⟩ = some (.slice x.a x.n x.c)) : RowP (fun _ => True) W (some ⟨g, 0, none⟩) 1 1 [x] := by
  refine ⟨rfl, ⟨Nat.le_refl _, by unfold maxLen; omega⟩, (fun e => by cases e), .inr ⟨g, 0, rfl, fun j u hu => ?_⟩, fun _ _ _ => trivial, fun y hy => ?_⟩
  · have e : cV [x] = [.int .i64 x.p.1, .int .i64 x.p.2.1, .slice x.a x.n x.c] := by simp [cV, Pm.cs]
    rw [e] at hu
    match j, hu with
    | 0, hu => simp at hu; rw [← hu]; exact h0
    | 1, hu => simp at hu; rw [← hu]; exact h1
    | 2, hu => simp at hu; rw [← hu]; exact h2
  · rw [List.mem_singleton] at hy
    subst hy
    exact hx
/-- Behind n's Deliver: what it brought lies apart from the document's net. -/
def MD (w0 W : World) (nb ob rb ab : Nat) (xs : List Value) (L' L : List Pc) (x : Pm) : Prop := ∃ D1 D2 D3, GS w0 W nb ob rb ab xs L' L D1 D2 D3 ∧ x.okA (fun k => ¬ D3 k ∧ k < W.heap.size) W
theorem MD.below {w0 w w' : World} {nb ob rb ab : Nat} {xs : List Value} {L' L : List Pc} {x : Pm} (h : MD w0 w nb ob rb ab xs L' L x) (hb : Below w.heap.size w w') : MD w0 w' nb ob rb ab xs L' L x := by
  obtain ⟨D1, D2, D3, h, hx⟩ := h
  obtain ⟨LO, ho, hl⟩ := h.o
  obtain ⟨y1, y2, y3, y4, y5, y6⟩ := hx.keep fun k _ hk => hb.block k hk
  exact ⟨D1, D2, D3, ⟨h.n.below hb, ⟨LO, ho.below hb, hl⟩, h.r.below hb, h.d12, h.d13, h.d23, h.e1, h.e2, h.e3, h.lo, box_hold h.box hb.size (hb.block ab h.box.1), h.bel.trans (hb.mono h.bel.size)⟩, y1, y2, y3, y4, y5, fun ad e h0 => ⟨(y6 ad e h0).1, Nat.lt_of_lt_of_le (y6 ad e h0).2 hb.size⟩⟩
theorem MD.g {w0 w : World} {nb ob rb ab : Nat} {xs : List Value} {L' L : List Pc} {x : Pm} (h : MD w0 w nb ob rb ab xs L' L x) : G w0 w nb ob rb ab xs L' L := by
  obtain ⟨D1, D2, D3, h, _⟩ := h
  exact ⟨D1, D2, D3, h⟩
/-- Deliver, by both. -/
theorem step_deliver {w0 w : World} {nb ob rb ab : Nat} {xs : List Value} {L : List Pc} (h : G w0 w nb ob rb ab xs L L) (ok : Ok L) (k : Int) : ∃ L' v P, Ok L' ∧ Calls Try.prog 12 #[.pointer (some ⟨nb, 0, none⟩), .int .i64 k] w (fun e w' => ∃ x : Pm, e = .returned (.tuple #[.agg #[.int .i64 x.p.1, .int .i64 x.p.2.1, .slice x.a x.n x.c], .bool v]) ∧ x.p = P ∧ MD w0 w' nb ob rb ab xs L' L x) ∧ ∀ (x : Pm) W, MD w0 W nb ob rb ab xs L' L x → Calls Try.prog 13 #[.pointer (some ⟨rb, 0, none⟩), .int .i64 k] W fun e w' => ∃ y : Pm, e = .returned (.tuple #[.agg #[.int .i64 y.p.1, .int .i64 y.p.2.1, .slice y.a y.n y.c], .bool v]) ∧ y.p = P ∧ G w0 w' nb ob rb ab xs L' L' ∧ x.okA (fun _ => True) w' ∧ y.okA (fun _ => True) w' := by
  have wk : ∀ {D : Nat → Prop} {W : World} {x : Pm}, x.okA D W → x.okA (fun _ => True) W := fun {D W x} hx => ⟨hx.1, hx.2.1, hx.2.2.1, hx.2.2.2.1, hx.2.2.2.2.1, fun _ _ _ => trivial⟩
  by_cases hk : hasB L.length k = false
  · have hnil : ∀ (D : Nat → Prop) (W : World), (⟨(0, 0, []), none, 0, 0⟩ : Pm).okA D W := fun D W => ⟨rfl, (fun z hz => by cases hz), ⟨Nat.le_refl _, Nat.zero_le _⟩, fun _ => ⟨rfl, rfl⟩, .inl rfl, fun ad e => by cases e⟩
    refine ⟨L, false, (0, 0, []), ok, ?_, fun x W hW => ?_⟩
    · have h' := h
      obtain ⟨D1, D2, D3, hs⟩ := h
      refine (deliver_no D1 w nb L k hs.n hk).mono ?_
      rintro e w' ⟨rfl, hb⟩
      obtain ⟨E1, E2, E3, hs'⟩ := h'.below hb
      exact ⟨⟨(0, 0, []), none, 0, 0⟩, rfl, rfl, E1, E2, E3, hs', hnil _ _⟩
    · have hg := hW.g
      obtain ⟨D1, D2, D3, hs, hx⟩ := hW
      refine (rdeliver_no D3 W rb L k hs.r hk).mono ?_
      rintro e w' ⟨rfl, hb⟩
      exact ⟨⟨(0, 0, []), none, 0, 0⟩, rfl, rfl, hg.below hb, wk (hx.keep fun k _ hk => hb.block k hk), hnil _ _⟩
  · obtain ⟨j, rfl, hj⟩ := hasB_yes (by simpa using hk)
    have hmem : L[j] ∈ L := List.getElem_mem _
    refine ⟨L.eraseIdx j, true, L[j], ok.erase j, ?_, fun x W hW => ?_⟩
    · obtain ⟨D1, D2, D3, hs⟩ := h
      have hrl := hs.r.lt
      have hby : Byt L[j].2.2 := by
        obtain ⟨l, e, hM⟩ := hs.n
        subst e
        obtain ⟨-, a, n, c, -, hO, -⟩ := hM
        rw [List.getElem_map]
        exact (hO.1.2.2.2.2.2 _ (List.getElem_mem _)).2.1
      refine (deliver_yes D1 w nb L j hs.n hj (by have := ok.len; omega) (ok.sz _ hmem)).mono ?_
      rintro e w' ⟨a, n, c, rfl, ho, hn, hkp⟩
      have hx : (⟨L[j], a, n, c⟩ : Pm).okA (fun k => ¬ D3 k ∧ k < w'.heap.size) w' := by
        have hl := ho.1
        rw [bV_length] at hl
        rcases ho.2 with ⟨e1, h0⟩ | ⟨g, cap, cur, e1, h1, h2, h3, h4, h5, h6⟩
        · simp only [Value.slice.injEq] at e1
          obtain ⟨rfl, rfl, rfl⟩ := e1
          exact ⟨h0, hby, ⟨Nat.le_refl _, Nat.zero_le _⟩, fun _ => ⟨rfl, rfl⟩, .inl (by rw [List.eq_nil_of_length_eq_zero h0]; rfl), fun ad e => by cases e⟩
        · have hc := ho.cells (g := g)
          simp only [Value.slice.injEq] at e1
          obtain ⟨rfl, rfl, rfl⟩ := e1
          refine ⟨rfl, hby, ⟨h3, h4⟩, (fun e => by cases e), .inr ⟨g, 0, rfl, fun i u hu => ?_⟩, fun ad e _ => ?_⟩
          · have := hc rfl i u hu
            rw [add_none] at this
            exact this
          · simp only [Option.some.injEq] at e
            subst e
            refine ⟨fun hd => by have := hrl _ hd; show False; simp only at this; omega, ?_⟩
            exact (Array.getElem?_eq_some_iff.1 h2).1
      obtain ⟨LO, hoo, hlo⟩ := hs.o
      have hab := hs.box.1
      have hsz := hs.bel.size
      have hng := ex_np hn hkp.size
      exact ⟨⟨L[j], a, n, c⟩, rfl, rfl, _, D2, D3, ⟨hng, ⟨LO, hoo.other hkp fun k hd e => hs.d12 k e hd, hlo⟩, hs.r.other hkp fun k hd e => hs.d13 k e hd, fun k hd hd2 => hd.elim (fun q => hs.d12 k q hd2) fun q => by have := hoo.lt k hd2; omega, fun k hd hd2 => hd.elim (fun q => hs.d13 k q hd2) fun q => by have := hs.r.lt k hd2; omega, hs.d23, fun k hd => hd.elim (hs.e1 k) fun q => ⟨by omega, by omega⟩, hs.e2, hs.e3, hs.lo, box_hold hs.box hkp.size (hkp.block ab hab fun e => (hs.e1 ab e).2 rfl), hs.bel.trans (hkp.to_below hsz fun k e => (hs.e1 k e).1)⟩, hx⟩
    · obtain ⟨D1, D2, D3, hs, hx⟩ := hW
      refine (rdeliver_yes D3 W rb L j hs.r hj (by have := ok.len; omega)).mono ?_
      rintro e w' ⟨a, n, c, rfl, h1, ⟨h2, h3, h4⟩, h5, hn, hkp⟩
      exact ⟨⟨L[j], a, n, c⟩, rfl, rfl, hs.ofR hn hkp, wk (hx.keep fun k hd hk => hkp.block k hk hd.1), ⟨h1, h2, h3, h4, h5, fun _ _ _ => trivial⟩⟩
end netPlays
end Go.Proofs.Ytmjglgdihlomlaa
