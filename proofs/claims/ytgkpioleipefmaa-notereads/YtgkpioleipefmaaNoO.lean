/- What only and Clear come to. -/
import Derived.Test.YtgkpioleipefmaaNoX
namespace Go.Proofs.Ytgkpioleipefmaa
open Go.RowKit Go.ChangeShapes Go.WideShapes Go.ChangeAt Go.Deep

theorem owng_below {w w' : World} {B t sz n : Nat} {v : Value} {xs : List Value} (h : w.ownsRow B t sz v n xs) (hb : Below w.heap.size w w') : w'.ownsRow B t sz v n xs :=
  h.kept (row := none) ⟨hb.os, hb.tape, hb.output, hb.size, fun k hk _ => hb.block k hk⟩ (by cases v.ownBlock <;> simp)
theorem owng_put_lo {w : World} {B t sz n g o : Nat} {v u : Value} {xs : List Value} (h : w.ownsRow B t sz v n xs) (hg : g < B) : (w.setCell ⟨g, o, none⟩ u).ownsRow B t sz v n xs :=
  ownsRow_setCell_below h (by show g < B; exact hg) u
theorem below_put {w W : World} {B g o : Nat} {v : Value} (h : Below B w W) (hg : B ≤ g) : Below B w (W.setCell ⟨g, o, none⟩ v) :=
  ⟨h.os, h.tape, h.output, by simpa [World.setCell] using h.size, fun k hk => (Below.heap_setCell _ _ _ _ (by show k ≠ g; omega)).trans (h.block k hk)⟩
/-- Rows of two types are two rows. -/
theorem own_two {w w' : World} {B B' t t' sz sz' n n' : Nat} {v u : Value} {xs ys : List Value} (hne : t ≠ t') (h : w.ownsRow B t sz v n xs) (k : w.ownsRow B' t' sz' u n' ys) (hg : w.grownBy w' v.ownBlock) : w'.ownsRow B' t' sz' u n' ys := by
  refine k.kept hg ?_
  rcases h.2 with ⟨rfl, _⟩ | ⟨g, cap, cur, rfl, _, h2, _⟩
  · cases u.ownBlock <;> simp [Value.ownBlock]
  · rcases k.2 with ⟨rfl, _⟩ | ⟨g', cap', cur', rfl, _, k2, _⟩
    · simp [Value.ownBlock]
    · simp only [Value.ownBlock]
      refine .inr fun e => ?_
      simp at e
      subst e
      rw [h2] at k2
      simp at k2
      exact hne k2.2
theorem box_grown {w w' : World} {g B t sz n : Nat} {v : Value} {xs : List Value} {L : List Value} (h : BoxL w g L) (ho : w.ownsRow B t sz v n xs) (hg : w.grownBy w' v.ownBlock) (hgB : g < B) : BoxL w' g L := by
  have hb := hg.block g h.1 (fun e => by have := (ho.lt g e.symm).1; omega)
  refine ⟨Nat.lt_of_lt_of_le h.1 hg.size, fun j hj => ⟨?_, ?_⟩⟩
  · rw [World.cell?_of_block (w := w) (a := ⟨g, j, none⟩) hb]; exact (h.2 j hj).1
  · rw [World.frozen?_of_block (w := w) (a := ⟨g, j, none⟩) hb]; exact (h.2 j hj).2
theorem below_own {w X w' : World} {B t sz n : Nat} {v : Value} {xs : List Value} (hb : Below w.heap.size w X) (ho : X.ownsRow B t sz v n xs) (hg : X.grownBy w' v.ownBlock) (hB : w.heap.size ≤ B) : Below w.heap.size w w' :=
  hb.grown hg hb.size (fun k hk => Nat.le_trans hB (ho.lt k hk).1)

def put11 (W : World) (g : Nat) (v0 v1 v2 v3 v4 v5 v6 v7 v8 v9 v10 : Value) : World := (((((((((((W.setCell ⟨g, 0, none⟩ v0).setCell ⟨g, 1, none⟩ v1).setCell ⟨g, 2, none⟩ v2).setCell ⟨g, 3, none⟩ v3).setCell ⟨g, 4, none⟩ v4).setCell ⟨g, 5, none⟩ v5).setCell ⟨g, 6, none⟩ v6).setCell ⟨g, 7, none⟩ v7).setCell ⟨g, 8, none⟩ v8).setCell ⟨g, 9, none⟩ v9).setCell ⟨g, 10, none⟩ v10)
theorem put11_box {W : World} {g : Nat} {x0 x1 x2 x3 x4 x5 x6 x7 x8 x9 x10 : Value} (h : BoxL W g [x0, x1, x2, x3, x4, x5, x6, x7, x8, x9, x10]) (v0 v1 v2 v3 v4 v5 v6 v7 v8 v9 v10 : Value) : BoxL (put11 W g v0 v1 v2 v3 v4 v5 v6 v7 v8 v9 v10) g [v0, v1, v2, v3, v4, v5, v6, v7, v8, v9, v10] := (((((((((((h.put 0 v0).put 1 v1).put 2 v2).put 3 v3).put 4 v4).put 5 v5).put 6 v6).put 7 v7).put 8 v8).put 9 v9).put 10 v10)
theorem put11_below {w W : World} {B g : Nat} (h : Below B w W) (hg : B ≤ g) (v0 v1 v2 v3 v4 v5 v6 v7 v8 v9 v10 : Value) : Below B w (put11 W g v0 v1 v2 v3 v4 v5 v6 v7 v8 v9 v10) := (below_put (below_put (below_put (below_put (below_put (below_put (below_put (below_put (below_put (below_put (below_put h hg) hg) hg) hg) hg) hg) hg) hg) hg) hg) hg)
theorem put11_own {W : World} {B t sz n g : Nat} {v : Value} {ys : List Value} (h : W.ownsRow B t sz v n ys) (hg : g < B) (v0 v1 v2 v3 v4 v5 v6 v7 v8 v9 v10 : Value) : (put11 W g v0 v1 v2 v3 v4 v5 v6 v7 v8 v9 v10).ownsRow B t sz v n ys := (owng_put_lo (owng_put_lo (owng_put_lo (owng_put_lo (owng_put_lo (owng_put_lo (owng_put_lo (owng_put_lo (owng_put_lo (owng_put_lo (owng_put_lo h hg) hg) hg) hg) hg) hg) hg) hg) hg) hg) hg)
theorem put11_other {W : World} {g0 g : Nat} {ys : List Value} (h : BoxL W g0 ys) (hg : g0 ≠ g) (v0 v1 v2 v3 v4 v5 v6 v7 v8 v9 v10 : Value) : BoxL (put11 W g v0 v1 v2 v3 v4 v5 v6 v7 v8 v9 v10) g0 ys := (box_other (box_other (box_other (box_other (box_other (box_other (box_other (box_other (box_other (box_other (box_other h hg) hg) hg) hg) hg) hg) hg) hg) hg) hg) hg)
theorem put11_grown {w W : World} {r : Option Nat} {g : Nat} (h : w.grownBy W r) (hg : w.heap.size ≤ g) (v0 v1 v2 v3 v4 v5 v6 v7 v8 v9 v10 : Value) : w.grownBy (put11 W g v0 v1 v2 v3 v4 v5 v6 v7 v8 v9 v10) r := (grown_put (grown_put (grown_put (grown_put (grown_put (grown_put (grown_put (grown_put (grown_put (grown_put (grown_put h hg) hg) hg) hg) hg) hg) hg) hg) hg) hg) hg)
theorem put11_keep {W : World} {g k : Nat} (hk : k ≠ g) (v0 v1 v2 v3 v4 v5 v6 v7 v8 v9 v10 : Value) : (put11 W g v0 v1 v2 v3 v4 v5 v6 v7 v8 v9 v10).heap[k]? = W.heap[k]? := by
  unfold put11
  rw [Below.heap_setCell _ _ _ _ hk, Below.heap_setCell _ _ _ _ hk, Below.heap_setCell _ _ _ _ hk, Below.heap_setCell _ _ _ _ hk, Below.heap_setCell _ _ _ _ hk, Below.heap_setCell _ _ _ _ hk, Below.heap_setCell _ _ _ _ hk, Below.heap_setCell _ _ _ _ hk, Below.heap_setCell _ _ _ _ hk, Below.heap_setCell _ _ _ _ hk, Below.heap_setCell _ _ _ _ hk]


/-- The world while a note is put together: its own box, the result's, the new one. -/
def OI (w : World) (L : List Value) (o : No) (wr : World) : Prop :=
  Below w.heap.size w wr ∧ BoxL wr w.heap.size L ∧ BoxL wr (w.heap.size + 1) (Nc no0 ⟨#[]⟩ (.slice none 0 0) (.slice none 0 0)) ∧ w.heap.size + 3 ≤ wr.heap.size ∧
    ∃ s aa al ac ma ml mc, BoxL wr (w.heap.size + 2) (Nc o s (.slice aa al ac) (.slice ma ml mc)) ∧ uN s.data.toList = o.id ∧ s.size ≤ 20000 ∧ (Hid (o.args.length = al) ∧ wr.ownsRow (w.heap.size + 3) 3 1 (.slice aa al ac) al (iV o.args)) ∧ (Hid (o.mem.length = ml) ∧ wr.ownsRow (w.heap.size + 3) 50 2 (.slice ma ml mc) ml (mV o.mem))
theorem own_open {w : World} {B t sz n : Nat} {v : Value} {xs : List Value} (h : w.ownsRow B t sz v n xs) : ∃ a c, v = .slice a n c := by
  rcases h.2 with ⟨rfl, rfl⟩ | ⟨g, cap, cur, rfl, _⟩
  · exact ⟨none, 0, rfl⟩
  · exact ⟨_, cap, rfl⟩
theorem OI.open {w : World} {L : List Value} {o : No} {wr : World} (h : OI w L o wr) : Below w.heap.size w wr ∧ BoxL wr w.heap.size L ∧ w.heap.size + 3 ≤ wr.heap.size := ⟨h.1, h.2.1, h.2.2.2.1⟩

theorem OI.p0 {w : World} {L : List Value} {o : No} {wr : World} (h : OI w L o wr) (x : Int) : OI w L { o with node := x } (wr.setCell ⟨w.heap.size + 2, 1, none⟩ (.int .i64 x)) := by
  obtain ⟨h1, h2, h3, h4, s, aa, al, ac, ma, ml, mc, h5, h6, h7, ⟨q1, h8⟩, ⟨q2, h9⟩⟩ := h
  exact ⟨(below_put h1 (by omega)), (box_other h2 (by omega)), (box_other h3 (by omega)), by simpa [World.setCell] using h4, s, aa, al, ac, ma, ml, mc, (h5.put 1 (.int .i64 x)), h6, h7, ⟨q1, (owng_put_lo h8 (by omega))⟩, ⟨q2, (owng_put_lo h9 (by omega))⟩⟩
theorem OI.p1 {w : World} {L : List Value} {o : No} {wr : World} (h : OI w L o wr) (x : Int) : OI w L { o with life := x } (wr.setCell ⟨w.heap.size + 2, 2, none⟩ (.int .i64 x)) := by
  obtain ⟨h1, h2, h3, h4, s, aa, al, ac, ma, ml, mc, h5, h6, h7, ⟨q1, h8⟩, ⟨q2, h9⟩⟩ := h
  exact ⟨(below_put h1 (by omega)), (box_other h2 (by omega)), (box_other h3 (by omega)), by simpa [World.setCell] using h4, s, aa, al, ac, ma, ml, mc, (h5.put 2 (.int .i64 x)), h6, h7, ⟨q1, (owng_put_lo h8 (by omega))⟩, ⟨q2, (owng_put_lo h9 (by omega))⟩⟩
theorem OI.p2 {w : World} {L : List Value} {o : No} {wr : World} (h : OI w L o wr) (x : Int) : OI w L { o with epoch := x } (wr.setCell ⟨w.heap.size + 2, 3, none⟩ (.int .i64 x)) := by
  obtain ⟨h1, h2, h3, h4, s, aa, al, ac, ma, ml, mc, h5, h6, h7, ⟨q1, h8⟩, ⟨q2, h9⟩⟩ := h
  exact ⟨(below_put h1 (by omega)), (box_other h2 (by omega)), (box_other h3 (by omega)), by simpa [World.setCell] using h4, s, aa, al, ac, ma, ml, mc, (h5.put 3 (.int .i64 x)), h6, h7, ⟨q1, (owng_put_lo h8 (by omega))⟩, ⟨q2, (owng_put_lo h9 (by omega))⟩⟩
theorem OI.p4 {w : World} {L : List Value} {o : No} {wr : World} (h : OI w L o wr) (x : Int) : OI w L { o with func := x } (wr.setCell ⟨w.heap.size + 2, 5, none⟩ (.int .i64 x)) := by
  obtain ⟨h1, h2, h3, h4, s, aa, al, ac, ma, ml, mc, h5, h6, h7, ⟨q1, h8⟩, ⟨q2, h9⟩⟩ := h
  exact ⟨(below_put h1 (by omega)), (box_other h2 (by omega)), (box_other h3 (by omega)), by simpa [World.setCell] using h4, s, aa, al, ac, ma, ml, mc, (h5.put 5 (.int .i64 x)), h6, h7, ⟨q1, (owng_put_lo h8 (by omega))⟩, ⟨q2, (owng_put_lo h9 (by omega))⟩⟩
theorem OI.p8 {w : World} {L : List Value} {o : No} {wr : World} (h : OI w L o wr) (x : Int) : OI w L { o with vep := x } (wr.setCell ⟨w.heap.size + 2, 9, none⟩ (.int .i64 x)) := by
  obtain ⟨h1, h2, h3, h4, s, aa, al, ac, ma, ml, mc, h5, h6, h7, ⟨q1, h8⟩, ⟨q2, h9⟩⟩ := h
  exact ⟨(below_put h1 (by omega)), (box_other h2 (by omega)), (box_other h3 (by omega)), by simpa [World.setCell] using h4, s, aa, al, ac, ma, ml, mc, (h5.put 9 (.int .i64 x)), h6, h7, ⟨q1, (owng_put_lo h8 (by omega))⟩, ⟨q2, (owng_put_lo h9 (by omega))⟩⟩
theorem OI.p6 {w : World} {L : List Value} {o : No} {wr : World} (h : OI w L o wr) (x y : Int) : OI w L { o with err := x, val := y } ((wr.setCell ⟨w.heap.size + 2, 7, none⟩ (.int .i64 x)).setCell ⟨w.heap.size + 2, 8, none⟩ (.int .i64 y)) := by
  obtain ⟨h1, h2, h3, h4, s, aa, al, ac, ma, ml, mc, h5, h6, h7, ⟨q1, h8⟩, ⟨q2, h9⟩⟩ := h
  exact ⟨(below_put (below_put h1 (by omega)) (by omega)), (box_other (box_other h2 (by omega)) (by omega)), (box_other (box_other h3 (by omega)) (by omega)), by simpa [World.setCell] using h4, s, aa, al, ac, ma, ml, mc, ((h5.put 7 (.int .i64 x)).put 8 (.int .i64 y)), h6, h7, ⟨q1, (owng_put_lo (owng_put_lo h8 (by omega)) (by omega))⟩, ⟨q2, (owng_put_lo (owng_put_lo h9 (by omega)) (by omega))⟩⟩
theorem OI.p3 {w : World} {L : List Value} {o : No} {wr : World} (h : OI w L o wr) (t : ByteArray) (id : List Nat) (ht : t.size ≤ 20000) (hid : uN t.data.toList = id) : OI w L { o with id := id } (wr.setCell ⟨w.heap.size + 2, 4, none⟩ (.string t)) := by
  obtain ⟨h1, h2, h3, h4, s, aa, al, ac, ma, ml, mc, h5, h6, h7, ⟨q1, h8⟩, ⟨q2, h9⟩⟩ := h
  exact ⟨(below_put h1 (by omega)), (box_other h2 (by omega)), (box_other h3 (by omega)), by simpa [World.setCell] using h4, t, aa, al, ac, ma, ml, mc, (h5.put 4 (.string t)), hid, ht, ⟨q1, (owng_put_lo h8 (by omega))⟩, ⟨q2, (owng_put_lo h9 (by omega))⟩⟩
theorem OI.below {w : World} {L : List Value} {o : No} {wr w' : World} (h : OI w L o wr) (hb : Below wr.heap.size wr w') : OI w L o w' := by
  obtain ⟨h1, h2, h3, h4, s, aa, al, ac, ma, ml, mc, h5, h6, h7, ⟨q1, h8⟩, ⟨q2, h9⟩⟩ := h
  exact ⟨h1.trans (hb.mono h1.size), h2.below hb, h3.below hb, Nat.le_trans h4 hb.size, s, aa, al, ac, ma, ml, mc, h5.below hb, h6, h7, ⟨q1, owng_below h8 hb⟩, ⟨q2, owng_below h9 hb⟩⟩
theorem OI.p5 {w : World} {L : List Value} {o : No} {wr w' : World} {s : ByteArray} {aa ma a' : Option Addr} {al ac ml mc c' n' : Nat} (hB : Below w.heap.size w wr) (h2 : BoxL wr w.heap.size L) (h3 : BoxL wr (w.heap.size + 1) (Nc no0 ⟨#[]⟩ (.slice none 0 0) (.slice none 0 0))) (h4 : w.heap.size + 3 ≤ wr.heap.size)
    (h5 : BoxL wr (w.heap.size + 2) (Nc o s (.slice aa al ac) (.slice ma ml mc))) (h6 : uN s.data.toList = o.id) (h7 : s.size ≤ 20000) (h8 : wr.ownsRow (w.heap.size + 3) 3 1 (.slice aa al ac) al (iV o.args)) (q2 : o.mem.length = ml) (h9 : wr.ownsRow (w.heap.size + 3) 50 2 (.slice ma ml mc) ml (mV o.mem))
    {xs : List Int} (hn : (o.args ++ xs).length = n') (hg : wr.grownBy w' (Value.slice aa al ac).ownBlock) (ho : w'.ownsRow (w.heap.size + 3) 3 1 (.slice a' n' c') n' (iV (o.args ++ xs))) :
    OI w L { o with args := o.args ++ xs } (w'.setCell ⟨w.heap.size + 2, 6, none⟩ (.slice a' n' c')) := by
  refine ⟨below_put (below_own hB h8 hg (by omega)) (by omega), box_other (box_grown h2 h8 hg (by omega)) (by omega), box_other (box_grown h3 h8 hg (by omega)) (by omega), by simpa [World.setCell] using Nat.le_trans h4 hg.size, s, a', n', c', ma, ml, mc, (box_grown h5 h8 hg (by omega)).put 6 _, h6, h7, ⟨hide hn, owng_put_lo ho (by omega)⟩, ⟨hide q2, owng_put_lo (own_two (by decide) h8 h9 hg) (by omega)⟩⟩
theorem OI.p7 {w : World} {L : List Value} {o : No} {wr w' : World} {s : ByteArray} {aa ma a' : Option Addr} {al ac ml mc c' n' : Nat} (hB : Below w.heap.size w wr) (h2 : BoxL wr w.heap.size L) (h3 : BoxL wr (w.heap.size + 1) (Nc no0 ⟨#[]⟩ (.slice none 0 0) (.slice none 0 0))) (h4 : w.heap.size + 3 ≤ wr.heap.size)
    (h5 : BoxL wr (w.heap.size + 2) (Nc o s (.slice aa al ac) (.slice ma ml mc))) (h6 : uN s.data.toList = o.id) (h7 : s.size ≤ 20000) (q1 : o.args.length = al) (h8 : wr.ownsRow (w.heap.size + 3) 3 1 (.slice aa al ac) al (iV o.args)) (h9 : wr.ownsRow (w.heap.size + 3) 50 2 (.slice ma ml mc) ml (mV o.mem))
    {xs : List (Int × Int)} (hn : (o.mem ++ xs).length = n') (hg : wr.grownBy w' (Value.slice ma ml mc).ownBlock) (ho : w'.ownsRow (w.heap.size + 3) 50 2 (.slice a' n' c') n' (mV (o.mem ++ xs))) :
    OI w L { o with mem := o.mem ++ xs } (w'.setCell ⟨w.heap.size + 2, 10, none⟩ (.slice a' n' c')) := by
  refine ⟨below_put (below_own hB h9 hg (by omega)) (by omega), box_other (box_grown h2 h9 hg (by omega)) (by omega), box_other (box_grown h3 h9 hg (by omega)) (by omega), by simpa [World.setCell] using Nat.le_trans h4 hg.size, s, aa, al, ac, a', n', c', (box_grown h5 h9 hg (by omega)).put 10 _, h6, h7, ⟨hide q1, owng_put_lo (own_two (by decide) h9 h8 hg) (by omega)⟩, ⟨hide hn, owng_put_lo ho (by omega)⟩⟩

set_option maxRecDepth 100000 in
set_option maxHeartbeats 8000000 in
/-- strings.Clone. -/
theorem clone_any (s : ByteArray) (hs : s.size ≤ 20000) (w : World) : Calls Try.prog 47 #[.string s] w fun e w' => e = .returned (.string s) ∧ Below w.heap.size w w' := by
  have C := fun w => Try.stringslite_Clone s w (by omega)
  go_enter Try.func47, Try.ntmps47
  go_wp2_with (first | (go_at_call 54; go_must (with_reducible refine (C _).mono ?_; (rintro e wz ⟨rfl, hwz⟩))) | go_in)
  go_ret
  exact ⟨rfl, hwz⟩

end Go.Proofs.Ytgkpioleipefmaa
