/- Boxes, sets of blocks; bytes.Clone; a link in memory. -/
import Derived.Test.YtofigofaiadffaaBase
import Derived.BigQuiet
import Derived.BigRegion
import Derived.ArgAppend
import Derived.Deep.Cut
namespace Go.Proofs.Ytofigofaiadffaa
open Go.RowKit Go.ChangeShapes Go.WideShapes Go.ChangeAt Go.Deep

/-- A block whose first cells are these, all to be written. -/
def BoxL (w : World) (g : Nat) (xs : List Value) : Prop := g < w.heap.size ∧ ∀ j (h : j < xs.length), w.cell? ⟨g, j, none⟩ = some xs[j] ∧ w.frozen? ⟨g, j, none⟩ = false

theorem BoxL.grown {w w' : World} {g c : Nat} {xs : List Value} (h : BoxL w g xs) (hg : w.grownBy w' (some c)) (hc : g ≠ c) : BoxL w' g xs := by
  have hb := hg.block g h.1 (by simpa using hc)
  refine ⟨Nat.lt_of_lt_of_le h.1 hg.size, fun j hj => ⟨?_, ?_⟩⟩
  · rw [World.cell?_of_block (w := w) (a := ⟨g, j, none⟩) hb]; exact (h.2 j hj).1
  · rw [World.frozen?_of_block (w := w) (a := ⟨g, j, none⟩) hb]; exact (h.2 j hj).2

theorem BoxL.below {w w' : World} {g : Nat} {xs : List Value} (h : BoxL w g xs) (hb : Below w.heap.size w w') : BoxL w' g xs :=
  ⟨Nat.lt_of_lt_of_le h.1 hb.size, fun j hj => ⟨keep_cell (h.2 j hj).1 hb, by rw [keep_frozen (h.2 j hj).1 hb]; exact (h.2 j hj).2⟩⟩

theorem BoxL.put {w : World} {g : Nat} {xs : List Value} (h : BoxL w g xs) (i : Nat) (v : Value) : BoxL (w.setCell ⟨g, i, none⟩ v) g (xs.set i v) := by
  refine ⟨by simpa [World.setCell] using h.1, fun j hj => ⟨?_, ?_⟩⟩
  · rw [List.length_set] at hj
    by_cases e : i = j
    · subst e
      rw [List.getElem_set_self]
      exact World.cell?_setCell_same _ _ _ (h.2 i hj).1
    · rw [List.getElem_set_ne e, World.cell?_setCell_other (h := by simp)]
      exact (h.2 j hj).1
  · rw [List.length_set] at hj
    simpa using (h.2 j hj).2

theorem BoxL.new (w : World) (xs : List Value) (t : TypeId) : BoxL (w.alloc (.cells xs.toArray t)) w.heap.size xs := by
  refine ⟨by simp, fun j hj => ⟨?_, World.frozen?_alloc_at _ _ _ _ rfl⟩⟩
  rw [World.cell?_alloc_at _ _ _ _ rfl]
  simp [hj]

theorem below_new (w : World) (o : Obj) : Below w.heap.size w (w.alloc o) := (Below.refl _ _).alloc (Nat.le_refl _) o
theorem box2 (w : World) (L M : List Value) (t u : TypeId) : BoxL ((w.alloc (.cells L.toArray t)).alloc (.cells M.toArray u)) w.heap.size L ∧ BoxL ((w.alloc (.cells L.toArray t)).alloc (.cells M.toArray u)) (w.heap.size + 1) M ∧ Below w.heap.size w ((w.alloc (.cells L.toArray t)).alloc (.cells M.toArray u)) ∧ ((w.alloc (.cells L.toArray t)).alloc (.cells M.toArray u)).heap.size = w.heap.size + 2 := by
  have b1 := below_new w (.cells L.toArray t)
  have b2 := below_new (w.alloc (.cells L.toArray t)) (.cells M.toArray u)
  have e : (w.alloc (.cells L.toArray t)).heap.size = w.heap.size + 1 := by simp
  refine ⟨(BoxL.new w L t).below b2, ?_, b1.trans (b2.mono b1.size), by simp⟩
  have h := BoxL.new (w.alloc (.cells L.toArray t)) M u
  rw [e] at h
  exact h
theorem BoxL.c3 {w : World} {g : Nat} {x y z : Value} (h : BoxL w g [x, y, z]) : w.cell? ⟨g, 0, none⟩ = some x ∧ w.cell? ⟨g, 1, none⟩ = some y ∧ w.cell? ⟨g, 2, none⟩ = some z := ⟨(h.2 0 (by simp)).1, (h.2 1 (by simp)).1, (h.2 2 (by simp)).1⟩
theorem BoxL.f3 {w : World} {g : Nat} {x y z : Value} (h : BoxL w g [x, y, z]) : w.frozen? ⟨g, 0, none⟩ = false ∧ w.frozen? ⟨g, 1, none⟩ = false ∧ w.frozen? ⟨g, 2, none⟩ = false := ⟨(h.2 0 (by simp)).2, (h.2 1 (by simp)).2, (h.2 2 (by simp)).2⟩
theorem BoxL.keep {w w' : World} {g : Nat} {xs : List Value} (h : BoxL w g xs) (hs : w.heap.size ≤ w'.heap.size) (hb : w'.heap[g]? = w.heap[g]?) : BoxL w' g xs :=
  ⟨Nat.lt_of_lt_of_le h.1 hs, fun j hj => ⟨by rw [World.cell?_of_block (w := w) (a := ⟨g, j, none⟩) hb]; exact (h.2 j hj).1, by rw [World.frozen?_of_block (w := w) (a := ⟨g, j, none⟩) hb]; exact (h.2 j hj).2⟩⟩
/-- Three cells side by side are stored. -/
def put3 (w : World) (g o : Nat) (x y z : Value) : World := ((w.setCell ⟨g, o, none⟩ x).setCell ⟨g, o + 1, none⟩ y).setCell ⟨g, o + 2, none⟩ z
theorem put3_box {w : World} {g : Nat} {a b c : Value} (h : BoxL w g [a, b, c]) (x y z : Value) : BoxL (put3 w g 0 x y z) g [x, y, z] := ((h.put 0 x).put 1 y).put 2 z
theorem put3_keep {w : World} {g o k : Nat} (h : k ≠ g) (x y z : Value) : (put3 w g o x y z).heap[k]? = w.heap[k]? := by
  unfold put3
  rw [Below.heap_setCell _ _ _ _ (by exact h), Below.heap_setCell _ _ _ _ (by exact h), Below.heap_setCell _ _ _ _ (by exact h)]
theorem put3_size (w : World) (g o : Nat) (x y z : Value) : (put3 w g o x y z).heap.size = w.heap.size := by simp [put3, World.setCell]
theorem put3_below {a w : World} {B g o : Nat} (h : Below B a w) (hg : B ≤ g) (x y z : Value) : Below B a (put3 w g o x y z) := ((h.setCell (p := ⟨g, o, none⟩) hg x).setCell (p := ⟨g, o + 1, none⟩) hg y).setCell (p := ⟨g, o + 2, none⟩) hg z

theorem Reads.keepD {D : Nat → Prop} {w w' : World} {a : Option Addr} {xs : List Value} (h : Reads w a xs) (hD : ∀ ad, a = some ad → D ad.block) (hk : ∀ k, D k → k < w.heap.size → w'.heap[k]? = w.heap[k]?) : Reads w' a xs := by
  rcases h with rfl | ⟨b, off, rfl, h⟩
  · exact .inl rfl
  · refine .inr ⟨b, off, rfl, fun j u hu => ?_⟩
    have hj := h j u hu
    rw [World.cell?_of_block (w := w) (a := ⟨b, off + j, none⟩) (hk b (hD _ rfl) (cell_some_lt hj))]
    exact hj
theorem Reads.keepN {w w' : World} {a : Option Addr} {xs : List Value} {g : Nat} (h : Reads w a xs) (hN : ∀ ad, a = some ad → ad.block ≠ g) (hk : ∀ k, k ≠ g → k < w.heap.size → w'.heap[k]? = w.heap[k]?) : Reads w' a xs := by
  rcases h with rfl | ⟨b, off, rfl, h⟩
  · exact .inl rfl
  · refine .inr ⟨b, off, rfl, fun j u hu => ?_⟩
    have hj := h j u hu
    rw [World.cell?_of_block (w := w) (a := ⟨b, off + j, none⟩) (hk b (hN _ rfl) (cell_some_lt hj))]
    exact hj
/-- The world w' is w with new blocks, and with writes to blocks of D alone. -/
structure Kp (D : Nat → Prop) (w w' : World) : Prop where
  os : w'.os = w.os
  tape : w'.tape = w.tape
  output : w'.output = w.output
  size : w.heap.size ≤ w'.heap.size
  block : ∀ k, k < w.heap.size → ¬ D k → w'.heap[k]? = w.heap[k]?
theorem Kp.refl (D : Nat → Prop) (w : World) : Kp D w w := ⟨rfl, rfl, rfl, Nat.le_refl _, fun _ _ _ => rfl⟩
theorem Kp.trans {D : Nat → Prop} {a b c : World} (h : Kp D a b) (k : Kp D b c) : Kp D a c :=
  ⟨k.os.trans h.os, k.tape.trans h.tape, k.output.trans h.output, Nat.le_trans h.size k.size, fun i hi hd => (k.block i (Nat.lt_of_lt_of_le hi h.size) hd).trans (h.block i hi hd)⟩
/-- Blocks that came later may belong to the second set. -/
theorem Kp.trans' {D D' : Nat → Prop} {a b c : World} (h : Kp D a b) (k : Kp D' b c) (hD : ∀ i, D' i → D i ∨ a.heap.size ≤ i) : Kp D a c :=
  ⟨k.os.trans h.os, k.tape.trans h.tape, k.output.trans h.output, Nat.le_trans h.size k.size, fun i hi hd => (k.block i (Nat.lt_of_lt_of_le hi h.size) (fun e => (hD i e).elim hd (by omega))).trans (h.block i hi hd)⟩
theorem Kp.of_below {D : Nat → Prop} {w w' : World} (h : Below w.heap.size w w') : Kp D w w' := ⟨h.os, h.tape, h.output, h.size, fun k hk _ => h.block k hk⟩
theorem Kp.below {D : Nat → Prop} {a w w' : World} (h : Kp D a w) (hb : Below w.heap.size w w') : Kp D a w' := h.trans (.of_below hb)
theorem Kp.put {D : Nat → Prop} {a w : World} (h : Kp D a w) {g o : Nat} (hg : D g ∨ a.heap.size ≤ g) (v : Value) : Kp D a (w.setCell ⟨g, o, none⟩ v) :=
  ⟨h.os, h.tape, h.output, by simpa [World.setCell] using h.size, fun k hk hd => (Below.heap_setCell _ _ _ _ (by show k ≠ g; intro e; subst e; exact hg.elim hd (by omega))).trans (h.block k hk hd)⟩
theorem Kp.drew {D : Nat → Prop} {a w : World} (h : Kp D a w) : Kp D a w.drew := ⟨h.os, h.tape, h.output, h.size, h.block⟩
theorem Kp.to_below {D : Nat → Prop} {w w' : World} {B : Nat} (h : Kp D w w') (hB : B ≤ w.heap.size) (hD : ∀ k, D k → B ≤ k) : Below B w w' := ⟨h.os, h.tape, h.output, h.size, fun k hk => h.block k (by omega) (fun e => by have := hD k e; omega)⟩

/-- The set D with what came between two worlds. -/
def Ex (D : Nat → Prop) (w w' : World) (k : Nat) : Prop := D k ∨ (w.heap.size ≤ k ∧ k < w'.heap.size)
theorem eqlNil (a : Option Addr) (n c : Nat) (w : World) : (binOp .eql 32 (.slice a n c) (.slice none 0 0)).run Try.prog w = .ok (.bool a.isNone) w := by
  cases a <;> kernel_rfl
set_option maxRecDepth 100000 in
set_option maxHeartbeats 400000 in
theorem clone_any (a : Option Addr) (n c : Nat) (xs : List Nat) (w : World) (hl : xs.length = n) (hr : Reads w a (bV xs)) (hnil : a = none → n = 0 ∧ c = 0) (hn : n ≤ 1000000) :
    Calls Try.prog 26 #[.slice a n c] w fun e w' => ∃ v, e = .returned v ∧ w'.ownsRow w.heap.size 5 1 v n (bV xs) ∧ Below w.heap.size w w' := by
  cases a with
  | none =>
    obtain ⟨rfl, rfl⟩ := hnil rfl
    have hx : xs = [] := List.eq_nil_of_length_eq_zero hl
    subst hx
    have hq := eqlNil none 0 0
    go_enter Try.func26, Try.ntmps26
    go_wp2
    go_ret
    exact ⟨_, rfl, World.ownsRow_nil _ _ _ _, Below.refl _ _⟩
  | some ad =>
    have HR := hide hr
    have HL := hide hl
    have hq := eqlNil (some ad) n c
    clear hr hl hnil
    have HO := hide (show (w.alloc (.cells #[] 5)).ownsRow w.heap.size 5 1 (.slice (some ⟨w.heap.size, 0, none⟩) 0 0) 0 (bV []) from World.ownsRow_made w #[] 0 (Nat.le_refl _) (by unfold maxLen; omega) rfl)
    have HB := hide (below_new w (.cells #[] 5))
    go_enter Try.func26, Try.ntmps26
    go_wp2_with (at_builtin; go_must (refine append_bytes rfl (.tmp 5) (.tmp 6) rfl w.heap.size (.slice (some ⟨w.heap.size, 0, none⟩) 0 0) 0 [] rfl HO.out (some ad) n c xs rfl (fun h => by cases h) HL.out (HR.out.below HB.out) (by omega) (by simp) ?_; intro v' w' h1 h2 _))
    go_ret
    refine ⟨_, rfl, by simpa using h1, HB.out.grown h2 (by simp) (fun k hk => by simp [Value.ownBlock] at hk; omega)⟩

theorem open5 {w : World} {B n : Nat} {v : Value} {xs : List Value} (h : w.ownsRow B 5 1 v n xs) : ∃ a c, v = .slice a n c := by
  obtain ⟨a, c, e, _⟩ := own_slice h
  exact ⟨a, c, e⟩

theorem own_keep5 {w w' : World} {B n : Nat} {v : Value} {xs : List Value} (h : w.ownsRow B 5 1 v n xs) (hk : ∀ k, B ≤ k → w'.heap[k]? = w.heap[k]?) : w'.ownsRow B 5 1 v n xs := by
  refine ⟨h.1, ?_⟩
  rcases h.2 with h | ⟨g, cap, cur, e, h1, h2, h3⟩
  · exact .inl h
  · exact .inr ⟨g, cap, cur, e, h1, by rw [hk g h1]; exact h2, h3⟩


theorem own_keep {w w' : World} {B T z n m c : Nat} {a : Option Addr} {xs : List Value} (h : w.ownsRow B T z (.slice a m c) n xs) (hk : ∀ ad, a = some ad → w'.heap[ad.block]? = w.heap[ad.block]?) : w'.ownsRow B T z (.slice a m c) n xs := by
  refine ⟨h.1, ?_⟩
  rcases h.2 with h2 | ⟨g, cap, cur, e, h1, h2, h3⟩
  · exact .inl h2
  · have e' := e
    simp only [Value.slice.injEq] at e
    have h4 := hk _ e.1
    exact .inr ⟨g, cap, cur, e', h1, h4.trans h2, h3⟩
theorem own_base {w : World} {B B' T z n : Nat} {v : Value} {xs : List Value} (h : w.ownsRow B T z v n xs) (hB : B' ≤ B) : w.ownsRow B' T z v n xs := by
  refine ⟨h.1, ?_⟩
  rcases h.2 with h2 | ⟨g, cap, cur, e, h1, h2⟩
  · exact .inl h2
  · exact .inr ⟨g, cap, cur, e, Nat.le_trans hB h1, h2⟩
theorem own_lt {w : World} {B T z n m c : Nat} {a : Option Addr} {xs : List Value} (h : w.ownsRow B T z (.slice a m c) n xs) : ∀ ad, a = some ad → B ≤ ad.block ∧ ad.block < w.heap.size := fun ad e => by
  subst e
  exact h.lt ad.block rfl
/-- Rows of different types lie in different blocks. -/
theorem own_apart {w : World} {B B' T T' z z' n n' m m' c c' : Nat} {a a' : Option Addr} {xs xs' : List Value} (h : w.ownsRow B T z (.slice a m c) n xs) (h' : w.ownsRow B' T' z' (.slice a' m' c') n' xs') (hT : T ≠ T') : ∀ ad ad', a = some ad → a' = some ad' → ad.block ≠ ad'.block := by
  rintro ad ad' rfl rfl e
  rcases h.2 with ⟨h2, _⟩ | ⟨g, cap, cur, e1, _, h2, _⟩
  · cases h2
  rcases h'.2 with ⟨h3, _⟩ | ⟨g', cap', cur', e2, _, h3, _⟩
  · cases h3
  simp only [Value.slice.injEq, Option.some.injEq] at e1 e2
  rw [e1.1, e2.1] at e
  simp only at e
  subst e
  rw [h2] at h3
  simp only [Option.some.injEq, Obj.cells.injEq] at h3
  exact hT h3.2.1

/-- A load of one's own, in blocks of D. -/
def TxO (D : Nat → Prop) (w : World) (t : Txt) : Prop := (t.bs.length = t.len ∧ Byt t.bs ∧ t.len ≤ 4096) ∧ w.ownsRow 0 5 1 (.slice t.a t.len t.cap) t.len (bV t.bs) ∧ ∀ ad, t.a = some ad → D ad.block
theorem TxO.keep {D : Nat → Prop} {w w' : World} {t : Txt} (h : TxO D w t) (hk : ∀ ad, t.a = some ad → w'.heap[ad.block]? = w.heap[ad.block]?) : TxO D w' t := ⟨h.1, own_keep h.2.1 hk, h.2.2⟩
theorem TxO.mono {D D' : Nat → Prop} {w : World} {t : Txt} (h : TxO D w t) (hD : ∀ k, D k → D' k) : TxO D' w t := ⟨h.1, h.2.1, fun ad e => hD _ (h.2.2 ad e)⟩
theorem TxO.lt {D : Nat → Prop} {w : World} {t : Txt} (h : TxO D w t) : ∀ ad, t.a = some ad → ad.block < w.heap.size := fun ad e => (own_lt h.2.1 ad e).2
theorem TxO.below {D : Nat → Prop} {w w' : World} {t : Txt} (h : TxO D w t) (hb : Below w.heap.size w w') : TxO D w' t := h.keep fun ad e => hb.block _ (h.lt ad e)
theorem TxO.reads {D : Nat → Prop} {w : World} {t : Txt} (h : TxO D w t) : Reads w t.a (bV t.bs) ∧ (t.a = none → t.len = 0 ∧ t.cap = 0) ∧ (t.len ≤ t.cap ∧ t.cap ≤ maxLen) := by
  rcases h.2.1.2 with ⟨e, h0⟩ | ⟨g, cap, cur, e, h1, h2, h3, h4, h5, h6⟩
  · simp only [Value.slice.injEq] at e
    have hb : t.bs = [] := List.eq_nil_of_length_eq_zero (by rw [h.1.1]; exact h0)
    exact ⟨.inl (by rw [hb]; rfl), fun _ => ⟨e.2.1, e.2.2⟩, by rw [e.2.1]; exact Nat.zero_le _, by rw [e.2.2]; exact Nat.zero_le _⟩
  · simp only [Value.slice.injEq] at e
    refine ⟨.inr ⟨g, 0, e.1, fun j u hu => ?_⟩, (fun e0 => by rw [e.1] at e0; cases e0), by rw [e.2.2]; exact h3, by rw [e.2.2]; exact h4⟩
    have := World.ownsRow.cells h.2.1 (g := g) (by rw [e.1]; rfl) j u hu
    rwa [add_none] at this
theorem TxO.nil (D : Nat → Prop) (w : World) : TxO D w ⟨none, 0, 0, []⟩ := ⟨⟨rfl, (fun x hx => by cases hx), Nat.zero_le _⟩, World.ownsRow_nil _ _ _ _, fun ad e => by cases e⟩
/-- A row of bytes just made, as a load. -/
theorem txo_new {W w1 : World} {v : Value} {n : Nat} {xs : List Nat} (ho : w1.ownsRow W.heap.size 5 1 v n (bV xs)) (hB : Byt xs) (hn : n ≤ 4096) : ∃ a c, v = .slice a n c ∧ TxO (fun k => W.heap.size ≤ k ∧ k < w1.heap.size) w1 ⟨a, n, c, xs⟩ := by
  have hl := ho.1
  rw [bV_length] at hl
  obtain ⟨a, c, rfl⟩ := open5 ho
  exact ⟨a, c, rfl, ⟨by show xs.length = n; omega, hB, hn⟩, own_base ho (Nat.zero_le _), fun ad e => own_lt ho ad e⟩

/-- An open load in memory; an early one. -/
structure Om where
  t : Txt
  tm : Int
  wt : Int
structure Em where
  t : Txt
  here : Bool
/-- A link's cells. -/
structure Lm where
  last : Int
  used : Int
  acked : Int
  os : Nat → Om
  came : Int
  es : Nat → Em
  owed : Bool
  self : Int
  peer : Int
  life : Int
  theirs : Int
/-- The cells of a link: 49 of one block. -/
structure LinkC (w : World) (g : Nat) (m : Lm) : Prop where
  lt : g < w.heap.size
  fz : ∀ j, j < 49 → w.frozen? ⟨g, j, none⟩ = false
  last : w.cell? ⟨g, 0, none⟩ = some (.int .i64 m.last)
  used : w.cell? ⟨g, 1, none⟩ = some (.int .i64 m.used)
  acked : w.cell? ⟨g, 2, none⟩ = some (.int .i64 m.acked)
  o0 : ∀ k, k < 8 → w.cell? ⟨g, 3 + k * 3, none⟩ = some (.slice (m.os k).t.a (m.os k).t.len (m.os k).t.cap)
  o1 : ∀ k, k < 8 → w.cell? ⟨g, 3 + k * 3 + 1, none⟩ = some (.int .i64 (m.os k).tm)
  o2 : ∀ k, k < 8 → w.cell? ⟨g, 3 + k * 3 + 2, none⟩ = some (.int .i64 (m.os k).wt)
  came : w.cell? ⟨g, 27, none⟩ = some (.int .i64 m.came)
  e0 : ∀ k, k < 8 → w.cell? ⟨g, 28 + k * 2, none⟩ = some (.slice (m.es k).t.a (m.es k).t.len (m.es k).t.cap)
  e1 : ∀ k, k < 8 → w.cell? ⟨g, 28 + k * 2 + 1, none⟩ = some (.bool (m.es k).here)
  owed : w.cell? ⟨g, 44, none⟩ = some (.bool m.owed)
  self : w.cell? ⟨g, 45, none⟩ = some (.int .i64 m.self)
  peer : w.cell? ⟨g, 46, none⟩ = some (.int .i64 m.peer)
  life : w.cell? ⟨g, 47, none⟩ = some (.int .i64 m.life)
  theirs : w.cell? ⟨g, 48, none⟩ = some (.int .i64 m.theirs)
theorem LinkC.keep {w w' : World} {g : Nat} {m : Lm} (h : LinkC w g m) (hs : w.heap.size ≤ w'.heap.size) (hb : w'.heap[g]? = w.heap[g]?) : LinkC w' g m := by
  have hc : ∀ j, w'.cell? ⟨g, j, none⟩ = w.cell? ⟨g, j, none⟩ := fun j => World.cell?_of_block (w := w) (a := ⟨g, j, none⟩) hb
  have hf : ∀ j, w'.frozen? ⟨g, j, none⟩ = w.frozen? ⟨g, j, none⟩ := fun j => World.frozen?_of_block (w := w) (a := ⟨g, j, none⟩) hb
  constructor
  all_goals first | exact Nat.lt_of_lt_of_le h.lt hs | (simp only [hc, hf]; first | exact h.fz | exact h.last | exact h.used | exact h.acked | exact h.o0 | exact h.o1 | exact h.o2 | exact h.came | exact h.e0 | exact h.e1 | exact h.owed | exact h.self | exact h.peer | exact h.life | exact h.theirs)
theorem cset {w : World} {g i j : Nat} {v : Value} (h : j ≠ i) : (w.setCell ⟨g, i, none⟩ v).cell? ⟨g, j, none⟩ = w.cell? ⟨g, j, none⟩ := World.cell?_setCell_other _ _ _ _ (by intro e; simp only [Addr.mk.injEq] at e; omega)
theorem size_set (w : World) (p : Addr) (v : Value) : (w.setCell p v).heap.size = w.heap.size := by simp [World.setCell]
theorem LinkC.put_used {w : World} {g : Nat} {m : Lm} (h : LinkC w g m) (x : Int) : LinkC (w.setCell ⟨g, 1, none⟩ (.int .i64 x)) g { m with used := x } := by
  constructor
  · rw [size_set]; exact h.lt
  · intro j hj; rw [World.frozen?_setCell]; exact h.fz j hj
  · rw [cset (by omega)]; exact h.last
  · exact World.cell?_setCell_same _ _ _ h.used
  · rw [cset (by omega)]; exact h.acked
  · intro k hk; rw [cset (by omega)]; exact h.o0 k hk
  · intro k hk; rw [cset (by omega)]; exact h.o1 k hk
  · intro k hk; rw [cset (by omega)]; exact h.o2 k hk
  · rw [cset (by omega)]; exact h.came
  · intro k hk; rw [cset (by omega)]; exact h.e0 k hk
  · intro k hk; rw [cset (by omega)]; exact h.e1 k hk
  · rw [cset (by omega)]; exact h.owed
  · rw [cset (by omega)]; exact h.self
  · rw [cset (by omega)]; exact h.peer
  · rw [cset (by omega)]; exact h.life
  · rw [cset (by omega)]; exact h.theirs
theorem LinkC.put_acked {w : World} {g : Nat} {m : Lm} (h : LinkC w g m) (x : Int) : LinkC (w.setCell ⟨g, 2, none⟩ (.int .i64 x)) g { m with acked := x } := by
  constructor
  · rw [size_set]; exact h.lt
  · intro j hj; rw [World.frozen?_setCell]; exact h.fz j hj
  · rw [cset (by omega)]; exact h.last
  · rw [cset (by omega)]; exact h.used
  · exact World.cell?_setCell_same _ _ _ h.acked
  · intro k hk; rw [cset (by omega)]; exact h.o0 k hk
  · intro k hk; rw [cset (by omega)]; exact h.o1 k hk
  · intro k hk; rw [cset (by omega)]; exact h.o2 k hk
  · rw [cset (by omega)]; exact h.came
  · intro k hk; rw [cset (by omega)]; exact h.e0 k hk
  · intro k hk; rw [cset (by omega)]; exact h.e1 k hk
  · rw [cset (by omega)]; exact h.owed
  · rw [cset (by omega)]; exact h.self
  · rw [cset (by omega)]; exact h.peer
  · rw [cset (by omega)]; exact h.life
  · rw [cset (by omega)]; exact h.theirs
theorem LinkC.put_came {w : World} {g : Nat} {m : Lm} (h : LinkC w g m) (x : Int) : LinkC (w.setCell ⟨g, 27, none⟩ (.int .i64 x)) g { m with came := x } := by
  constructor
  · rw [size_set]; exact h.lt
  · intro j hj; rw [World.frozen?_setCell]; exact h.fz j hj
  · rw [cset (by omega)]; exact h.last
  · rw [cset (by omega)]; exact h.used
  · rw [cset (by omega)]; exact h.acked
  · intro k hk; rw [cset (by omega)]; exact h.o0 k hk
  · intro k hk; rw [cset (by omega)]; exact h.o1 k hk
  · intro k hk; rw [cset (by omega)]; exact h.o2 k hk
  · exact World.cell?_setCell_same _ _ _ h.came
  · intro k hk; rw [cset (by omega)]; exact h.e0 k hk
  · intro k hk; rw [cset (by omega)]; exact h.e1 k hk
  · rw [cset (by omega)]; exact h.owed
  · rw [cset (by omega)]; exact h.self
  · rw [cset (by omega)]; exact h.peer
  · rw [cset (by omega)]; exact h.life
  · rw [cset (by omega)]; exact h.theirs
theorem LinkC.put_owed {w : World} {g : Nat} {m : Lm} (h : LinkC w g m) (x : Bool) : LinkC (w.setCell ⟨g, 44, none⟩ (.bool x)) g { m with owed := x } := by
  constructor
  · rw [size_set]; exact h.lt
  · intro j hj; rw [World.frozen?_setCell]; exact h.fz j hj
  · rw [cset (by omega)]; exact h.last
  · rw [cset (by omega)]; exact h.used
  · rw [cset (by omega)]; exact h.acked
  · intro k hk; rw [cset (by omega)]; exact h.o0 k hk
  · intro k hk; rw [cset (by omega)]; exact h.o1 k hk
  · intro k hk; rw [cset (by omega)]; exact h.o2 k hk
  · rw [cset (by omega)]; exact h.came
  · intro k hk; rw [cset (by omega)]; exact h.e0 k hk
  · intro k hk; rw [cset (by omega)]; exact h.e1 k hk
  · exact World.cell?_setCell_same _ _ _ h.owed
  · rw [cset (by omega)]; exact h.self
  · rw [cset (by omega)]; exact h.peer
  · rw [cset (by omega)]; exact h.life
  · rw [cset (by omega)]; exact h.theirs

def upd {α : Type} (f : Nat → α) (k : Nat) (x : α) : Nat → α := fun j => if j = k then x else f j
theorem upd_same {α : Type} (f : Nat → α) (k : Nat) (x : α) : upd f k x k = x := by simp [upd]
theorem upd_ne {α : Type} (f : Nat → α) (k j : Nat) (x : α) (h : j ≠ k) : upd f k x j = f j := by simp [upd, h]
/-- An open load's three cells are stored. -/
theorem LinkC.put_o {w : World} {g : Nat} {m : Lm} (h : LinkC w g m) (k : Nat) (hk : k < 8) (x : Om) : LinkC (put3 w g (3 + k * 3) (.slice x.t.a x.t.len x.t.cap) (.int .i64 x.tm) (.int .i64 x.wt)) g { m with os := upd m.os k x } := by
  have s0 : ∀ j, j ≠ 3 + k * 3 → j ≠ 3 + k * 3 + 1 → j ≠ 3 + k * 3 + 2 → (put3 w g (3 + k * 3) (.slice x.t.a x.t.len x.t.cap) (.int .i64 x.tm) (.int .i64 x.wt)).cell? ⟨g, j, none⟩ = w.cell? ⟨g, j, none⟩ := fun j h1 h2 h3 => by
    unfold put3
    rw [cset h3, cset h2, cset h1]
  constructor
  · rw [put3_size]; exact h.lt
  · intro j hj; unfold put3; rw [World.frozen?_setCell, World.frozen?_setCell, World.frozen?_setCell]; exact h.fz j hj
  · rw [s0 _ (by omega) (by omega) (by omega)]; exact h.last
  · rw [s0 _ (by omega) (by omega) (by omega)]; exact h.used
  · rw [s0 _ (by omega) (by omega) (by omega)]; exact h.acked
  · intro j hj
    by_cases e : j = k
    · subst e
      simp only [upd_same]
      unfold put3
      rw [cset (by omega), cset (by omega)]
      exact World.cell?_setCell_same _ _ _ (h.o0 j hj)
    · simp only [upd_ne m.os k j x e]
      rw [s0 _ (by omega) (by omega) (by omega)]; exact h.o0 j hj
  · intro j hj
    by_cases e : j = k
    · subst e
      simp only [upd_same]
      unfold put3
      rw [cset (by omega)]
      exact World.cell?_setCell_same _ _ _ (by rw [cset (by omega)]; exact h.o1 j hj)
    · simp only [upd_ne m.os k j x e]
      rw [s0 _ (by omega) (by omega) (by omega)]; exact h.o1 j hj
  · intro j hj
    by_cases e : j = k
    · subst e
      simp only [upd_same]
      unfold put3
      exact World.cell?_setCell_same _ _ _ (by rw [cset (by omega), cset (by omega)]; exact h.o2 j hj)
    · simp only [upd_ne m.os k j x e]
      rw [s0 _ (by omega) (by omega) (by omega)]; exact h.o2 j hj
  · rw [s0 _ (by omega) (by omega) (by omega)]; exact h.came
  · intro j hj; rw [s0 _ (by omega) (by omega) (by omega)]; exact h.e0 j hj
  · intro j hj; rw [s0 _ (by omega) (by omega) (by omega)]; exact h.e1 j hj
  · rw [s0 _ (by omega) (by omega) (by omega)]; exact h.owed
  · rw [s0 _ (by omega) (by omega) (by omega)]; exact h.self
  · rw [s0 _ (by omega) (by omega) (by omega)]; exact h.peer
  · rw [s0 _ (by omega) (by omega) (by omega)]; exact h.life
  · rw [s0 _ (by omega) (by omega) (by omega)]; exact h.theirs
def put2 (w : World) (g o : Nat) (x y : Value) : World := (w.setCell ⟨g, o, none⟩ x).setCell ⟨g, o + 1, none⟩ y
theorem put2_keep {w : World} {g o k : Nat} (h : k ≠ g) (x y : Value) : (put2 w g o x y).heap[k]? = w.heap[k]? := by
  unfold put2
  rw [Below.heap_setCell _ _ _ _ (by exact h), Below.heap_setCell _ _ _ _ (by exact h)]
theorem put2_size (w : World) (g o : Nat) (x y : Value) : (put2 w g o x y).heap.size = w.heap.size := by simp [put2, World.setCell]
/-- An early load's two cells are stored. -/
theorem LinkC.put_e {w : World} {g : Nat} {m : Lm} (h : LinkC w g m) (k : Nat) (hk : k < 8) (x : Em) : LinkC (put2 w g (28 + k * 2) (.slice x.t.a x.t.len x.t.cap) (.bool x.here)) g { m with es := upd m.es k x } := by
  have s0 : ∀ j, j ≠ 28 + k * 2 → j ≠ 28 + k * 2 + 1 → (put2 w g (28 + k * 2) (.slice x.t.a x.t.len x.t.cap) (.bool x.here)).cell? ⟨g, j, none⟩ = w.cell? ⟨g, j, none⟩ := fun j h1 h2 => by
    unfold put2
    rw [cset h2, cset h1]
  constructor
  · rw [put2_size]; exact h.lt
  · intro j hj; unfold put2; rw [World.frozen?_setCell, World.frozen?_setCell]; exact h.fz j hj
  · rw [s0 _ (by omega) (by omega)]; exact h.last
  · rw [s0 _ (by omega) (by omega)]; exact h.used
  · rw [s0 _ (by omega) (by omega)]; exact h.acked
  · intro j hj; rw [s0 _ (by omega) (by omega)]; exact h.o0 j hj
  · intro j hj; rw [s0 _ (by omega) (by omega)]; exact h.o1 j hj
  · intro j hj; rw [s0 _ (by omega) (by omega)]; exact h.o2 j hj
  · rw [s0 _ (by omega) (by omega)]; exact h.came
  · intro j hj
    by_cases e : j = k
    · subst e
      simp only [upd_same]
      unfold put2
      rw [cset (by omega)]
      exact World.cell?_setCell_same _ _ _ (h.e0 j hj)
    · simp only [upd_ne m.es k j x e]
      rw [s0 _ (by omega) (by omega)]; exact h.e0 j hj
  · intro j hj
    by_cases e : j = k
    · subst e
      simp only [upd_same]
      unfold put2
      exact World.cell?_setCell_same _ _ _ (by rw [cset (by omega)]; exact h.e1 j hj)
    · simp only [upd_ne m.es k j x e]
      rw [s0 _ (by omega) (by omega)]; exact h.e1 j hj
  · rw [s0 _ (by omega) (by omega)]; exact h.owed
  · rw [s0 _ (by omega) (by omega)]; exact h.self
  · rw [s0 _ (by omega) (by omega)]; exact h.peer
  · rw [s0 _ (by omega) (by omega)]; exact h.life
  · rw [s0 _ (by omega) (by omega)]; exact h.theirs

/-- What a link's cells lead to lies in blocks of D, none of it in its own block. -/
structure OwnL (D : Nat → Prop) (w : World) (g : Nat) (m : Lm) : Prop where
  dg : D g
  dl : ∀ k, D k → k < w.heap.size
  o : ∀ k, k < 8 → TxO D w (m.os k).t ∧ ∀ ad, (m.os k).t.a = some ad → ad.block ≠ g
  e : ∀ k, k < 8 → TxO D w (m.es k).t ∧ ∀ ad, (m.es k).t.a = some ad → ad.block ≠ g
theorem OwnL.keep {D : Nat → Prop} {w w' : World} {g : Nat} {m : Lm} (h : OwnL D w g m) (hs : w.heap.size ≤ w'.heap.size) (hk : ∀ k, D k → k ≠ g → w'.heap[k]? = w.heap[k]?) : OwnL D w' g m :=
  ⟨h.dg, fun k hd => Nat.lt_of_lt_of_le (h.dl k hd) hs, fun k h8 => ⟨(h.o k h8).1.keep fun ad e => hk _ ((h.o k h8).1.2.2 ad e) ((h.o k h8).2 ad e), (h.o k h8).2⟩, fun k h8 => ⟨(h.e k h8).1.keep fun ad e => hk _ ((h.e k h8).1.2.2 ad e) ((h.e k h8).2 ad e), (h.e k h8).2⟩⟩
theorem OwnL.mono {D D' : Nat → Prop} {w : World} {g : Nat} {m : Lm} (h : OwnL D w g m) (hD : ∀ k, D k → D' k) (hl : ∀ k, D' k → k < w.heap.size) : OwnL D' w g m :=
  ⟨hD _ h.dg, hl, fun k h8 => ⟨(h.o k h8).1.mono hD, (h.o k h8).2⟩, fun k h8 => ⟨(h.e k h8).1.mono hD, (h.e k h8).2⟩⟩
theorem OwnL.put_o {D : Nat → Prop} {w : World} {g : Nat} {m : Lm} (h : OwnL D w g m) (k : Nat) (x : Om) (hx : TxO D w x.t) (hg : ∀ ad, x.t.a = some ad → ad.block ≠ g) : OwnL D w g { m with os := upd m.os k x } :=
  ⟨h.dg, h.dl, fun j hj => by
    by_cases e : j = k
    · subst e; simp only [upd_same]; exact ⟨hx, hg⟩
    · simp only [upd_ne m.os k j x e]; exact h.o j hj, h.e⟩
theorem OwnL.put_e {D : Nat → Prop} {w : World} {g : Nat} {m : Lm} (h : OwnL D w g m) (k : Nat) (x : Em) (hx : TxO D w x.t) (hg : ∀ ad, x.t.a = some ad → ad.block ≠ g) : OwnL D w g { m with es := upd m.es k x } :=
  ⟨h.dg, h.dl, h.o, fun j hj => by
    by_cases e : j = k
    · subst e; simp only [upd_same]; exact ⟨hx, hg⟩
    · simp only [upd_ne m.es k j x e]; exact h.e j hj⟩

end Go.Proofs.Ytofigofaiadffaa
