/- Parcels in memory; a row of parcels; a net. -/
import Derived.Test.YtmjglgdihlomlaaBase
import Derived.BigQuiet
import Derived.BigRegion
import Derived.ArgAppend
import Derived.Deep.Cut
namespace Go.Proofs.Ytmjglgdihlomlaa
open Go.RowKit Go.ChangeShapes Go.WideShapes Go.ChangeAt Go.Deep

/-- A block whose first cells are these, all to be written. -/
def BoxL (w : World) (g : Nat) (xs : List Value) : Prop := g < w.heap.size ∧ ∀ j (h : j < xs.length), w.cell? ⟨g, j, none⟩ = some xs[j] ∧ w.frozen? ⟨g, j, none⟩ = false

theorem BoxL.grown {w w' : World} {g c : Nat} {xs : List Value} (h : BoxL w g xs) (hg : w.grownBy w' (some c)) (hc : g ≠ c) : BoxL w' g xs := by
  have hb := hg.block g h.1 (by simpa using hc)
  refine ⟨Nat.lt_of_lt_of_le h.1 hg.size, fun j hj => ⟨?_, ?_⟩⟩
  · rw [World.cell?_of_block (w := w) (a := ⟨g, j, none⟩) hb]; exact (h.2 j hj).1
  · rw [World.frozen?_of_block (w := w) (a := ⟨g, j, none⟩) hb]; exact (h.2 j hj).2

theorem BoxL.below {w w' : World} {g : Nat} {xs : List Value} (h : BoxL w g xs) (hb : Below w.heap.size w w') : BoxL w' g xs :=
  ⟨Nat.lt_of_lt_of_le h.1 hb.size, fun j hj => ⟨keep_cell (h.2 j hj).1 hb, by rw [keep_frozen (h.2 j hj).1 hb]; exact (h.2 j hj).2⟩⟩

theorem BoxL.put {w : World} {g : Nat} {xs : List Value} (h : BoxL w g xs) (i : Nat) (v : Value) : BoxL (w.setCell ⟨g, i, none⟩ v) g (xs.set i v) := by
  refine ⟨by simpa [World.setCell] using h.1, fun j hj => ⟨?_, ?_⟩⟩
  · rw [List.length_set] at hj
    by_cases e : i = j
    · subst e
      rw [List.getElem_set_self]
      exact World.cell?_setCell_same _ _ _ (h.2 i hj).1
    · rw [List.getElem_set_ne e, World.cell?_setCell_other (h := by simp)]
      exact (h.2 j hj).1
  · rw [List.length_set] at hj
    simpa using (h.2 j hj).2

theorem BoxL.new (w : World) (xs : List Value) (t : TypeId) : BoxL (w.alloc (.cells xs.toArray t)) w.heap.size xs := by
  refine ⟨by simp, fun j hj => ⟨?_, World.frozen?_alloc_at _ _ _ _ rfl⟩⟩
  rw [World.cell?_alloc_at _ _ _ _ rfl]
  simp [hj]

theorem below_new (w : World) (o : Obj) : Below w.heap.size w (w.alloc o) := (Below.refl _ _).alloc (Nat.le_refl _) o
theorem box2 (w : World) (L M : List Value) (t u : TypeId) : BoxL ((w.alloc (.cells L.toArray t)).alloc (.cells M.toArray u)) w.heap.size L ∧ BoxL ((w.alloc (.cells L.toArray t)).alloc (.cells M.toArray u)) (w.heap.size + 1) M ∧ Below w.heap.size w ((w.alloc (.cells L.toArray t)).alloc (.cells M.toArray u)) ∧ ((w.alloc (.cells L.toArray t)).alloc (.cells M.toArray u)).heap.size = w.heap.size + 2 := by
  have b1 := below_new w (.cells L.toArray t)
  have b2 := below_new (w.alloc (.cells L.toArray t)) (.cells M.toArray u)
  have e : (w.alloc (.cells L.toArray t)).heap.size = w.heap.size + 1 := by simp
  refine ⟨(BoxL.new w L t).below b2, ?_, b1.trans (b2.mono b1.size), by simp⟩
  have h := BoxL.new (w.alloc (.cells L.toArray t)) M u
  rw [e] at h
  exact h
theorem BoxL.c3 {w : World} {g : Nat} {x y z : Value} (h : BoxL w g [x, y, z]) : w.cell? ⟨g, 0, none⟩ = some x ∧ w.cell? ⟨g, 1, none⟩ = some y ∧ w.cell? ⟨g, 2, none⟩ = some z := ⟨(h.2 0 (by simp)).1, (h.2 1 (by simp)).1, (h.2 2 (by simp)).1⟩
theorem BoxL.f3 {w : World} {g : Nat} {x y z : Value} (h : BoxL w g [x, y, z]) : w.frozen? ⟨g, 0, none⟩ = false ∧ w.frozen? ⟨g, 1, none⟩ = false ∧ w.frozen? ⟨g, 2, none⟩ = false := ⟨(h.2 0 (by simp)).2, (h.2 1 (by simp)).2, (h.2 2 (by simp)).2⟩
theorem BoxL.keep {w w' : World} {g : Nat} {xs : List Value} (h : BoxL w g xs) (hs : w.heap.size ≤ w'.heap.size) (hb : w'.heap[g]? = w.heap[g]?) : BoxL w' g xs :=
  ⟨Nat.lt_of_lt_of_le h.1 hs, fun j hj => ⟨by rw [World.cell?_of_block (w := w) (a := ⟨g, j, none⟩) hb]; exact (h.2 j hj).1, by rw [World.frozen?_of_block (w := w) (a := ⟨g, j, none⟩) hb]; exact (h.2 j hj).2⟩⟩
/-- Three cells side by side are stored. -/
def put3 (w : World) (g o : Nat) (x y z : Value) : World := ((w.setCell ⟨g, o, none⟩ x).setCell ⟨g, o + 1, none⟩ y).setCell ⟨g, o + 2, none⟩ z
theorem put3_box {w : World} {g : Nat} {a b c : Value} (h : BoxL w g [a, b, c]) (x y z : Value) : BoxL (put3 w g 0 x y z) g [x, y, z] := ((h.put 0 x).put 1 y).put 2 z
theorem put3_keep {w : World} {g o k : Nat} (h : k ≠ g) (x y z : Value) : (put3 w g o x y z).heap[k]? = w.heap[k]? := by
  unfold put3
  rw [Below.heap_setCell _ _ _ _ (by exact h), Below.heap_setCell _ _ _ _ (by exact h), Below.heap_setCell _ _ _ _ (by exact h)]
theorem put3_size (w : World) (g o : Nat) (x y z : Value) : (put3 w g o x y z).heap.size = w.heap.size := by simp [put3, World.setCell]
theorem put3_below {a w : World} {B g o : Nat} (h : Below B a w) (hg : B ≤ g) (x y z : Value) : Below B a (put3 w g o x y z) := ((h.setCell (p := ⟨g, o, none⟩) hg x).setCell (p := ⟨g, o + 1, none⟩) hg y).setCell (p := ⟨g, o + 2, none⟩) hg z

/-- A parcel, plain: From, To, Bytes. -/
abbrev Pc := Int × Int × List Nat
/-- A parcel in memory: what it is, and where its bytes lie. -/
structure Pm where
  p : Pc
  a : Option Addr
  n : Nat
  c : Nat
def Pm.cs (x : Pm) : List Value := [.int .i64 x.p.1, .int .i64 x.p.2.1, .slice x.a x.n x.c]
def Pm.val (x : Pm) : Value := .agg #[.int .i64 x.p.1, .int .i64 x.p.2.1, .slice x.a x.n x.c]
def cV (l : List Pm) : List Value := l.flatMap Pm.cs
theorem cV_len (l : List Pm) : (cV l).length = l.length * 3 := by
  induction l with
  | nil => rfl
  | cons a r ih => show (Pm.cs a ++ cV r).length = _; simp [ih, Pm.cs]; omega
theorem cV_app (a b : List Pm) : cV (a ++ b) = cV a ++ cV b := by simp [cV]
theorem cV_one (l : List Pm) : ∀ u ∈ cV l, u.oneCell' = true := fun u hu => by
  simp only [cV, List.mem_flatMap] at hu
  obtain ⟨y, _, hy⟩ := hu
  simp [Pm.cs] at hy
  rcases hy with rfl | rfl | rfl <;> rfl
theorem cV_at (l : List Pm) (k : Nat) (h : k < l.length) : (cV l)[3 * k]? = some (.int .i64 l[k].p.1) ∧ (cV l)[3 * k + 1]? = some (.int .i64 l[k].p.2.1) ∧ (cV l)[3 * k + 2]? = some (.slice l[k].a l[k].n l[k].c) := by
  induction l generalizing k with
  | nil => simp at h
  | cons a r ih =>
    have e : cV (a :: r) = .int .i64 a.p.1 :: .int .i64 a.p.2.1 :: .slice a.a a.n a.c :: cV r := by simp [cV, Pm.cs]
    rw [e]
    cases k with
    | zero => simp
    | succ k =>
      have := ih k (by simpa using h)
      rw [show 3 * (k + 1) = 3 * k + 1 + 1 + 1 by omega, show 3 * k + 1 + 1 + 1 + 1 = (3 * k + 1) + 1 + 1 + 1 by omega, show 3 * k + 1 + 1 + 1 + 2 = (3 * k + 2) + 1 + 1 + 1 by omega]
      simpa using this
/-- The places of a row of parcels, told one parcel at a time. -/
theorem cV_of {f : Nat → Option Value} {l : List Pm} (h : ∀ k (hk : k < l.length), f (3 * k) = some (.int .i64 l[k].p.1) ∧ f (3 * k + 1) = some (.int .i64 l[k].p.2.1) ∧ f (3 * k + 2) = some (.slice l[k].a l[k].n l[k].c)) : ∀ j u, (cV l)[j]? = some u → f j = some u := by
  intro j u hu
  have hj : j < l.length * 3 := by
    have := (List.getElem?_eq_some_iff.1 hu).1
    rw [cV_len] at this; exact this
  have hk : j / 3 < l.length := by omega
  have h1 := h _ hk
  have h2 := cV_at l _ hk
  have hd : j = 3 * (j / 3) ∨ j = 3 * (j / 3) + 1 ∨ j = 3 * (j / 3) + 2 := by omega
  rcases hd with e | e | e
  · rw [e] at hu ⊢
    rw [h2.1] at hu; rw [h1.1]; exact hu
  · rw [e] at hu ⊢
    rw [h2.2.1] at hu; rw [h1.2.1]; exact hu
  · rw [e] at hu ⊢
    rw [h2.2.2] at hu; rw [h1.2.2]; exact hu

/-- A parcel's bytes lie in memory, in a block of D. -/
def Pm.ok (D : Nat → Prop) (w : World) (x : Pm) : Prop :=
  x.p.2.2.length = x.n ∧ Byt x.p.2.2 ∧ (x.n ≤ x.c ∧ x.c ≤ maxLen) ∧ (x.a = none → x.n = 0 ∧ x.c = 0) ∧ Reads w x.a (bV x.p.2.2) ∧ ∀ ad, x.a = some ad → D ad.block
theorem Reads.keepD {D : Nat → Prop} {w w' : World} {a : Option Addr} {xs : List Value} (h : Reads w a xs) (hD : ∀ ad, a = some ad → D ad.block) (hk : ∀ k, D k → k < w.heap.size → w'.heap[k]? = w.heap[k]?) : Reads w' a xs := by
  rcases h with rfl | ⟨b, off, rfl, h⟩
  · exact .inl rfl
  · refine .inr ⟨b, off, rfl, fun j u hu => ?_⟩
    have hj := h j u hu
    rw [World.cell?_of_block (w := w) (a := ⟨b, off + j, none⟩) (hk b (hD _ rfl) (cell_some_lt hj))]
    exact hj
theorem Pm.ok.keep {D : Nat → Prop} {w w' : World} {x : Pm} (h : x.ok D w) (hk : ∀ k, D k → k < w.heap.size → w'.heap[k]? = w.heap[k]?) : x.ok D w' := by
  obtain ⟨h1, h2, h3, h4, h5, h6⟩ := h
  exact ⟨h1, h2, h3, h4, h5.keepD h6 hk, h6⟩
theorem Pm.ok.mono {D D' : Nat → Prop} {w : World} {x : Pm} (h : x.ok D w) (hD : ∀ k, D k → D' k) : x.ok D' w := by
  obtain ⟨h1, h2, h3, h4, h5, h6⟩ := h
  exact ⟨h1, h2, h3, h4, h5, fun ad e => hD _ (h6 ad e)⟩

/-- A row of parcels that is read: a slice of n with room for c. -/
def RowS (D : Nat → Prop) (w : World) (a : Option Addr) (n c : Nat) (l : List Pm) : Prop :=
  l.length = n ∧ (n ≤ c ∧ c ≤ maxLen) ∧ (a = none → n = 0 ∧ c = 0) ∧ Reads w a (cV l) ∧ (∀ ad, a = some ad → D ad.block) ∧ ∀ x ∈ l, x.ok D w
theorem RowS.keep {D : Nat → Prop} {w w' : World} {a : Option Addr} {n c : Nat} {l : List Pm} (h : RowS D w a n c l) (hk : ∀ k, D k → k < w.heap.size → w'.heap[k]? = w.heap[k]?) : RowS D w' a n c l := by
  obtain ⟨h1, h2, h3, h4, h5, h6⟩ := h
  exact ⟨h1, h2, h3, h4.keepD h5 hk, h5, fun x hx => (h6 x hx).keep hk⟩
theorem RowS.below {D : Nat → Prop} {w w' : World} {a : Option Addr} {n c : Nat} {l : List Pm} (h : RowS D w a n c l) (hb : Below w.heap.size w w') : RowS D w' a n c l := h.keep fun k _ hk => hb.block k hk
theorem RowS.mono {D D' : Nat → Prop} {w : World} {a : Option Addr} {n c : Nat} {l : List Pm} (h : RowS D w a n c l) (hD : ∀ k, D k → D' k) : RowS D' w a n c l := by
  obtain ⟨h1, h2, h3, h4, h5, h6⟩ := h
  exact ⟨h1, h2, h3, h4, fun ad e => hD _ (h5 ad e), fun x hx => (h6 x hx).mono hD⟩
/-- The row's cells, at one place. -/
theorem RowS.at {D : Nat → Prop} {w : World} {a : Option Addr} {n c : Nat} {l : List Pm} (h : RowS D w a n c l) {k : Nat} (hk : k < l.length) :
    ∃ b off, a = some ⟨b, off, none⟩ ∧ w.cell? ⟨b, off + k * 3, none⟩ = some (.int .i64 l[k].p.1) ∧ w.cell? ⟨b, off + k * 3 + 1, none⟩ = some (.int .i64 l[k].p.2.1) ∧ w.cell? ⟨b, off + k * 3 + 2, none⟩ = some (.slice l[k].a l[k].n l[k].c) := by
  rcases h.2.2.2.1 with e | ⟨b, off, e, hr⟩
  · have := cV_len l
    rw [e] at this
    simp at this
    omega
  · obtain ⟨h1, h2, h3⟩ := cV_at l k hk
    rw [Nat.mul_comm] at h1 h2 h3
    exact ⟨b, off, e, hr _ _ h1, hr _ _ h2, hr _ _ h3⟩

/-- A parcel that is read alone: of a parcel without bytes nothing is told but that. -/
def Pm.okA (D : Nat → Prop) (w : World) (x : Pm) : Prop :=
  x.p.2.2.length = x.n ∧ Byt x.p.2.2 ∧ (x.n ≤ x.c ∧ x.c ≤ maxLen) ∧ (x.a = none → x.n = 0 ∧ x.c = 0) ∧ Reads w x.a (bV x.p.2.2) ∧ ∀ ad, x.a = some ad → 0 < x.n → D ad.block
theorem Reads.keepA {D : Nat → Prop} {w w' : World} {a : Option Addr} {xs : List Value} (h : Reads w a xs) (hD : ∀ ad, a = some ad → 0 < xs.length → D ad.block) (hk : ∀ k, D k → k < w.heap.size → w'.heap[k]? = w.heap[k]?) : Reads w' a xs := by
  rcases h with rfl | ⟨b, off, rfl, h⟩
  · exact .inl rfl
  · refine .inr ⟨b, off, rfl, fun j u hu => ?_⟩
    have hj := h j u hu
    have hp : 0 < xs.length := Nat.lt_of_le_of_lt (Nat.zero_le _) (List.getElem?_eq_some_iff.1 hu).1
    rw [World.cell?_of_block (w := w) (a := ⟨b, off + j, none⟩) (hk b (hD _ rfl hp) (cell_some_lt hj))]
    exact hj
theorem Pm.okA.keep {D : Nat → Prop} {w w' : World} {x : Pm} (h : x.okA D w) (hk : ∀ k, D k → k < w.heap.size → w'.heap[k]? = w.heap[k]?) : x.okA D w' := by
  obtain ⟨h1, h2, h3, h4, h5, h6⟩ := h
  exact ⟨h1, h2, h3, h4, h5.keepA (fun ad e h => h6 ad e (by rw [bV_length] at h; omega)) hk, h6⟩
theorem Pm.ok.weak {D : Nat → Prop} {w : World} {x : Pm} (h : x.ok D w) : x.okA D w := by
  obtain ⟨h1, h2, h3, h4, h5, h6⟩ := h
  exact ⟨h1, h2, h3, h4, h5, fun ad e _ => h6 ad e⟩
/-- A row of parcels that is read alone. -/
def RowP (D : Nat → Prop) (w : World) (a : Option Addr) (n c : Nat) (l : List Pm) : Prop :=
  l.length = n ∧ (n ≤ c ∧ c ≤ maxLen) ∧ (a = none → n = 0 ∧ c = 0) ∧ Reads w a (cV l) ∧ (∀ ad, a = some ad → 0 < n → D ad.block) ∧ ∀ x ∈ l, x.okA D w
theorem RowP.keep {D : Nat → Prop} {w w' : World} {a : Option Addr} {n c : Nat} {l : List Pm} (h : RowP D w a n c l) (hk : ∀ k, D k → k < w.heap.size → w'.heap[k]? = w.heap[k]?) : RowP D w' a n c l := by
  obtain ⟨h1, h2, h3, h4, h5, h6⟩ := h
  exact ⟨h1, h2, h3, h4.keepA (fun ad e h => h5 ad e (by rw [cV_len] at h; omega)) hk, h5, fun x hx => (h6 x hx).keep hk⟩
theorem RowP.below {D : Nat → Prop} {w w' : World} {a : Option Addr} {n c : Nat} {l : List Pm} (h : RowP D w a n c l) (hb : Below w.heap.size w w') : RowP D w' a n c l := h.keep fun k _ hk => hb.block k hk
theorem RowS.weak {D : Nat → Prop} {w : World} {a : Option Addr} {n c : Nat} {l : List Pm} (h : RowS D w a n c l) : RowP D w a n c l := by
  obtain ⟨h1, h2, h3, h4, h5, h6⟩ := h
  exact ⟨h1, h2, h3, h4, fun ad e _ => h5 ad e, fun x hx => (h6 x hx).weak⟩
theorem RowP.at {D : Nat → Prop} {w : World} {a : Option Addr} {n c : Nat} {l : List Pm} (h : RowP D w a n c l) {k : Nat} (hk : k < l.length) :
    ∃ b off, a = some ⟨b, off, none⟩ ∧ w.cell? ⟨b, off + k * 3, none⟩ = some (.int .i64 l[k].p.1) ∧ w.cell? ⟨b, off + k * 3 + 1, none⟩ = some (.int .i64 l[k].p.2.1) ∧ w.cell? ⟨b, off + k * 3 + 2, none⟩ = some (.slice l[k].a l[k].n l[k].c) := by
  rcases h.2.2.2.1 with e | ⟨b, off, e, hr⟩
  · have := cV_len l
    rw [e] at this
    simp at this
    omega
  · obtain ⟨h1, h2, h3⟩ := cV_at l k hk
    rw [Nat.mul_comm] at h1 h2 h3
    exact ⟨b, off, e, hr _ _ h1, hr _ _ h2, hr _ _ h3⟩

/-- A row of parcels of one's own: its room may be written. -/
def RowO (D : Nat → Prop) (w : World) (a : Option Addr) (n c : Nat) (l : List Pm) : Prop :=
  RowS D w a n c l ∧ ∀ ad, a = some ad → ∃ g off, ad = ⟨g, off, none⟩ ∧ (∀ j, j < c * 3 → (w.cell? ⟨g, off + j, none⟩).isSome = true ∧ w.frozen? ⟨g, off + j, none⟩ = false) ∧ ∀ x ∈ l, ∀ ad', x.a = some ad' → ad'.block ≠ g

/-- The world w' is w with new blocks, and with writes to blocks of D alone. -/
structure Kp (D : Nat → Prop) (w w' : World) : Prop where
  os : w'.os = w.os
  tape : w'.tape = w.tape
  output : w'.output = w.output
  size : w.heap.size ≤ w'.heap.size
  block : ∀ k, k < w.heap.size → ¬ D k → w'.heap[k]? = w.heap[k]?
theorem Kp.refl (D : Nat → Prop) (w : World) : Kp D w w := ⟨rfl, rfl, rfl, Nat.le_refl _, fun _ _ _ => rfl⟩
theorem Kp.trans {D : Nat → Prop} {a b c : World} (h : Kp D a b) (k : Kp D b c) : Kp D a c :=
  ⟨k.os.trans h.os, k.tape.trans h.tape, k.output.trans h.output, Nat.le_trans h.size k.size, fun i hi hd => (k.block i (Nat.lt_of_lt_of_le hi h.size) hd).trans (h.block i hi hd)⟩
/-- Blocks that came later may belong to the second set. -/
theorem Kp.trans' {D D' : Nat → Prop} {a b c : World} (h : Kp D a b) (k : Kp D' b c) (hD : ∀ i, D' i → D i ∨ a.heap.size ≤ i) : Kp D a c :=
  ⟨k.os.trans h.os, k.tape.trans h.tape, k.output.trans h.output, Nat.le_trans h.size k.size, fun i hi hd => (k.block i (Nat.lt_of_lt_of_le hi h.size) (fun e => (hD i e).elim hd (by omega))).trans (h.block i hi hd)⟩
theorem Kp.of_below {D : Nat → Prop} {w w' : World} (h : Below w.heap.size w w') : Kp D w w' := ⟨h.os, h.tape, h.output, h.size, fun k hk _ => h.block k hk⟩
theorem Kp.below {D : Nat → Prop} {a w w' : World} (h : Kp D a w) (hb : Below w.heap.size w w') : Kp D a w' := h.trans (.of_below hb)
theorem Kp.put {D : Nat → Prop} {a w : World} (h : Kp D a w) {g o : Nat} (hg : D g ∨ a.heap.size ≤ g) (v : Value) : Kp D a (w.setCell ⟨g, o, none⟩ v) :=
  ⟨h.os, h.tape, h.output, by simpa [World.setCell] using h.size, fun k hk hd => (Below.heap_setCell _ _ _ _ (by show k ≠ g; intro e; subst e; exact hg.elim hd (by omega))).trans (h.block k hk hd)⟩
theorem Kp.drew {D : Nat → Prop} {a w : World} (h : Kp D a w) : Kp D a w.drew := ⟨h.os, h.tape, h.output, h.size, h.block⟩
theorem Kp.to_below {D : Nat → Prop} {w w' : World} {B : Nat} (h : Kp D w w') (hB : B ≤ w.heap.size) (hD : ∀ k, D k → B ≤ k) : Below B w w' := ⟨h.os, h.tape, h.output, h.size, fun k hk => h.block k (by omega) (fun e => by have := hD k e; omega)⟩

/-- A net in memory: the block of its one cell, its parcels. All that it has lies in blocks of D. -/
def NetM (D : Nat → Prop) (w : World) (cb : Nat) (l : List Pm) : Prop :=
  (D cb ∧ w.frozen? ⟨cb, 0, none⟩ = false ∧ ∀ k, D k → k < w.heap.size) ∧ ∃ a n c, w.cell? ⟨cb, 0, none⟩ = some (.slice a n c) ∧ RowO D w a n c l ∧ (∀ ad, a = some ad → ad.block ≠ cb) ∧ ∀ x ∈ l, ∀ ad, x.a = some ad → ad.block ≠ cb
def NetP (D : Nat → Prop) (w : World) (cb : Nat) (L : List Pc) : Prop := ∃ l, l.map Pm.p = L ∧ NetM D w cb l

theorem RowO.keep {D : Nat → Prop} {w w' : World} {a : Option Addr} {n c : Nat} {l : List Pm} (h : RowO D w a n c l) (hD : ∀ k, D k → k < w.heap.size) (hk : ∀ k, D k → k < w.heap.size → w'.heap[k]? = w.heap[k]?) : RowO D w' a n c l := by
  refine ⟨h.1.keep hk, fun ad e => ?_⟩
  obtain ⟨g, off, e1, h2, h3⟩ := h.2 ad e
  have hd : D g := by have := h.1.2.2.2.2.1 ad e; rw [e1] at this; exact this
  have hb := hk g hd (hD g hd)
  refine ⟨g, off, e1, fun j hj => ?_, h3⟩
  rw [World.cell?_of_block (w := w) (a := ⟨g, off + j, none⟩) hb, World.frozen?_of_block (w := w) (a := ⟨g, off + j, none⟩) hb]
  exact h2 j hj
theorem RowO.mono {D D' : Nat → Prop} {w : World} {a : Option Addr} {n c : Nat} {l : List Pm} (h : RowO D w a n c l) (hD : ∀ k, D k → D' k) : RowO D' w a n c l := ⟨h.1.mono hD, h.2⟩
theorem NetM.keep {D : Nat → Prop} {w w' : World} {cb : Nat} {l : List Pm} (h : NetM D w cb l) (hs : w.heap.size ≤ w'.heap.size) (hk : ∀ k, D k → k < w.heap.size → w'.heap[k]? = w.heap[k]?) : NetM D w' cb l := by
  obtain ⟨⟨h1, h2, h3⟩, a, n, c, h4, h5, h6⟩ := h
  have hb := hk cb h1 (h3 cb h1)
  refine ⟨⟨h1, ?_, fun k hd => Nat.lt_of_lt_of_le (h3 k hd) hs⟩, a, n, c, ?_, h5.keep h3 hk, h6⟩
  · rw [World.frozen?_of_block (w := w) (a := ⟨cb, 0, none⟩) hb]; exact h2
  · rw [World.cell?_of_block (w := w) (a := ⟨cb, 0, none⟩) hb]; exact h4
theorem NetM.below {D : Nat → Prop} {w w' : World} {cb : Nat} {l : List Pm} (h : NetM D w cb l) (hb : Below w.heap.size w w') : NetM D w' cb l := h.keep hb.size fun k _ hk => hb.block k hk
theorem NetM.mono {D D' : Nat → Prop} {w : World} {cb : Nat} {l : List Pm} (h : NetM D w cb l) (hD : ∀ k, D k → D' k) (hl : ∀ k, D' k → k < w.heap.size) : NetM D' w cb l := by
  obtain ⟨⟨h1, h2, h3⟩, a, n, c, h4, h5, h6⟩ := h
  exact ⟨⟨hD _ h1, h2, hl⟩, a, n, c, h4, h5.mono hD, h6⟩
theorem NetP.keep {D : Nat → Prop} {w w' : World} {cb : Nat} {L : List Pc} (h : NetP D w cb L) (hs : w.heap.size ≤ w'.heap.size) (hk : ∀ k, D k → k < w.heap.size → w'.heap[k]? = w.heap[k]?) : NetP D w' cb L := by
  obtain ⟨l, e, h⟩ := h
  exact ⟨l, e, h.keep hs hk⟩
theorem NetP.below {D : Nat → Prop} {w w' : World} {cb : Nat} {L : List Pc} (h : NetP D w cb L) (hb : Below w.heap.size w w') : NetP D w' cb L := h.keep hb.size fun k _ hk => hb.block k hk
theorem NetP.mono {D D' : Nat → Prop} {w : World} {cb : Nat} {L : List Pc} (h : NetP D w cb L) (hD : ∀ k, D k → D' k) (hl : ∀ k, D' k → k < w.heap.size) : NetP D' w cb L := by
  obtain ⟨l, e, h⟩ := h
  exact ⟨l, e, h.mono hD hl⟩
theorem NetP.lt {D : Nat → Prop} {w : World} {cb : Nat} {L : List Pc} (h : NetP D w cb L) : ∀ k, D k → k < w.heap.size := by
  obtain ⟨l, e, h⟩ := h
  exact h.1.2.2
/-- Another net's calls leave a net as it is. -/
theorem NetP.other {D D' : Nat → Prop} {w w' : World} {cb : Nat} {L : List Pc} (h : NetP D w cb L) (hk : Kp D' w w') (hd : ∀ k, D k → ¬ D' k) : NetP D w' cb L := h.keep hk.size fun k h1 h2 => hk.block k h2 (hd k h1)
/-- The set D with what came between two worlds. -/
def Ex (D : Nat → Prop) (w w' : World) (k : Nat) : Prop := D k ∨ (w.heap.size ≤ k ∧ k < w'.heap.size)

end Go.Proofs.Ytmjglgdihlomlaa
