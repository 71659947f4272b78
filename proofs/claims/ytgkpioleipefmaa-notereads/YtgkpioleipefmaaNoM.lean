/- Notes in memory. -/
import Derived.Test.YtgkpioleipefmaaNoC
import Derived.Test.YtgkpioleipefmaaShelf
import Derived.BigQuiet
namespace Go.Proofs.Ytgkpioleipefmaa
open Go.RowKit Go.ChangeShapes Go.WideShapes Go.ChangeAt Go.Deep

/-- A block whose first cells are these, all to be written. -/
def BoxL (w : World) (g : Nat) (xs : List Value) : Prop := g < w.heap.size ∧ ∀ j (h : j < xs.length), w.cell? ⟨g, j, none⟩ = some xs[j] ∧ w.frozen? ⟨g, j, none⟩ = false

theorem BoxL.grown {w w' : World} {g c : Nat} {xs : List Value} (h : BoxL w g xs) (hg : w.grownBy w' (some c)) (hc : g ≠ c) : BoxL w' g xs := by
  have hb := hg.block g h.1 (by simpa using hc)
  refine ⟨Nat.lt_of_lt_of_le h.1 hg.size, fun j hj => ⟨?_, ?_⟩⟩
  · rw [World.cell?_of_block (w := w) (a := ⟨g, j, none⟩) hb]; exact (h.2 j hj).1
  · rw [World.frozen?_of_block (w := w) (a := ⟨g, j, none⟩) hb]; exact (h.2 j hj).2

theorem BoxL.below {w w' : World} {g : Nat} {xs : List Value} (h : BoxL w g xs) (hb : Below w.heap.size w w') : BoxL w' g xs :=
  ⟨Nat.lt_of_lt_of_le h.1 hb.size, fun j hj => ⟨keep_cell (h.2 j hj).1 hb, by rw [keep_frozen (h.2 j hj).1 hb]; exact (h.2 j hj).2⟩⟩

theorem BoxL.put {w : World} {g : Nat} {xs : List Value} (h : BoxL w g xs) (i : Nat) (v : Value) : BoxL (w.setCell ⟨g, i, none⟩ v) g (xs.set i v) := by
  refine ⟨by simpa [World.setCell] using h.1, fun j hj => ⟨?_, ?_⟩⟩
  · rw [List.length_set] at hj
    by_cases e : i = j
    · subst e
      rw [List.getElem_set_self]
      exact World.cell?_setCell_same _ _ _ (h.2 i hj).1
    · rw [List.getElem_set_ne e, World.cell?_setCell_other (h := by simp)]
      exact (h.2 j hj).1
  · rw [List.length_set] at hj
    simpa using (h.2 j hj).2

theorem BoxL.new (w : World) (xs : List Value) (t : TypeId) : BoxL (w.alloc (.cells xs.toArray t)) w.heap.size xs := by
  refine ⟨by simp, fun j hj => ⟨?_, World.frozen?_alloc_at _ _ _ _ rfl⟩⟩
  rw [World.cell?_alloc_at _ _ _ _ rfl]
  simp [hj]

theorem Cur.put {w : World} {B T c g o : Nat} {bs : List Nat} {bad : Bool} {v : Value} (h : Cur w B T c bs bad) (hg : T ≤ g) : Cur (w.setCell ⟨g, o, none⟩ v) B T c bs bad :=
  h.keep (by simp [World.setCell]) (fun k _ hk => Below.heap_setCell _ _ _ _ (by show k ≠ g; omega))

theorem grown_put {w X : World} {r : Option Nat} {g o : Nat} {v : Value} (h : w.grownBy X r) (hg : w.heap.size ≤ g) : w.grownBy (X.setCell ⟨g, o, none⟩ v) r :=
  ⟨h.os, h.tape, h.output, by simpa [World.setCell] using h.size, fun k hk hr => (Below.heap_setCell _ _ _ _ (by show k ≠ g; omega)).trans (h.block k hk hr)⟩

theorem own_put_lo {w : World} {B n g o : Nat} {v u : Value} {xs : List Value} (h : w.ownsRow B 5 1 v n xs) (hg : g < B) : (w.setCell ⟨g, o, none⟩ u).ownsRow B 5 1 v n xs :=
  ownsRow_setCell_below h (by show g < B; exact hg) u

theorem grown_new (w : World) (o : Obj) (r : Option Nat) : w.grownBy (w.alloc o) r :=
  have hb := (Below.refl w.heap.size w).alloc (Nat.le_refl _) o
  ⟨hb.os, hb.tape, hb.output, hb.size, fun k hk _ => hb.block k hk⟩

theorem own_reads {w : World} {B g n cap : Nat} {xs : List Nat} (h : w.ownsRow B 5 1 (.slice (some ⟨g, 0, none⟩) n cap) n (bV xs)) : Reads w (some ⟨g, 0, none⟩) (bV xs) := by
  obtain ⟨g', cap', e, _, _, _, hr⟩ := reads_own h (by simp)
  simp only [Value.slice.injEq, Option.some.injEq, Addr.mk.injEq] at e
  obtain ⟨⟨rfl, _⟩, _⟩ := e
  exact hr

theorem own_cap {w : World} {B n q c : Nat} {xs : List Value} (h : w.ownsRow B 5 1 (.slice (some ⟨q, 0, none⟩) n c) n xs) : n ≤ c ∧ c ≤ maxLen ∧ B ≤ q ∧ q < w.heap.size := by
  have hlt := h.lt q rfl
  rcases h.2 with ⟨h0, _⟩ | ⟨g, cap, cur, e, _, _, h3, h4, _⟩
  · simp at h0
  · simp only [Value.slice.injEq] at e
    obtain ⟨_, _, rfl⟩ := e
    exact ⟨h3, h4, hlt.1, hlt.2⟩

/-- A row of bytes of one's own, as a slice. -/
def OwnB (w : World) (B q m c : Nat) (xs : List Nat) : Prop := w.ownsRow B 5 1 (.slice (some ⟨q, 0, none⟩) m c) m (bV xs)

theorem OwnB.below {w w' : World} {B q m c : Nat} {xs : List Nat} (h : OwnB w B q m c xs) (hb : Below w.heap.size w w') : OwnB w' B q m c xs := own_below h hb
theorem OwnB.reads {w : World} {B q m c : Nat} {xs : List Nat} (h : OwnB w B q m c xs) : Reads w (some ⟨q, 0, none⟩) (bV xs) := own_reads h
theorem OwnB.len {w : World} {B q m c : Nat} {xs : List Nat} (h : OwnB w B q m c xs) : xs.length = m := by
  have h' : w.ownsRow B 5 1 (.slice (some ⟨q, 0, none⟩) m c) m (bV xs) := h
  have := h'.1
  rw [bV_length] at this
  omega
theorem OwnB.cap {w : World} {B q m c : Nat} {xs : List Nat} (h : OwnB w B q m c xs) : m ≤ c ∧ c ≤ maxLen ∧ B ≤ q ∧ q < w.heap.size := own_cap h

theorem ownB_of {w : World} {B n : Nat} {v : Value} {xs : List Nat} (h : w.ownsRow B 5 1 v n (bV xs)) (hv : v ≠ .slice none 0 0) : ∃ q m c, v = .slice (some ⟨q, 0, none⟩) m c ∧ OwnB w B q m c xs := by
  have h' := h
  obtain ⟨q, c, m, rfl, _, hm, _, _, _⟩ := reads_own' h hv
  rw [hm.out] at h'
  exact ⟨q, m, c, rfl, h'⟩

theorem bstr_nums {l : List Nat} (h : Byt l) : (bstr l).toList.map (fun (x : UInt8) => x.toNat) = l := by
  rw [ByteArray.toList_eq, bstr, strOfNums_data, List.map_map, List.map_map]
  conv => rhs; rw [← List.map_id l]
  apply List.map_congr_left
  intro x hx
  have := h x hx
  simp
  omega
theorem bstr_eq {a b : List Nat} (ha : Byt a) (hb : Byt b) : ((bstr a).toList == (bstr b).toList) = decide (a = b) := by
  by_cases h : a = b
  · subst h; simp
  · have : (bstr a).toList ≠ (bstr b).toList := fun e => h (by rw [← bstr_nums ha, ← bstr_nums hb, e])
    simp [h, this]

theorem reads_put {w : World} {g o : Nat} {u v : Value} {a : Option Addr} {xs : List Nat} (h : Reads w a (bV xs)) (hc : w.cell? ⟨g, o, none⟩ = some u) (hu : ∀ x, u ≠ .int .u8 x) : Reads (w.setCell ⟨g, o, none⟩ v) a (bV xs) := by
  rcases h with h | ⟨b, off, e, h⟩
  · exact .inl h
  · refine .inr ⟨b, off, e, fun j y hy => ?_⟩
    have hj := h j y hy
    by_cases hq : (⟨b, off + j, none⟩ : Addr) = ⟨g, o, none⟩
    · rw [hq, hc] at hj
      simp only [bV, List.getElem?_map, Option.map_eq_some_iff] at hy
      obtain ⟨x, _, hx⟩ := hy
      exact absurd ((Option.some.inj hj).trans hx.symm) (hu _)
    · rw [World.cell?_setCell_other (h := fun e => hq (by simpa using e.symm))]
      exact hj

theorem box_other {w : World} {g0 g o : Nat} {v : Value} {xs : List Value} (h : BoxL w g0 xs) (hg : g0 ≠ g) : BoxL (w.setCell ⟨g, o, none⟩ v) g0 xs :=
  h.grown (grown_setCell _ _ _ _) hg


/-- Members as cells. -/
def mV (c : List (Int × Int)) : List Value := c.flatMap fun x => [.int .i64 x.1, .int .i64 x.2]
theorem mV_len (ys : List (Int × Int)) : (mV ys).length = ys.length * 2 := by
  induction ys with
  | nil => rfl
  | cons a r ih => show ([Value.int .i64 a.1, Value.int .i64 a.2] ++ mV r).length = _; simp [ih]; omega
theorem mV_one (ys : List (Int × Int)) : ∀ u ∈ mV ys, u.oneCell' = true := fun u hu => by
  simp only [mV, List.mem_flatMap] at hu
  obtain ⟨y, _, hy⟩ := hu
  simp at hy
  rcases hy with rfl | rfl <;> rfl
theorem mV_app (a b : List (Int × Int)) : mV (a ++ b) = mV a ++ mV b := by simp [mV]
theorem mV_at (l : List (Int × Int)) (k : Nat) (h : k < l.length) : (mV l)[2 * k]? = some (.int .i64 l[k].1) ∧ (mV l)[2 * k + 1]? = some (.int .i64 l[k].2) := by
  induction l generalizing k with
  | nil => simp at h
  | cons a r ih =>
    have e : mV (a :: r) = .int .i64 a.1 :: .int .i64 a.2 :: mV r := by simp [mV]
    rw [e]
    cases k with
    | zero => simp
    | succ k =>
      have := ih k (by simpa using h)
      rw [show 2 * (k + 1) = 2 * k + 1 + 1 by omega]
      simpa using this
theorem iV_len (l : List Int) : (iV l).length = l.length := by simp [iV]
theorem iV_one (xs : List Int) : ∀ v ∈ iV xs, v.oneCell' = true := by
  intro v hv
  simp only [iV, List.mem_map] at hv
  obtain ⟨x, _, rfl⟩ := hv
  rfl
theorem iV_app (a b : List Int) : iV (a ++ b) = iV a ++ iV b := by simp [iV]

theorem owng_mono {w : World} {b b' t sz n : Nat} {v : Value} {xs : List Value} (h : w.ownsRow b t sz v n xs) (hb : b' ≤ b) : w.ownsRow b' t sz v n xs := by
  refine ⟨h.1, ?_⟩
  rcases h.2 with h | ⟨g, cap, cur, e, h1, h2⟩
  · exact .inl h
  · exact .inr ⟨g, cap, cur, e, by omega, h2⟩
/-- A row that is read: where it begins, how long it is, whose it is. -/
def RowV (B : Nat) (w : World) (v : Value) (n : Nat) (xs : List Value) : Prop :=
  ∃ a l c, v = .slice a l c ∧ Hid (n = l) ∧ (l ≤ c ∧ c ≤ maxLen) ∧ (a = none → l = 0 ∧ c = 0) ∧ Reads w a xs ∧ ∀ ad, a = some ad → B ≤ ad.block
theorem owng_row {w : World} {B t sz n : Nat} {v : Value} {xs : List Value} (h : w.ownsRow B t sz v n xs) : RowV B w v n xs := by
  rcases h.2 with ⟨rfl, e⟩ | ⟨g, cap, cur, rfl, h1, _, h3, h4, _⟩
  · subst e
    refine ⟨none, 0, 0, rfl, hide rfl, ⟨Nat.le_refl _, Nat.zero_le _⟩, fun _ => ⟨rfl, rfl⟩, .inl ?_, fun ad h => by cases h⟩
    have := h.1
    exact List.eq_nil_of_length_eq_zero (by omega)
  · refine ⟨_, n, cap, rfl, hide rfl, ⟨h3, h4⟩, (fun h => by cases h), .inr ⟨g, 0, rfl, fun j u hu => ?_⟩, fun ad e => by cases e; exact h1⟩
    have := h.cells (g := g) rfl j u hu
    rwa [add_none] at this
theorem RowV.below {B n : Nat} {w w' : World} {v : Value} {xs : List Value} (h : RowV B w v n xs) (hb : Below w.heap.size w w') : RowV B w' v n xs := by
  obtain ⟨a, l, c, h1, h2, h3, h4, h5, h6⟩ := h
  exact ⟨a, l, c, h1, h2, h3, h4, h5.below hb, h6⟩
theorem RowV.mono {B B' n : Nat} {w : World} {v : Value} {xs : List Value} (h : RowV B w v n xs) (hb : B' ≤ B) : RowV B' w v n xs := by
  obtain ⟨a, l, c, h1, h2, h3, h4, h5, h6⟩ := h
  exact ⟨a, l, c, h1, h2, h3, h4, h5, fun ad e => Nat.le_trans hb (h6 ad e)⟩
theorem RowV.nil (B : Nat) (w : World) : RowV B w (.slice none 0 0) 0 [] := ⟨none, 0, 0, rfl, hide rfl, ⟨Nat.le_refl _, Nat.zero_le _⟩, fun _ => ⟨rfl, rfl⟩, .inl rfl, fun ad h => by cases h⟩
theorem Reads.keep {w w' : World} {a : Option Addr} {xs : List Value} {B : Nat} (h : Reads w a xs) (hB : ∀ ad, a = some ad → B ≤ ad.block) (hk : ∀ k, B ≤ k → k < w.heap.size → w'.heap[k]? = w.heap[k]?) : Reads w' a xs := by
  rcases h with rfl | ⟨b, off, rfl, h⟩
  · exact .inl rfl
  · refine .inr ⟨b, off, rfl, fun j u hu => ?_⟩
    have hj := h j u hu
    rw [World.cell?_of_block (w := w) (a := ⟨b, off + j, none⟩) (hk b (hB _ rfl) (cell_some_lt hj))]
    exact hj
theorem RowV.keep {B n : Nat} {w w' : World} {v : Value} {xs : List Value} (h : RowV B w v n xs) (hk : ∀ k, B ≤ k → k < w.heap.size → w'.heap[k]? = w.heap[k]?) : RowV B w' v n xs := by
  obtain ⟨a, l, c, h1, h2, h3, h4, h5, h6⟩ := h
  exact ⟨a, l, c, h1, h2, h3, h4, h5.keep h6 hk, h6⟩

/-- All its numbers are Go's ints, and nothing of it is long. -/
def NIn (n : No) : Prop := (In1 n.kind ∧ In1 n.node ∧ In1 n.life ∧ In1 n.epoch) ∧ (In1 n.func ∧ In64 n.args) ∧ (In1 n.err ∧ In1 n.val) ∧ (In1 n.vep ∧ ∀ m ∈ n.mem, In1 m.1 ∧ In1 m.2)
/-- What a note's value leads to in memory: its text, its arguments, its members. -/
def NM (B : Nat) (w : World) (n : No) (s : ByteArray) (av mv : Value) : Prop :=
  uN s.data.toList = n.id ∧ s.size ≤ 20000 ∧ n.args.length ≤ 20000 ∧ n.mem.length ≤ 20000 ∧ RowV B w av n.args.length (iV n.args) ∧ RowV B w mv n.mem.length (mV n.mem)
theorem NM.below {B : Nat} {w w' : World} {n : No} {s : ByteArray} {av mv : Value} (h : NM B w n s av mv) (hb : Below w.heap.size w w') : NM B w' n s av mv := by
  obtain ⟨h1, h2, h3, h4, h5, h6⟩ := h
  exact ⟨h1, h2, h3, h4, h5.below hb, h6.below hb⟩
theorem NM.mono {B B' : Nat} {w : World} {n : No} {s : ByteArray} {av mv : Value} (h : NM B w n s av mv) (hb : B' ≤ B) : NM B' w n s av mv := by
  obtain ⟨h1, h2, h3, h4, h5, h6⟩ := h
  exact ⟨h1, h2, h3, h4, h5.mono hb, h6.mono hb⟩
theorem NM.keep {B : Nat} {w w' : World} {n : No} {s : ByteArray} {av mv : Value} (h : NM B w n s av mv) (hk : ∀ k, B ≤ k → k < w.heap.size → w'.heap[k]? = w.heap[k]?) : NM B w' n s av mv := by
  obtain ⟨h1, h2, h3, h4, h5, h6⟩ := h
  exact ⟨h1, h2, h3, h4, h5.keep hk, h6.keep hk⟩
/-- The cells of a note. -/
def Nc (n : No) (s : ByteArray) (av mv : Value) : List Value := [.int .i64 n.kind, .int .i64 n.node, .int .i64 n.life, .int .i64 n.epoch, .string s, .int .i64 n.func, av, .int .i64 n.err, .int .i64 n.val, .int .i64 n.vep, mv]
def Nv (n : No) (s : ByteArray) (av mv : Value) : Value := .agg #[.int .i64 n.kind, .int .i64 n.node, .int .i64 n.life, .int .i64 n.epoch, .string s, .int .i64 n.func, av, .int .i64 n.err, .int .i64 n.val, .int .i64 n.vep, mv]
theorem BoxL.c11 {w : World} {g : Nat} {x0 x1 x2 x3 x4 x5 x6 x7 x8 x9 x10 : Value} (h : BoxL w g [x0, x1, x2, x3, x4, x5, x6, x7, x8, x9, x10]) :
    w.cell? ⟨g, 0, none⟩ = some x0 ∧ w.cell? ⟨g, 1, none⟩ = some x1 ∧ w.cell? ⟨g, 2, none⟩ = some x2 ∧ w.cell? ⟨g, 3, none⟩ = some x3 ∧ w.cell? ⟨g, 4, none⟩ = some x4 ∧ w.cell? ⟨g, 5, none⟩ = some x5 ∧ w.cell? ⟨g, 6, none⟩ = some x6 ∧ w.cell? ⟨g, 7, none⟩ = some x7 ∧ w.cell? ⟨g, 8, none⟩ = some x8 ∧ w.cell? ⟨g, 9, none⟩ = some x9 ∧ w.cell? ⟨g, 10, none⟩ = some x10 :=
  ⟨(h.2 0 (by simp)).1, (h.2 1 (by simp)).1, (h.2 2 (by simp)).1, (h.2 3 (by simp)).1, (h.2 4 (by simp)).1, (h.2 5 (by simp)).1, (h.2 6 (by simp)).1, (h.2 7 (by simp)).1, (h.2 8 (by simp)).1, (h.2 9 (by simp)).1, (h.2 10 (by simp)).1⟩
theorem BoxL.f11 {w : World} {g : Nat} {x0 x1 x2 x3 x4 x5 x6 x7 x8 x9 x10 : Value} (h : BoxL w g [x0, x1, x2, x3, x4, x5, x6, x7, x8, x9, x10]) :
    w.frozen? ⟨g, 0, none⟩ = false ∧ w.frozen? ⟨g, 1, none⟩ = false ∧ w.frozen? ⟨g, 2, none⟩ = false ∧ w.frozen? ⟨g, 3, none⟩ = false ∧ w.frozen? ⟨g, 4, none⟩ = false ∧ w.frozen? ⟨g, 5, none⟩ = false ∧ w.frozen? ⟨g, 6, none⟩ = false ∧ w.frozen? ⟨g, 7, none⟩ = false ∧ w.frozen? ⟨g, 8, none⟩ = false ∧ w.frozen? ⟨g, 9, none⟩ = false ∧ w.frozen? ⟨g, 10, none⟩ = false :=
  ⟨(h.2 0 (by simp)).2, (h.2 1 (by simp)).2, (h.2 2 (by simp)).2, (h.2 3 (by simp)).2, (h.2 4 (by simp)).2, (h.2 5 (by simp)).2, (h.2 6 (by simp)).2, (h.2 7 (by simp)).2, (h.2 8 (by simp)).2, (h.2 9 (by simp)).2, (h.2 10 (by simp)).2⟩

theorem Try.info3 : (Try.prog.info? 3).map (fun i => (i.zero, i.size, i.bytes)) = some (some (.int .i64 0), 1, 8) := by kernel_rfl
theorem Try.info50 : (Try.prog.info? 50).map (fun i => (i.zero, i.size, i.bytes)) = some (some (.agg #[.int .i64 0, .int .i64 0]), 2, 16) := by kernel_rfl

/-- 'append(v, y...)' of ints. -/
theorem append_i {w : World} {ops : Array Oper} {rest : List Oper} {o : Oper} {a : Act} {Q : Exit → Act → World → Prop} (hgd : o.guard = none) (s x : Operand)
    (ho : o.op = .call { callee := .builtin .append, args := #[s, x], argTypes := #[23, 23] })
    (base : Nat) (v : Value) (n : Nat) (xs : List Int) (hs : a.eval s = v) (hown : w.ownsRow base 3 1 v n (iV xs))
    (ad : Option Addr) (m c : Nat) (ys : List Int) (hx : a.eval x = .slice ad m c) (hnil : ad = none → m = 0 ∧ c = 0) (hl : ys.length = m) (hr : Reads w ad (iV ys))
    (hb : n + m ≤ 100000000) (hbase : base ≤ w.heap.size)
    (h : ∀ v' w', w'.ownsRow base 3 1 v' (n + m) (iV (xs ++ ys)) → w.grownBy w' v.ownBlock → wpList Try.prog ops Q rest (a.put o.dst v') w') :
    wpList Try.prog ops Q (o :: rest) a w := by
  obtain ⟨i0, hi, hz0, hz1, hz2⟩ := info_parts Try.info3
  cases ad with
  | none =>
    obtain ⟨rfl, rfl⟩ := hnil rfl
    have hy : ys = [] := List.eq_nil_of_length_eq_zero hl
    subst hy
    refine wpList_append_own_none hgd s x 23 ho base 3 i0 1 Try.underlying23 hi v n (iV xs) hs hown hx ?_
    exact h v w (by simpa using hown) ⟨rfl, rfl, rfl, Nat.le_refl _, fun _ _ _ => rfl⟩
  | some ad =>
    refine wpList_append_own _ hgd s x 23 ho base 3 i0 (.int .i64 0) 1 8 Try.underlying23 hi hz0 hz1 hz2 rfl (by decide) v n (iV xs) hs hown ad m c (iV ys) hx (by rw [iV_len]; omega) ?_ (iV_one ys) (by unfold maxLen; omega) (by omega) hbase ?_
    · rcases hr with hr | ⟨b, off, e, hr⟩
      · rw [hr]; simp
      · simp at e
        subst e
        intro j u hu
        rw [add_none]; exact hr j u hu
    · intro v' w' h1 h2 _
      exact h v' w' (by rw [iV_app]; exact h1) h2

/-- 'append(v, y...)' of members. -/
theorem append_m {w : World} {ops : Array Oper} {rest : List Oper} {o : Oper} {a : Act} {Q : Exit → Act → World → Prop} (hgd : o.guard = none) (s x : Operand)
    (ho : o.op = .call { callee := .builtin .append, args := #[s, x], argTypes := #[27, 27] })
    (base : Nat) (v : Value) (n : Nat) (xs : List (Int × Int)) (hs : a.eval s = v) (hown : w.ownsRow base 50 2 v n (mV xs))
    (ad : Option Addr) (m c : Nat) (ys : List (Int × Int)) (hx : a.eval x = .slice ad m c) (hnil : ad = none → m = 0 ∧ c = 0) (hl : ys.length = m) (hr : Reads w ad (mV ys))
    (hb : n + m ≤ 100000000) (hbase : base ≤ w.heap.size)
    (h : ∀ v' w', w'.ownsRow base 50 2 v' (n + m) (mV (xs ++ ys)) → w.grownBy w' v.ownBlock → wpList Try.prog ops Q rest (a.put o.dst v') w') :
    wpList Try.prog ops Q (o :: rest) a w := by
  obtain ⟨i0, hi, hz0, hz1, hz2⟩ := info_parts Try.info50
  cases ad with
  | none =>
    obtain ⟨rfl, rfl⟩ := hnil rfl
    have hy : ys = [] := List.eq_nil_of_length_eq_zero hl
    subst hy
    refine wpList_append_own_none hgd s x 27 ho base 50 i0 2 Try.underlying27 hi v n (mV xs) hs hown hx ?_
    exact h v w (by simpa using hown) ⟨rfl, rfl, rfl, Nat.le_refl _, fun _ _ _ => rfl⟩
  | some ad =>
    refine wpList_append_own _ hgd s x 27 ho base 50 i0 (.agg #[.int .i64 0, .int .i64 0]) 2 16 Try.underlying27 hi hz0 hz1 hz2 rfl (by decide) v n (mV xs) hs hown ad m c (mV ys) hx (by rw [mV_len]; omega) ?_ (mV_one ys) (by unfold maxLen; omega) (by omega) hbase ?_
    · rcases hr with hr | ⟨b, off, e, hr⟩
      · rw [hr]; simp
      · simp at e
        subst e
        intro j u hu
        rw [add_none]; exact hr j u hu
    · intro v' w' h1 h2 _
      exact h v' w' (by rw [mV_app]; exact h1) h2

theorem all_no {ns : List Int} {m : Int} {k : Nat} (h : k < ns.length) (hx : okN m ns[k] = false) : ns.all (okN m) = false := by
  rw [List.all_eq_false]
  exact ⟨ns[k], List.getElem_mem _, by simp [hx]⟩
theorem all_step {ns : List Int} {m : Int} {k : Nat} (h : k < ns.length) (hp : (ns.take k).all (okN m) = true) (hx : okN m ns[k] = true) : (ns.take (k + 1)).all (okN m) = true := by
  rw [List.take_succ_eq_append_getElem h, List.all_append, hp]
  simp [hx]

set_option maxRecDepth 100000 in
set_option maxHeartbeats 400000 in
/-- frame.within. -/
theorem within_any (m : Int) (a : Option Addr) (len cap : Nat) (ns : List Int) (w : World) (hl : ns.length = len) (hlen : len ≤ 100) (hr : Reads w a (iV ns)) :
    Calls Try.prog 34 #[.int .i64 m, .slice a len cap] w fun e w' => e = .returned (.bool (ns.all (okN m))) ∧ w' = w := by
  go_enter Try.func34, Try.ntmps34
  go_wp2
  go_loopw [9] (fun i wr => wr = w ∧ ∃ k : Nat, k ≤ len ∧ i = .int .i64 (k : Nat) ∧ Hid ((ns.take k).all (okN m) = true)) (fun i _ => len - (intOf i).toNat)
  case atStart => exact ⟨rfl, 0, Nat.zero_le _, rfl, hide rfl⟩
  case round =>
    obtain ⟨rfl, k, hk, rfl, hall⟩ := hrel
    by_cases hlt : k < len
    · have hkn : k < ns.length := by omega
      obtain ⟨b, off, har, hcs⟩ := reads_at hr hkn
      subst har
      have hcell := hcs.out k (.int .i64 ns[k]) (by simp [iV, hkn])
      have HN := hide (fun h => all_no (m := m) hkn h)
      have HY := hide (fun h => all_step (m := m) hkn hall.out h)
      obtain ⟨x, hx⟩ : ∃ x, x = ns[k] := ⟨_, rfl⟩
      rw [← hx] at hcell HN HY
      clear hx hcs hall
      by_cases h0 : x < 0
      · have HF := hide (HN.out (by simp [okN]; omega))
        clear HN HY
        go_wp2
        go_ret
        exact ⟨by rw [HF.out]; rfl, rfl⟩
      · by_cases h1 : m < x
        · have HF := hide (HN.out (by simp [okN]; omega))
          clear HN HY
          go_wp2
          go_ret
          exact ⟨by rw [HF.out]; rfl, rfl⟩
        · have HF := hide (HY.out (by simp [okN]; omega))
          clear HN HY
          go_wp2
          go_roundw
          case rel => exact ⟨trivial, k + 1, by omega, by go_num, HF⟩
          case measure => simp [intOf]; omega
    · have e : ns.take k = ns := List.take_of_length_le (by omega)
      rw [e] at hall
      go_wp2
      go_ret
      exact ⟨by rw [hall.out]; rfl, rfl⟩

set_option maxRecDepth 100000 in
set_option maxHeartbeats 400000 in
theorem lnum_any (n : Int) (w : World) : Calls Try.prog 13 #[.int .i64 n] w fun e w' => e = .returned (.int .i64 n) ∧ w' = w := by
  go_enter Try.func13, Try.ntmps13
  go_wp2
  go_ret
  exact ⟨rfl, rfl⟩

set_option maxRecDepth 100000 in
set_option maxHeartbeats 400000 in
theorem node_any (n : Int) (w : World) : Calls Try.prog 43 #[.int .i64 n] w fun e w' => e = .returned (.bool (okN 15 n)) ∧ w' = w := by
  by_cases h0 : 0 ≤ n
  · by_cases h1 : n < 16
    · have HO := hide (show okN 15 n = true by simp [okN]; omega)
      go_enter Try.func43, Try.ntmps43
      go_wp2
      go_ret
      exact ⟨by rw [HO.out]; rfl, rfl⟩
    · have HO := hide (show okN 15 n = false by simp [okN]; omega)
      go_enter Try.func43, Try.ntmps43
      go_wp2
      go_ret
      exact ⟨by rw [HO.out]; rfl, rfl⟩
  · have HO := hide (show okN 15 n = false by simp [okN]; omega)
    go_enter Try.func43, Try.ntmps43
    go_wp2
    go_ret
    exact ⟨by rw [HO.out]; rfl, rfl⟩

set_option maxRecDepth 100000 in
set_option maxHeartbeats 400000 in
theorem rnum_any (n : Int) (w : World) : Calls Try.prog 44 #[.int .i64 n] w fun e w' => e = .returned (.bool (okN 2147483647 n)) ∧ w' = w := by
  by_cases h0 : 0 ≤ n
  · by_cases h1 : n ≤ 2147483647
    · have HO := hide (show okN 2147483647 n = true by simp [okN]; omega)
      go_enter Try.func44, Try.ntmps44
      go_wp2
      go_ret
      exact ⟨by rw [HO.out]; rfl, rfl⟩
    · have HO := hide (show okN 2147483647 n = false by simp [okN]; omega)
      go_enter Try.func44, Try.ntmps44
      go_wp2
      go_ret
      exact ⟨by rw [HO.out]; rfl, rfl⟩
  · have HO := hide (show okN 2147483647 n = false by simp [okN]; omega)
    go_enter Try.func44, Try.ntmps44
    go_wp2
    go_ret
    exact ⟨by rw [HO.out]; rfl, rfl⟩

end Go.Proofs.Ytgkpioleipefmaa
