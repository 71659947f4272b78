/- Blocks with colours; sets of names; rows of names of one's own. -/
import Derived.Test.YtandbkbodlbjcaaSame
import Derived.Test.YtandbkbodlbjcaaSortW
import Derived.Maps.OwnSet
import Derived.Maps.RangeWalk
import Derived.ArgAppend
import Derived.BigRegion
import Derived.Deep.Cut
namespace Go.Proofs.Ytandbkbodlbjcaa
open Go.RowKit Go.ChangeShapes Go.WideShapes Go.ChangeAt Go.Deep Go.Maps

/-- The world w' is w with new blocks, and with writes to blocks of D alone. -/
structure Kp (D : Nat → Prop) (w w' : World) : Prop where
  os : w'.os = w.os
  tape : w'.tape = w.tape
  output : w'.output = w.output
  size : w.heap.size ≤ w'.heap.size
  block : ∀ k, k < w.heap.size → ¬ D k → w'.heap[k]? = w.heap[k]?
theorem Kp.refl (D : Nat → Prop) (w : World) : Kp D w w := ⟨rfl, rfl, rfl, Nat.le_refl _, fun _ _ _ => rfl⟩
theorem Kp.mono {D D' : Nat → Prop} {w w' : World} (h : Kp D w w') (hD : ∀ k, k < w.heap.size → D k → D' k) : Kp D' w w' := ⟨h.os, h.tape, h.output, h.size, fun k hk hd => h.block k hk fun e => hd (hD k hk e)⟩
theorem Kp.trans {D : Nat → Prop} {a b c : World} (h : Kp D a b) (k : Kp D b c) : Kp D a c :=
  ⟨k.os.trans h.os, k.tape.trans h.tape, k.output.trans h.output, Nat.le_trans h.size k.size, fun i hi hd => (k.block i (Nat.lt_of_lt_of_le hi h.size) hd).trans (h.block i hi hd)⟩
theorem Kp.ofB {D : Nat → Prop} {w w' : World} (h : Below w.heap.size w w') : Kp D w w' := ⟨h.os, h.tape, h.output, h.size, fun k hk _ => h.block k hk⟩
theorem Kp.ofG {D : Nat → Prop} {w w' : World} {row : Option Nat} (h : w.grownBy w' row) (hD : ∀ k, row = some k → D k) : Kp D w w' := ⟨h.os, h.tape, h.output, h.size, fun k hk hd => h.block k hk fun e => hd (hD k e.symm)⟩
theorem Kp.put {D : Nat → Prop} {w : World} {g o : Nat} (hg : D g) (v : Value) : Kp D w (w.setCell ⟨g, o, none⟩ v) := Kp.ofG (grown_setCell w g o v) (fun k e => by cases e; exact hg)
theorem Kp.below {D : Nat → Prop} {B : Nat} {w0 w w' : World} (h : Kp D w w') (hb : Below B w0 w) (hB : B ≤ w0.heap.size) (hD : ∀ k, k < B → ¬ D k) : Below B w0 w' :=
  ⟨h.os.trans hb.os, h.tape.trans hb.tape, h.output.trans hb.output, Nat.le_trans hb.size h.size, fun k hk => (h.block k (Nat.lt_of_lt_of_le (Nat.lt_of_lt_of_le hk hB) hb.size) (hD k hk)).trans (hb.block k hk)⟩

/-- What a block of a table's memory is for. -/
inductive Tag where
  | box | row | go | al | pk | bag (s : ByteArray)
abbrev Cl := Nat → Option Tag
/-- A step: blocks without a colour are as they were, and old blocks keep their colours. -/
structure Stp (κ κ' : Cl) (w w' : World) : Prop where
  kp : Kp (fun k => κ k ≠ none) w w'
  col : ∀ k, k < w.heap.size → κ' k = κ k
theorem Stp.refl (κ : Cl) (w : World) : Stp κ κ w w := ⟨Kp.refl _ _, fun _ _ => rfl⟩
theorem Stp.trans {κ κ' κ'' : Cl} {a b c : World} (h : Stp κ κ' a b) (k : Stp κ' κ'' b c) : Stp κ κ'' a c :=
  ⟨⟨k.kp.os.trans h.kp.os, k.kp.tape.trans h.kp.tape, k.kp.output.trans h.kp.output, Nat.le_trans h.kp.size k.kp.size, fun i hi hd => (k.kp.block i (Nat.lt_of_lt_of_le hi h.kp.size) (by rw [h.col i hi]; exact hd)).trans (h.kp.block i hi hd)⟩,
   fun i hi => (k.col i (Nat.lt_of_lt_of_le hi h.kp.size)).trans (h.col i hi)⟩
theorem Stp.ofB {κ : Cl} {w w' : World} (h : Below w.heap.size w w') : Stp κ κ w w' := ⟨Kp.ofB h, fun _ _ => rfl⟩
/-- One block's colour. -/
def paint (κ : Cl) (b : Nat) (t : Tag) : Cl := fun k => if k = b then some t else κ k
theorem paint_at (κ : Cl) (b : Nat) (t : Tag) : paint κ b t b = some t := by simp [paint]
theorem paint_other {κ : Cl} {b k : Nat} {t : Tag} (h : k ≠ b) : paint κ b t k = κ k := by simp [paint, h]

/-! ### a map, tightly -/
theorem tight {H : Type} {P : Program} {k : TypeId} {R : Value → Option (DataW H × List MemPlace)} {w : World} {b n : Nat} {D : DataW H} (h : w.ownsMap P k R b n D) : w.ownsMap P k R b (Maps.size D) D := by
  obtain ⟨es, clock, hb, F, hs, rfl⟩ := h
  exact ⟨es, clock, hb, F, by simp [Maps.size, length_sorted], rfl⟩
theorem law31 : Keyed Try.prog 31 := string_keyed Try.underlying31
theorem zero78 (w : World) : (zeroValue 78).run Try.prog w = .ok (.agg #[]) w := by kernel_rfl
theorem key31 {x : ByteArray} (h : x.size ≤ 1000000) : keyOf Try.prog 31 (.string x) = some (.string x.data.toList) := WideMaps.keyOf_string_mk Try.underlying31 (by unfold maxLen; omega)
theorem lit_ne {x y : ByteArray} (h : x ≠ y) : (Lit.string x.data.toList) ≠ .string y.data.toList := fun e => h (bytes_inj (by simpa using e))
theorem isKeyS (l : List UInt8) : WideAt.IsKeyLit (.string l) := trivial

/-- Is a name among these? -/
def inB (S : List ByteArray) (x : ByteArray) : Bool := S.any fun y => decide (y = x)
theorem inB_iff {S : List ByteArray} {x : ByteArray} : inB S x = true ↔ x ∈ S := by simp [inB]
theorem inB_no {S : List ByteArray} {x : ByteArray} : inB S x = false ↔ x ∉ S := by rw [← inB_iff]; simp
/-- These without a name. -/
def del (S : List ByteArray) (x : ByteArray) : List ByteArray := S.filter fun y => decide (y ≠ x)
theorem mem_del {S : List ByteArray} {x y : ByteArray} : y ∈ del S x ↔ y ∈ S ∧ y ≠ x := by simp [del]
theorem del_nodup {S : List ByteArray} (h : S.Nodup) (x : ByteArray) : (del S x).Nodup := h.filter _
theorem del_len : ∀ {S : List ByteArray}, S.Nodup → ∀ x : ByteArray, (del S x).length + (if inB S x = true then 1 else 0) = S.length
  | [], _, x => by simp [del, inB]
  | a :: r, h, x => by
    obtain ⟨h1, h2⟩ := List.nodup_cons.1 h
    have ih := del_len h2 x
    by_cases e : a = x
    · subst e
      have hn : inB r a = false := inB_no.2 h1
      have e1 : del (a :: r) a = del r a := by simp [del]
      have e2 : inB (a :: r) a = true := inB_iff.2 (by simp)
      rw [hn] at ih
      rw [e1, e2]
      simp at ih ⊢
      exact ih
    · have e1 : del (a :: r) x = a :: del r x := by simp [del, e]
      have e2 : inB (a :: r) x = inB r x := by simp [inB, e]
      rw [e1, e2]
      simp only [List.length_cons]
      omega
theorem del_id {S : List ByteArray} {x : ByteArray} (h : x ∉ S) : del S x = S := by
  unfold del
  rw [List.filter_eq_self]
  intro y hy
  have : y ≠ x := fun e => h (e ▸ hy)
  simp [this]

/-- A set of names in memory. -/
def SetM (w : World) (v : Value) (S : List ByteArray) : Prop :=
  S.Nodup ∧ (∀ x ∈ S, x.size ≤ 12) ∧ ((v = .map none ∧ S = []) ∨ ∃ b D, v = .map (some b) ∧ w.ownsMap Try.prog 31 (unitElem (H := Unit)) b (Maps.size D) D ∧ (∀ x : ByteArray, Maps.has D (.string x.data.toList) = inB S x) ∧ Maps.size D = S.length)

theorem SetM.lt {w : World} {b : Nat} {S : List ByteArray} (h : SetM w (.map (some b)) S) : b < w.heap.size := by
  rcases h.2.2 with ⟨e, _⟩ | ⟨b', D, e, h1, _⟩
  · cases e
  · cases e; exact h1.lt
theorem ownsMap_keep {H : Type} {P : Program} {k : TypeId} {R : Value → Option (DataW H × List MemPlace)} {w w' : World} {b n : Nat} {D : DataW H} (h : w.ownsMap P k R b n D) (hb : w'.heap[b]? = w.heap[b]?) : w'.ownsMap P k R b n D := by
  obtain ⟨es, clock, h1, h2⟩ := h
  exact ⟨es, clock, hb.trans h1, h2⟩
theorem SetM.keep {w w' : World} {v : Value} {S : List ByteArray} (h : SetM w v S) (hb : ∀ b, v = .map (some b) → w'.heap[b]? = w.heap[b]?) : SetM w' v S := by
  refine ⟨h.1, h.2.1, ?_⟩
  rcases h.2.2 with h1 | ⟨b, D, e, h1, h2⟩
  · exact .inl h1
  · exact .inr ⟨b, D, e, ownsMap_keep h1 (hb b e), h2⟩
theorem SetM.nil (w : World) : SetM w (.map none) [] := ⟨List.nodup_nil, fun x hx => (by cases hx), .inl ⟨rfl, rfl⟩⟩

/-! ### a row of names of one's own, from anywhere in its block on -/
def blk (a : Option Addr) : Option Nat := a.map (·.block)
theorem blk_own (a : Option Addr) (n c : Nat) : (Value.slice a n c).ownBlock = blk a := by cases a <;> rfl
def RN (w : World) (a : Option Addr) (n c : Nat) (xs : List ByteArray) : Prop :=
  xs.length = n ∧ n ≤ c ∧ c ≤ maxLen ∧ ((a = none ∧ c = 0) ∨ ∃ b off, a = some ⟨b, off, none⟩ ∧ b < w.heap.size ∧ (∀ j u, (nV xs)[j]? = some u → w.cell? ⟨b, off + j, none⟩ = some u) ∧ (∀ j, j < c → (w.cell? ⟨b, off + j, none⟩).isSome = true ∧ w.frozen? ⟨b, off + j, none⟩ = false))

theorem RN.nil (w : World) : RN w none 0 0 [] := ⟨rfl, Nat.le_refl _, Nat.zero_le _, .inl ⟨rfl, rfl⟩⟩
theorem RN.keep {w w' : World} {a : Option Addr} {n c : Nat} {xs : List ByteArray} (h : RN w a n c xs) (hs : w.heap.size ≤ w'.heap.size) (hb : ∀ b, blk a = some b → w'.heap[b]? = w.heap[b]?) : RN w' a n c xs := by
  obtain ⟨h1, h2, h3, h4⟩ := h
  refine ⟨h1, h2, h3, ?_⟩
  rcases h4 with h4 | ⟨b, off, rfl, h6, h7, h8⟩
  · exact .inl h4
  · have hb' := hb b rfl
    refine .inr ⟨b, off, rfl, Nat.lt_of_lt_of_le h6 hs, fun j u hu => ?_, fun j hj => ?_⟩
    · rw [World.cell?_of_block (w := w) (a := ⟨b, off + j, none⟩) hb']; exact h7 j u hu
    · rw [World.cell?_of_block (w := w) (a := ⟨b, off + j, none⟩) hb', World.frozen?_of_block (w := w) (a := ⟨b, off + j, none⟩) hb']; exact h8 j hj
theorem RN.lt {w : World} {a : Option Addr} {n c : Nat} {xs : List ByteArray} (h : RN w a n c xs) {b : Nat} (hb : blk a = some b) : b < w.heap.size := by
  rcases h.2.2.2 with ⟨rfl, _⟩ | ⟨b', off, rfl, h6, _⟩
  · simp [blk] at hb
  · simp [blk] at hb; omega
theorem RN.below {w w' : World} {a : Option Addr} {n c : Nat} {xs : List ByteArray} (h : RN w a n c xs) (hb : Below w.heap.size w w') : RN w' a n c xs :=
  h.keep hb.size (fun b e => hb.block b (h.lt e))
theorem RN.reads {w : World} {a : Option Addr} {n c : Nat} {xs : List ByteArray} (h : RN w a n c xs) : Reads w a (nV xs) := by
  obtain ⟨h1, h2, h3, h4⟩ := h
  rcases h4 with ⟨rfl, rfl⟩ | ⟨b, off, rfl, h6, h7, h8⟩
  · left
    have : xs = [] := List.eq_nil_of_length_eq_zero (by omega)
    rw [this]; rfl
  · exact .inr ⟨b, off, rfl, h7⟩
theorem RN.none_nil {w : World} {n c : Nat} {xs : List ByteArray} (h : RN w none n c xs) : n = 0 ∧ c = 0 := by
  obtain ⟨h1, h2, h3, h4⟩ := h
  rcases h4 with ⟨_, rfl⟩ | ⟨b, off, e, _⟩
  · omega
  · cases e

theorem own_formS {w : World} {B n : Nat} {v : Value} {L : List ByteArray} (ho : w.ownsRow B 31 1 v n (nV L)) : ∃ a c, v = .slice a n c ∧ RN w a n c L ∧ (∀ b, blk a = some b → B ≤ b) := by
  have hl := ho.1
  rw [nV_length] at hl
  rcases ho.2 with ⟨rfl, h0⟩ | ⟨g, cap, cur, rfl, h1, h2, h3, h4, h5, h6⟩
  · refine ⟨none, 0, by rw [h0], ⟨by omega, by omega, by unfold maxLen; omega, .inl ⟨rfl, rfl⟩⟩, fun b hb => by simp [blk] at hb⟩
  · refine ⟨_, cap, rfl, ⟨by omega, h3, h4, .inr ⟨g, 0, rfl, (Array.getElem?_eq_some_iff.1 h2).1, fun j u hu => ?_, fun j hj => ?_⟩⟩, fun b hb => ?_⟩
    · have := ho.cells (g := g) rfl j u hu
      rwa [add_none] at this
    · have hc := cell_of_row w g (0 + j) cur 31 (0, 0) h2
      rw [hc]
      refine ⟨?_, ?_⟩
      · have : j < cur.size := by omega
        simp [this]
      · simp only [World.frozen?, h2]
        simp
    · simp [blk] at hb; omega

theorem RN.put {w : World} {b off n c : Nat} {xs : List ByteArray} (h : RN w (some ⟨b, off, none⟩) n c xs) (hn : n < c) (x : ByteArray) : RN (w.setCell ⟨b, off + n, none⟩ (.string x)) (some ⟨b, off, none⟩) (n + 1) c (xs ++ [x]) := by
  obtain ⟨h1, h2, h3, h4⟩ := h
  rcases h4 with ⟨h4, _⟩ | ⟨b', off', e, h6, h7, h8⟩
  · cases h4
  · simp only [Option.some.injEq, Addr.mk.injEq, and_true] at e
    obtain ⟨rfl, rfl⟩ := e
    have hsome : ∃ u, w.cell? ⟨b, off + n, none⟩ = some u := Option.isSome_iff_exists.1 (h8 n hn).1
    obtain ⟨u0, hu0⟩ := hsome
    refine ⟨by simp [h1], hn, h3, .inr ⟨b, off, rfl, by simpa [World.setCell] using h6, fun j u hu => ?_, fun j hj => ?_⟩⟩
    · by_cases e : j = n
      · subst e
        rw [World.cell?_setCell_same _ _ _ hu0]
        have : (nV (xs ++ [x]))[j]? = some (.string x) := by simp [nV, ← h1]
        rw [this] at hu
        exact hu
      · rw [World.cell?_setCell_other (h := by simp)]
        refine h7 j u ?_
        rw [← hu]
        simp only [nV, List.map_append]
        by_cases hj : j < xs.length
        · rw [List.getElem?_append_left (by simpa using hj)]
        · rw [List.getElem?_eq_none (by simp; omega)]
          rw [List.getElem?_eq_none (by simp; omega)]
    · by_cases e : j = n
      · subst e
        rw [World.cell?_setCell_same _ _ _ hu0]
        exact ⟨rfl, by simpa using (h8 j hj).2⟩
      · rw [World.cell?_setCell_other (h := by simp)]
        exact ⟨(h8 j hj).1, by simpa using (h8 j hj).2⟩

/-- One name behind it. -/
theorem append_n {w : World} {ops : Array Oper} {rest : List Oper} {o : Oper} {act : Act} {Q : Exit → Act → World → Prop} (hgd : o.guard = none) (s x : Operand)
    (ho : o.op = .call { callee := .builtin .append, args := #[s, x], argTypes := #[27, 27] })
    (a : Option Addr) (n c : Nat) (xs : List ByteArray) (hs : act.eval s = .slice a n c) (hov : RN w a n c xs) (hn : n ≤ 1000000)
    (bk : Nat) (y : ByteArray) (hx : act.eval x = .slice (some ⟨bk, 0, none⟩) 1 1) (hy : Reads w (some ⟨bk, 0, none⟩) (nV [y]))
    (h : ∀ a' c' w', RN w' a' (n + 1) c' (xs ++ [y]) → w.grownBy w' (blk a) → (blk a' = blk a ∨ ∃ b', blk a' = some b' ∧ w.heap.size ≤ b' ∧ b' < w'.heap.size) → wpList Try.prog ops Q rest (act.put o.dst (.slice a' (n + 1) c')) w') : wpList Try.prog ops Q (o :: rest) act w := by
  obtain ⟨i0, hi, hz0, hz1, hz2⟩ := info_parts Try.info31
  have hyc : ∀ j u, (nV [y])[j]? = some u → w.cell? ((⟨bk, 0, none⟩ : Addr).add j) = some u := by
    rcases hy with e | ⟨b, o, e, hr⟩
    · simp [nV] at e
    · simp only [Option.some.injEq, Addr.mk.injEq, and_true] at e
      obtain ⟨rfl, rfl⟩ := e
      intro j u hu
      rw [add_none]; exact hr j u hu
  have hov' := hov
  obtain ⟨h1, h2, h3, h4⟩ := hov
  rcases h4 with ⟨rfl, rfl⟩ | ⟨b, off, rfl, h6, h7, h8⟩
  · obtain rfl : n = 0 := by omega
    have : xs = [] := List.eq_nil_of_length_eq_zero h1
    subst this
    refine wpList_append_own _ hgd s x 27 ho w.heap.size 31 i0 (.string ⟨#[]⟩) 1 16 Try.underlying27 hi hz0 hz1 hz2 rfl (by decide) (.slice none 0 0) 0 [] hs (World.ownsRow_nil _ _ _ _) ⟨bk, 0, none⟩ 1 1 (nV [y]) hx rfl hyc (nV_one _) (by unfold maxLen; omega) (by omega) (Nat.le_refl _) ?_
    intro v' w' ho' hg' _
    obtain ⟨a', c', rfl, hR, hpos⟩ := own_formS (L := [y]) ho'
    rcases hb : blk a' with _ | b'
    · cases a' with
      | none => have := hR.none_nil; omega
      | some _ => simp [blk] at hb
    · exact h _ c' w' hR hg' (.inr ⟨b', hb, hpos b' hb, hR.lt hb⟩)
  · refine wpList_append_arg w hgd s x 27 ho 31 i0 (.string ⟨#[]⟩) 1 16 Try.underlying27 hi hz0 hz1 hz2 rfl (by decide) b off n c (nV xs) hs (by rw [nV_length]; omega) h7 ⟨bk, 0, none⟩ 1 1 (nV [y]) hx rfl hyc (nV_one _) ?_ (by unfold maxLen; omega) (by omega) ?_ ?_
    · intro hr j hj
      have hj0 : j = 0 := by simp [nV] at hj; omega
      subst hj0
      have := h8 n (by omega)
      simpa using this
    · intro hr
      have hp := hov'.put (by omega) y
      have e : w.setCells b (off + n * 1) (nV [y]) = w.setCell ⟨b, off + n, none⟩ (.string y) := by simp [nV, World.setCells]
      rw [e]
      exact h _ c _ hp (grown_setCell _ _ _ _) (.inl rfl)
    · intro hr v' w' ho' hg'
      have e : nV xs ++ nV [y] = nV (xs ++ [y]) := by simp [nV]
      rw [e] at ho'
      obtain ⟨a', c', rfl, hR, hpos⟩ := own_formS ho'
      rcases hb : blk a' with _ | b'
      · cases a' with
        | none => have := hR.none_nil; omega
        | some _ => simp [blk] at hb
      · exact h _ c' w' hR ⟨hg'.os, hg'.tape, hg'.output, hg'.size, fun k hk _ => hg'.block k hk (by simp)⟩ (.inr ⟨b', hb, hpos b' hb, hR.lt hb⟩)

theorem RN.last {w : World} {b off n c : Nat} {xs : List ByteArray} {x : ByteArray} (h : RN w (some ⟨b, off, none⟩) n c (xs ++ [x])) : 0 < n ∧ w.cell? ⟨b, off + (n - 1), none⟩ = some (.string x) ∧ RN w (some ⟨b, off, none⟩) (n - 1) c xs := by
  obtain ⟨h1, h2, h3, h4⟩ := h
  simp at h1
  rcases h4 with ⟨h4, _⟩ | ⟨b', off', e, h6, h7, h8⟩
  · cases h4
  · simp only [Option.some.injEq, Addr.mk.injEq, and_true] at e
    obtain ⟨rfl, rfl⟩ := e
    refine ⟨by omega, h7 (n - 1) _ ?_, by omega, by omega, h3, .inr ⟨b, off, rfl, h6, fun j u hu => h7 j u ?_, h8⟩⟩
    · have : n - 1 = xs.length := by omega
      rw [this]
      simp [nV]
    · have hj : j < xs.length := by
        rcases Nat.lt_or_ge j xs.length with h | h
        · exact h
        · rw [List.getElem?_eq_none (by simp [nV]; omega)] at hu; cases hu
      rw [← hu]
      simp [nV, List.getElem?_append_left, hj]
theorem RN.first {w : World} {b off n c : Nat} {xs : List ByteArray} {x : ByteArray} (h : RN w (some ⟨b, off, none⟩) n c (x :: xs)) : 0 < n ∧ w.cell? ⟨b, off, none⟩ = some (.string x) ∧ w.frozen? ⟨b, off, none⟩ = false ∧ RN w (some ⟨b, off + 1, none⟩) (n - 1) (c - 1) xs := by
  obtain ⟨h1, h2, h3, h4⟩ := h
  simp at h1
  rcases h4 with ⟨h4, _⟩ | ⟨b', off', e, h6, h7, h8⟩
  · cases h4
  · simp only [Option.some.injEq, Addr.mk.injEq, and_true] at e
    obtain ⟨rfl, rfl⟩ := e
    refine ⟨by omega, h7 0 _ (by simp [nV]), by have := (h8 0 (by omega)).2; simpa using this, by omega, by omega, by omega, .inr ⟨b, off + 1, rfl, h6, fun j u hu => ?_, fun j hj => ?_⟩⟩
    · have := h7 (j + 1) u (by simpa [nV] using hu)
      rwa [show off + (j + 1) = off + 1 + j by omega] at this
    · have := h8 (j + 1) (by omega)
      rwa [show off + (j + 1) = off + 1 + j by omega] at this
theorem RN.first1 {w : World} {b off : Nat} {xs : List ByteArray} {x : ByteArray} (h : RN w (some ⟨b, off, none⟩) 1 1 (x :: xs)) : RN w (some ⟨b, off, none⟩) 0 0 xs := by
  obtain ⟨h1, h2, h3, h4⟩ := h
  have hx : xs = [] := by simpa using h1
  subst hx
  refine ⟨rfl, Nat.le_refl _, Nat.zero_le _, ?_⟩
  rcases h4 with ⟨h4, _⟩ | ⟨b', off', e, h6, h7, h8⟩
  · cases h4
  · exact .inr ⟨b', off', e, h6, fun j u hu => by simp [nV] at hu, fun j hj => by omega⟩
theorem RN.addr {w : World} {n c : Nat} {a : Option Addr} {xs : List ByteArray} (h : RN w a n c xs) (hn : 0 < n) : ∃ b off, a = .some ⟨b, off, none⟩ := by
  obtain ⟨h1, h2, h3, h4⟩ := h
  rcases h4 with ⟨_, h4⟩ | ⟨b, off, e, _⟩
  · omega
  · exact ⟨b, off, e⟩
end Go.Proofs.Ytandbkbodlbjcaa
