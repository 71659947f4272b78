/- A beat's memory: its own blocks; the small functions. -/
import Derived.Test.YtcfenakafcfjbaaEnt
import Derived.ArgAppend
import Derived.BigRegion
import Derived.BigQuiet
import Derived.Deep.Cut
namespace Go.Proofs.Ytcfenakafcfjbaa
open Go.RowKit Go.ChangeShapes Go.WideShapes Go.ChangeAt Go.Deep Go.Maps

/-- The world w' is w with new blocks, and with writes to blocks of D alone. -/
structure Kp (D : Nat → Prop) (w w' : World) : Prop where
  os : w'.os = w.os
  tape : w'.tape = w.tape
  output : w'.output = w.output
  size : w.heap.size ≤ w'.heap.size
  block : ∀ k, k < w.heap.size → ¬ D k → w'.heap[k]? = w.heap[k]?
theorem Kp.refl (D : Nat → Prop) (w : World) : Kp D w w := ⟨rfl, rfl, rfl, Nat.le_refl _, fun _ _ _ => rfl⟩
theorem Kp.trans {D : Nat → Prop} {a b c : World} (h : Kp D a b) (k : Kp D b c) : Kp D a c :=
  ⟨k.os.trans h.os, k.tape.trans h.tape, k.output.trans h.output, Nat.le_trans h.size k.size, fun i hi hd => (k.block i (Nat.lt_of_lt_of_le hi h.size) hd).trans (h.block i hi hd)⟩
theorem Kp.ofB {D : Nat → Prop} {w w' : World} (h : Below w.heap.size w w') : Kp D w w' := ⟨h.os, h.tape, h.output, h.size, fun k hk _ => h.block k hk⟩
theorem Kp.ofG {D : Nat → Prop} {w w' : World} {row : Option Nat} (h : w.grownBy w' row) (hD : ∀ k, row = some k → D k) : Kp D w w' := ⟨h.os, h.tape, h.output, h.size, fun k hk hd => h.block k hk fun e => hd (hD k e.symm)⟩
theorem Kp.below {D : Nat → Prop} {B : Nat} {w0 w w' : World} (h : Kp D w w') (hb : Below B w0 w) (hB : B ≤ w0.heap.size) (hD : ∀ k, k < B → ¬ D k) : Below B w0 w' :=
  ⟨h.os.trans hb.os, h.tape.trans hb.tape, h.output.trans hb.output, Nat.le_trans hb.size h.size, fun k hk => (h.block k (Nat.lt_of_lt_of_le (Nat.lt_of_lt_of_le hk hB) hb.size) (hD k hk)).trans (hb.block k hk)⟩
/-- The blocks that an object has. -/
abbrev Cl := Nat → Prop
/-- A step: blocks that it has not are as they were; what it has of old blocks stays. -/
structure Stp (E E' : Cl) (w w' : World) : Prop where
  kp : Kp E w w'
  col : ∀ k, k < w.heap.size → (E' k ↔ E k)
theorem Stp.refl (E : Cl) (w : World) : Stp E E w w := ⟨Kp.refl _ _, fun _ _ => Iff.rfl⟩
theorem Stp.trans {E E' E'' : Cl} {a b c : World} (h : Stp E E' a b) (k : Stp E' E'' b c) : Stp E E'' a c :=
  ⟨⟨k.kp.os.trans h.kp.os, k.kp.tape.trans h.kp.tape, k.kp.output.trans h.kp.output, Nat.le_trans h.kp.size k.kp.size, fun i hi hd => (k.kp.block i (Nat.lt_of_lt_of_le hi h.kp.size) (fun e => hd ((h.col i hi).1 e))).trans (h.kp.block i hi hd)⟩,
   fun i hi => (k.col i (Nat.lt_of_lt_of_le hi h.kp.size)).trans (h.col i hi)⟩
theorem Stp.ofB {E : Cl} {w w' : World} (h : Below w.heap.size w w') : Stp E E w w' := ⟨Kp.ofB h, fun _ _ => Iff.rfl⟩

theorem BoxL.at {w : World} {g o : Nat} {xs : List Value} {v : Value} (h : BoxL w g xs) (ho : xs[o]? = some v) : w.cell? ⟨g, o, none⟩ = some v ∧ w.frozen? ⟨g, o, none⟩ = false := by
  obtain ⟨h1, h2⟩ := List.getElem?_eq_some_iff.1 ho
  have := h.2 o h1
  rw [h2] at this
  exact this
theorem box_not_map {H : Type} {P : Program} {k : TypeId} {R : Value → Option (DataW H × List MemPlace)} {w : World} {b n g o : Nat} {D : DataW H} {xs : List Value} {v : Value} (h : w.ownsMap P k R b n D) (hb : BoxL w g xs) (ho : xs[o]? = some v) : b ≠ g := by
  obtain ⟨es, clock, h1, _⟩ := h
  intro e
  subst e
  have := (hb.at ho).1
  simp [World.cell?, h1] at this

/-- Beats in memory: wait, when each was heard of, the lives. -/
def BeM (E : Cl) (w : World) (cb : Nat) (wt : Int) (N : Nat) (F G : Int → Option Int) : Prop :=
  (∀ k, E k → k < w.heap.size) ∧ E cb ∧ I64 wt ∧ ∃ v1 v2, BoxL w cb [.int .i64 wt, v1, v2] ∧ MapI w v1 N F ∧ MapI w v2 N G ∧
    ((v1 = .map none ∧ v2 = .map none) ∨ ∃ b1 b2, v1 = .map (some b1) ∧ v2 = .map (some b2) ∧ E b1 ∧ E b2 ∧ b1 ≠ b2)
theorem BeM.keep {E : Cl} {w w' : World} {cb N : Nat} {wt : Int} {F G : Int → Option Int} (h : BeM E w cb wt N F G) (hs : w.heap.size ≤ w'.heap.size) (hk : ∀ k, E k → w'.heap[k]? = w.heap[k]?) : BeM E w' cb wt N F G := by
  obtain ⟨h1, h2, hw, v1, v2, h3, h4, h5, h6⟩ := h
  refine ⟨fun k hk' => Nat.lt_of_lt_of_le (h1 k hk') hs, h2, hw, v1, v2, h3.keep hs (hk cb h2), h4.keep (fun b e => ?_), h5.keep (fun b e => ?_), h6⟩
  · rcases h6 with ⟨e1, _⟩ | ⟨b1, b2, e1, e2, g1, g2, _⟩
    · rw [e1] at e; cases e
    · rw [e1] at e; cases e; exact hk _ g1
  · rcases h6 with ⟨_, e1⟩ | ⟨b1, b2, e1, e2, g1, g2, _⟩
    · rw [e1] at e; cases e
    · rw [e2] at e; cases e; exact hk _ g2
theorem BeM.below {E : Cl} {w w' : World} {cb N : Nat} {wt : Int} {F G : Int → Option Int} (h : BeM E w cb wt N F G) (hb : Below w.heap.size w w') : BeM E w' cb wt N F G :=
  h.keep hb.size (fun k hk => hb.block k (h.1 k hk))
/-- Another's step. -/
theorem BeM.other {E E1 E2 : Cl} {w w' : World} {cb N : Nat} {wt : Int} {F G : Int → Option Int} (h : BeM E w cb wt N F G) (hs : Stp E1 E2 w w') (hd : ∀ k, E k → ¬ E1 k) : BeM E w' cb wt N F G :=
  h.keep hs.kp.size (fun k hk => hs.kp.block k (h.1 k hk) (hd k hk))

/-- Is this a time, a life that may be? -/
def okT (x : Int) : Bool := decide (0 ≤ x ∧ x ≤ 1099511627776)
theorem ret_b {a b : Bool} (h : a = b) : Ending.returned (.bool a) = .returned (.bool b) := by rw [h]
theorem when_any (x : Int) (w : World) : Calls Try.prog 23 #[.int .i64 x] w fun e w' => e = .returned (.bool (okT x)) ∧ w' = w := by
  have HO : Hid (okT x = decide (0 ≤ x ∧ x ≤ 1099511627776)) := hide rfl
  by_cases h1 : (0 : Int) ≤ x
  · have H1 := hide h1
    go_enter Try.func23, Try.ntmps23
    go_wp2
    go_ret
    exact ⟨ret_b (by have := H1.out; rw [HO.out, Bool.eq_iff_iff]; simp; omega), rfl⟩
  · have H1 := hide h1
    go_enter Try.func23, Try.ntmps23
    go_wp2
    go_ret
    exact ⟨ret_b (by have := H1.out; rw [HO.out, Bool.eq_iff_iff]; simp; omega), rfl⟩
theorem bad_any (x : Int) (w : World) : Calls Try.prog 28 #[.int .i64 x] w fun e w' => e = .returned (.bool (!okT x)) ∧ w' = w := by
  have HO : Hid (okT x = decide (0 ≤ x ∧ x ≤ 1099511627776)) := hide rfl
  by_cases h1 : x < 0
  · have H1 := hide h1
    go_enter Try.func28, Try.ntmps28
    go_wp2
    go_ret
    exact ⟨ret_b (by have := H1.out; rw [HO.out, Bool.eq_iff_iff]; simp; omega), rfl⟩
  · have H1 := hide h1
    go_enter Try.func28, Try.ntmps28
    go_wp2
    go_ret
    exact ⟨ret_b (by have := H1.out; rw [HO.out, Bool.eq_iff_iff]; simp; omega), rfl⟩
end Go.Proofs.Ytcfenakafcfjbaa
