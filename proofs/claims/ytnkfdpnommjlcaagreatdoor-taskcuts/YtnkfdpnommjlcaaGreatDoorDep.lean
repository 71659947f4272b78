/- The depths, plain; a walk in memory while it gives depths; give. -/
import Derived.Test.YtnkfdpnommjlcaaGreatDoorInstrs
namespace Go.Proofs.YtnkfdpnommjlcaaGreatDoor
open Go.RowKit Go.ChangeShapes Go.WideShapes Go.ChangeAt Go.Deep

/-- The depth behind is handed on to those that are gone on to. -/
def nextGo (n : Nat) (beh : Int) : List Int → List Int → Nat → Except Int (List Int × Nat)
  | [], d, low => .ok (d, low)
  | t :: ts, d, low =>
    if hasB n t = true then
      if d.getD t.toNat 0 = -1 then nextGo n beh ts (d.set t.toNat beh) (min low t.toNat)
      else if d.getD t.toNat 0 = beh then nextGo n beh ts d low else .error 12
    else .error 11
/-- The depth behind instruction i, where depth is ahead of it. -/
def behL (ns : List Int) (i : Int × Int) (dep : Int) : Option Int :=
  if inB (popsOf i.1 i.2 ns) (dep + (kindOf i.1).pushes - 32) dep = true then some (dep - popsOf i.1 i.2 ns + (kindOf i.1).pushes) else none
/-- The instruction at p is gone over. -/
def overL (ns : List Int) (code : List (Int × Int)) (d : List Int) (p low : Nat) : Except Int (List Int × Nat) :=
  match behL ns (code.getD p (0, 0)) (d.getD p 0) with
  | some beh => nextGo code.length beh (nextL (code.getD p (0, 0)).1 (code.getD p (0, 0)).2 ((p + 1 : Nat) : Int)) d low
  | none => .error 12
/-- The least one, from low on, that has a depth and was not gone over. -/
def leastFrom (d : List Int) (g : List Bool) : Nat → Nat → Nat
  | 0, low => low
  | k + 1, low => if low < d.length ∧ (d.getD low 0 = -1 ∨ g.getD low true = true) then leastFrom d g k (low + 1) else low
/-- All depths, or where it goes wrong, and how. -/
def walkL (ns : List Int) (code : List (Int × Int)) : Nat → List Int → List Bool → Nat → Except (Int × Int) (List Int)
  | 0, d, _, _ => .ok d
  | k + 1, d, g, low =>
    if leastFrom d g d.length low < d.length then
      match overL ns code d (leastFrom d g d.length low) (leastFrom d g d.length low) with
      | .error e => .error ((leastFrom d g d.length low : Nat), e)
      | .ok (d', low') => walkL ns code k d' (g.set (leastFrom d g d.length low) true) low'
    else .ok d
def depthsL (ns : List Int) (code : List (Int × Int)) : Except (Int × Int) (List Int) :=
  walkL ns code (code.length + 1) ((List.replicate code.length (-1 : Int)).set 0 0) (List.replicate code.length false) 0

/-- What of a walk stays while it gives depths. -/
structure WC where
  nm : ByteArray
  ar : Int
  lo : Int
  ca : Option Addr
  n : Nat
  cc : Nat
  fn : Int
  fa : Option Addr
  nf : Nat
  fc : Nat
  b : Nat
  g1 : Nat
  g2 : Nat
def WC.row (x : WC) (p low : Int) : List Value := [.string x.nm, .int .i64 x.ar, .int .i64 x.lo, .slice x.ca x.n x.cc, .int .i64 x.fn, .int .i64 p, .slice x.fa x.nf x.fc, .slice (some ⟨x.g1, 0, none⟩) x.n x.n, .slice (some ⟨x.g2, 0, none⟩) x.n x.n, .int .i64 low]
structure Dp (B : Nat) (w : World) (x : WC) (p low : Int) (d : List Int) (g : List Bool) : Prop where
  le : B ≤ x.b ∧ B ≤ x.g1 ∧ B ≤ x.g2
  dl : d.length = x.n
  gl : g.length = x.n
  self : w.heap[x.b]? = some (.cells (x.row p low).toArray 110 (0, 0))
  dep : w.heap[x.g1]? = some (.cells (iV d).toArray 3 (0, 0))
  gon : w.heap[x.g2]? = some (.cells (tV g).toArray 4 (0, 0))

section
variable {B : Nat} {w w' : World} {x : WC} {p low : Int} {d : List Int} {g : List Bool}
theorem Dp.below (h : Dp B w x p low d g) (hb : Below w.heap.size w w') : Dp B w' x p low d g :=
  ⟨h.le, h.dl, h.gl, heap_row h.self hb, heap_row h.dep hb, heap_row h.gon hb⟩
theorem tags_ne {a c s t : Nat} {cs cs' : Array Value} (h : w.heap[a]? = some (.cells cs s (0, 0))) (h' : w.heap[c]? = some (.cells cs' t (0, 0))) (hne : s ≠ t) : a ≠ c := fun e => by
  subst e; exact tag_ne h hne h'
theorem Dp.setD (h : Dp B w x p low d g) (k : Nat) (v : Int) : Dp B (w.setCell ⟨x.g1, k, none⟩ (.int .i64 v)) x p low (d.set k v) g := by
  have h1 := tags_ne h.self h.dep (by decide)
  have h2 := tags_ne h.gon h.dep (by decide)
  refine ⟨h.le, by simp [h.dl], h.gl, ?_, ?_, ?_⟩
  · rw [Below.heap_setCell _ _ _ _ (by simpa using h1)]; exact h.self
  · have := set_row (i := k) h.dep (.int .i64 v)
    rw [this]; simp [iV, List.map_set]
  · rw [Below.heap_setCell _ _ _ _ (by simpa using h2)]; exact h.gon
theorem Dp.setG (h : Dp B w x p low d g) (k : Nat) (v : Bool) : Dp B (w.setCell ⟨x.g2, k, none⟩ (.bool v)) x p low d (g.set k v) := by
  have h1 := tags_ne h.self h.gon (by decide)
  have h2 := tags_ne h.dep h.gon (by decide)
  refine ⟨h.le, h.dl, by simp [h.gl], ?_, ?_, ?_⟩
  · rw [Below.heap_setCell _ _ _ _ (by simpa using h1)]; exact h.self
  · rw [Below.heap_setCell _ _ _ _ (by simpa using h2)]; exact h.dep
  · have := set_row (i := k) h.gon (.bool v)
    rw [this]; simp [tV, List.map_set]
theorem Dp.setLow (h : Dp B w x p low d g) (l : Int) : Dp B (w.setCell ⟨x.b, 9, none⟩ (.int .i64 l)) x p l d g := by
  have h1 := tags_ne h.dep h.self (by decide)
  have h2 := tags_ne h.gon h.self (by decide)
  refine ⟨h.le, h.dl, h.gl, set_row (i := 9) h.self (.int .i64 l), ?_, ?_⟩
  · rw [Below.heap_setCell _ _ _ _ (by simpa using h1)]; exact h.dep
  · rw [Below.heap_setCell _ _ _ _ (by simpa using h2)]; exact h.gon
theorem Dp.setP (h : Dp B w x p low d g) (q : Int) : Dp B (w.setCell ⟨x.b, 5, none⟩ (.int .i64 q)) x q low d g := by
  have h1 := tags_ne h.dep h.self (by decide)
  have h2 := tags_ne h.gon h.self (by decide)
  refine ⟨h.le, h.dl, h.gl, set_row (i := 5) h.self (.int .i64 q), ?_, ?_⟩
  · rw [Below.heap_setCell _ _ _ _ (by simpa using h1)]; exact h.dep
  · rw [Below.heap_setCell _ _ _ _ (by simpa using h2)]; exact h.gon
theorem Dp.at (h : Dp B w x p low d g) {k : Nat} (hk : k < x.n) : w.cell? ⟨x.g1, k, none⟩ = some (.int .i64 (d.getD k 0)) := by
  have hk' : k < d.length := by rw [h.dl]; exact hk
  exact cell_row h.dep (by simp [iV, hk'])
theorem Dp.got (h : Dp B w x p low d g) {k : Nat} (hk : k < x.n) : w.cell? ⟨x.g2, k, none⟩ = some (.bool (g.getD k true)) := by
  have hk' : k < g.length := by rw [h.gl]; exact hk
  exact cell_row h.gon (by simp [tV, hk'])
end

set_option maxRecDepth 100000 in
set_option maxHeartbeats 1000000 in
theorem give_any (B : Nat) (x : WC) (p : Int) (l k : Nat) (dd : Int) (d : List Int) (g : List Bool) (w : World) (hD : Dp B w x p (l : Int) d g) (hk : k < x.n) :
    Calls Tryz.prog 73 #[.pointer (some ⟨x.b, 0, none⟩), .int .i64 (k : Int), .int .i64 dd] w fun r w' => r = .returned (.tuple #[]) ∧ Dp B w' x p ((min l k : Nat) : Int) (d.set k dd) g ∧ Below B w w' ∧ ∀ j, j ≠ x.b → j ≠ x.g1 → w'.heap[j]? = w.heap[j]? := by
  have HR := hide (((hD.setD k dd).setLow ((min l k : Nat) : Int)))
  have HB : Hid (Below B w ((w.setCell ⟨x.g1, k, none⟩ (.int .i64 dd)).setCell ⟨x.b, 9, none⟩ (.int .i64 ((min l k : Nat) : Int)))) := ((Below.refl _ _).setCell (p := ⟨x.g1, k, none⟩) hD.le.2.1 _).setCell (p := ⟨x.b, 9, none⟩) hD.le.1 _
  have h2 := (hD.setD k dd).self
  have hD1 := hD.self
  have f1 := frozen_row (i := k) hD.dep
  have c1 := hD.at hk
  have hne := tags_ne hD.self hD.dep (by decide)
  have hk' : (k : Int) < (x.n : Int) := by omega
  clear hD
  obtain ⟨nm, ar, lo, ca, n, cc, fn, fa, nf, fc, b, g1, g2⟩ := x
  simp only [WC.row] at *
  have b7 := cell_row (i := 7) hD1 rfl
  have b9 := cell_row (i := 9) hD1 rfl
  have q9 := cell_row (i := 9) h2 rfl
  have fr := frozen_row (i := 9) h2
  generalize d.getD k 0 = dk at c1
  have e : ((min l k : Nat) : Int) = min (l : Int) (k : Int) := by omega
  rw [e] at HR HB ⊢
  clear hD1 h2 e
  go_enter Tryz.func73, Tryz.ntmps73
  go_wp2
  go_end0
  exact ⟨rfl, HR.out, HB.out, fun j h1 h2 => by rw [Below.heap_setCell _ _ _ _ (by simpa using h1), Below.heap_setCell _ _ _ _ (by simpa using h2)]⟩
end Go.Proofs.YtnkfdpnommjlcaaGreatDoor
