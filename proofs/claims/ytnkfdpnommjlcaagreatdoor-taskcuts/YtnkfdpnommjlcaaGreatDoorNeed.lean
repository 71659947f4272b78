/- need, within, has; the walk's cells; how a look ends. -/
import Derived.Test.YtnkfdpnommjlcaaGreatDoorNext
namespace Go.Proofs.YtnkfdpnommjlcaaGreatDoor
open Go.RowKit Go.ChangeShapes Go.WideShapes Go.ChangeAt Go.Deep

def wrongV (fn p e : Int) : Value := .iface 96 (.agg #[.int .i64 fn, .int .i64 p, .int .i64 e])
/-- How a look ends: 0: it returns; else what is wrong goes up. -/
def upE (fn p e : Int) : Ending := if e = 0 then .returned (.tuple #[]) else .panicked [{ v := wrongV fn p e, recovered := false }]

theorem need_yes (fn p e : Int) (w : World) : Calls Tryz.prog 65 #[.agg #[.int .i64 fn, .int .i64 p], .bool true, .int .i64 e] w fun r w' => r = .returned (.tuple #[]) ∧ Below w.heap.size w w' := by
  go_enter Tryz.func65, Tryz.ntmps65
  go_wp2
  go_end0
  exact ⟨rfl, alloc_below w _⟩
theorem need_no (fn p e : Int) (w : World) : Calls Tryz.prog 65 #[.agg #[.int .i64 fn, .int .i64 p], .bool false, .int .i64 e] w fun r w' => r = .panicked [{ v := wrongV fn p e, recovered := false }] ∧ Below w.heap.size w w' := by
  go_enter Tryz.func65, Tryz.ntmps65
  go_wp2
  exact ⟨rfl, rfl, alloc_below w _⟩
def inB (n lo hi : Int) : Bool := decide (lo ≤ n) && decide (n ≤ hi)
theorem within_any (n lo hi : Int) (w : World) : Calls Tryz.prog 66 #[.int .i64 n, .int .i64 lo, .int .i64 hi] w fun r w' => r = .returned (.bool (inB n lo hi)) ∧ w' = w := by
  unfold inB
  go_enter Tryz.func66, Tryz.ntmps66
  go_wp2
  · rename_i h
    go_ret
    exact ⟨by simp [h], rfl⟩
  · rename_i h
    go_ret
    exact ⟨by simp [show ¬ lo ≤ n by omega], rfl⟩
/-- Has a list that long an item n? -/
def hasB (long n : Int) : Bool := inB n 0 (long - 1)
theorem has_any (long n : Int) (hl : -9223372036854775808 < long ∧ long ≤ 9223372036854775807) (w : World) : Calls Tryz.prog 50 #[.int .i64 long, .int .i64 n] w fun r w' => r = .returned (.bool (hasB long n)) ∧ w' = w := by
  have hw : wrap64 (long - 1) = long - 1 := IntWalk.wrap64_in (long - 1) (by omega)
  have C := fun w => within_any n 0 (long - 1) w
  unfold hasB
  generalize inB n 0 (long - 1) = q at C ⊢
  go_enter Tryz.func50, Tryz.ntmps50
  go_wp2_with (go_at_call 66; go_must (refine (C _).mono ?_; rintro e w1 ⟨rfl, hw1⟩; subst hw1))
  go_ret
  exact ⟨rfl, rfl⟩

theorem chain {a b c : World} (h1 : Below a.heap.size a b) (h2 : Below b.heap.size b c) : Below a.heap.size a c := h1.trans (h2.mono h1.size)

/-- The walk's ten cells. -/
structure Wk where
  nm : ByteArray
  ar : Int
  lo : Int
  ca : Option Addr
  cn : Nat
  cc : Nat
  fn : Int
  p : Int
  fa : Option Addr
  nf : Nat
  fc : Nat
  dv : Value
  gv : Value
  low : Int
def Wk.row (x : Wk) : List Value := [.string x.nm, .int .i64 x.ar, .int .i64 x.lo, .slice x.ca x.cn x.cc, .int .i64 x.fn, .int .i64 x.p, .slice x.fa x.nf x.fc, x.dv, x.gv, .int .i64 x.low]
def AtW (w : World) (b : Nat) (x : Wk) : Prop := w.heap[b]? = some (.cells x.row.toArray 110 (0, 0))
theorem AtW.below {w w' : World} {b : Nat} {x : Wk} (h : AtW w b x) (hb : Below w.heap.size w w') : AtW w' b x := heap_row h hb

def insErr (lo : Int) (nc nf : Nat) (op n : Int) : Int :=
  if (kindOf op).word.toList.isEmpty || !((kindOf op).hasN || decide (n = 0)) then 10
  else if op = 5 ∨ op = 6 then (if hasB lo n then 0 else 13)
  else if op = 14 ∨ op = 15 then (if hasB nc n then 0 else 11)
  else if op = 16 then (if hasB nf n then 0 else 14)
  else 0

end Go.Proofs.YtnkfdpnommjlcaaGreatDoor
