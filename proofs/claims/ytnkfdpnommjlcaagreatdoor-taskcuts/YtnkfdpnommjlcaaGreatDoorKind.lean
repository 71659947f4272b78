/- kindOf, Name, HasN, Pushes. -/
import Derived.Test.YtnkfdpnommjlcaaGreatDoorBase
namespace Go.Proofs.YtnkfdpnommjlcaaGreatDoor
open Go.RowKit Go.ChangeShapes Go.WideShapes Go.ChangeAt Go.Deep

/-- What all instructions of one number have in common. -/
structure Kind where
  word : ByteArray
  hasN : Bool
  pops : Int
  pushes : Int

def kindT : List Kind := [
  ⟨⟨#[]⟩, false, 0, 0⟩,
  ⟨⟨#[112, 117, 115, 104]⟩, true, 0, 1⟩,
  ⟨⟨#[112, 111, 112]⟩, false, 1, 0⟩,
  ⟨⟨#[100, 117, 112]⟩, false, 1, 2⟩,
  ⟨⟨#[115, 119, 97, 112]⟩, false, 2, 2⟩,
  ⟨⟨#[108, 111, 97, 100]⟩, true, 0, 1⟩,
  ⟨⟨#[115, 116, 111, 114, 101]⟩, true, 1, 0⟩,
  ⟨⟨#[97, 100, 100]⟩, false, 2, 1⟩,
  ⟨⟨#[115, 117, 98]⟩, false, 2, 1⟩,
  ⟨⟨#[109, 117, 108]⟩, false, 2, 1⟩,
  ⟨⟨#[100, 105, 118]⟩, false, 2, 1⟩,
  ⟨⟨#[109, 111, 100]⟩, false, 2, 1⟩,
  ⟨⟨#[108, 116]⟩, false, 2, 1⟩,
  ⟨⟨#[101, 113]⟩, false, 2, 1⟩,
  ⟨⟨#[106, 117, 109, 112]⟩, true, 0, 0⟩,
  ⟨⟨#[122, 101, 114, 111]⟩, true, 1, 0⟩,
  ⟨⟨#[115, 112, 97, 119, 110]⟩, true, 0, 1⟩,
  ⟨⟨#[97, 119, 97, 105, 116]⟩, false, 1, 1⟩,
  ⟨⟨#[114, 101, 116]⟩, false, 1, 0⟩,
  ⟨⟨#[102, 97, 105, 108]⟩, false, 1, 0⟩]
/-- The variable holds the table. -/
def Tab (w : World) : Prop := ∀ j (h : j < kindT.length), w.cell? ⟨1, j * 4, none⟩ = some (.string kindT[j].word) ∧ w.cell? ⟨1, j * 4 + 1, none⟩ = some (.bool kindT[j].hasN) ∧ w.cell? ⟨1, j * 4 + 2, none⟩ = some (.int .i64 kindT[j].pops) ∧ w.cell? ⟨1, j * 4 + 3, none⟩ = some (.int .i64 kindT[j].pushes)
theorem Tab.below {w w' : World} (h : Tab w) (hb : Below w.heap.size w w') : Tab w' := fun j hj => by
  obtain ⟨h0, h1, h2, h3⟩ := h j hj
  exact ⟨keep_cell h0 hb, keep_cell h1 hb, keep_cell h2 hb, keep_cell h3 hb⟩

def noKind : Kind := ⟨⟨#[]⟩, false, 0, 0⟩
/-- The kind of a number. -/
def kindOf (op : Int) : Kind := if 1 ≤ op ∧ op ≤ 19 then kindT.getD op.toNat noKind else noKind

set_option maxRecDepth 100000 in
set_option maxHeartbeats 400000 in
theorem kindOf_any (op : Int) (w : World) (hT : Tab w) : Calls Tryz.prog 110 #[.int .i64 op] w fun e w' => e = .returned (.agg #[.string (kindOf op).word, .bool (kindOf op).hasN, .int .i64 (kindOf op).pops, .int .i64 (kindOf op).pushes]) ∧ Below w.heap.size w w' := by
  by_cases h1 : 1 ≤ op
  · by_cases h2 : op ≤ 19
    · obtain ⟨j, rfl⟩ : ∃ j : Nat, op = (j : Int) := ⟨op.toNat, by omega⟩
      have hj : j < kindT.length := by show j < 20; omega
      obtain ⟨c0, c1, c2, c3⟩ := hT j hj
      have e : kindOf (j : Int) = kindT[j] := by
        unfold kindOf
        rw [if_pos ⟨h1, h2⟩]
        simp [hj]
      rw [e]
      clear e
      obtain ⟨k, hk⟩ : ∃ k, k = kindT[j] := ⟨_, rfl⟩
      rw [← hk] at c0 c1 c2 c3 ⊢
      clear hk
      have hsz : 1 < w.heap.size := cell_some_lt c0
      go_enter Tryz.func110, Tryz.ntmps110
      go_wp2
      refine bodyPost_ret (v := .agg #[.string k.word, .bool k.hasN, .int .i64 k.pops, .int .i64 k.pushes]) (by simp [results, Tryz.results110, go_sem]) rfl ⟨rfl, (Below.refl _ _).alloc (Nat.le_refl _) _⟩
    · have e : kindOf op = noKind := by unfold kindOf; rw [if_neg (by omega)]
      rw [e]
      go_enter Tryz.func110, Tryz.ntmps110
      go_wp2
      refine bodyPost_ret (v := .agg #[.string ⟨#[]⟩, .bool false, .int .i64 0, .int .i64 0]) (by simp [results, Tryz.results110, go_sem]) rfl ⟨rfl, (Below.refl _ _).alloc (Nat.le_refl _) _⟩
  · have e : kindOf op = noKind := by unfold kindOf; rw [if_neg (by omega)]
    rw [e]
    go_enter Tryz.func110, Tryz.ntmps110
    go_wp2
    refine bodyPost_ret (v := .agg #[.string ⟨#[]⟩, .bool false, .int .i64 0, .int .i64 0]) (by simp [results, Tryz.results110, go_sem]) rfl ⟨rfl, (Below.refl _ _).alloc (Nat.le_refl _) _⟩

theorem run_field0 (w : World) (s : ByteArray) (b : Bool) (p q : Int) : (Instr.field 171 (.agg #[.string s, .bool b, .int .i64 p, .int .i64 q]) 0).run Tryz.prog w = .ok (.string s) w := by
  simp [Instr.field, asAgg, go_sem]
theorem run_field1 (w : World) (s : ByteArray) (b : Bool) (p q : Int) : (Instr.field 171 (.agg #[.string s, .bool b, .int .i64 p, .int .i64 q]) 1).run Tryz.prog w = .ok (.bool b) w := by
  simp [Instr.field, asAgg, go_sem]
theorem run_field2 (w : World) (s : ByteArray) (b : Bool) (p q : Int) : (Instr.field 171 (.agg #[.string s, .bool b, .int .i64 p, .int .i64 q]) 2).run Tryz.prog w = .ok (.int .i64 p) w := by
  simp [Instr.field, asAgg, go_sem]
theorem run_field3 (w : World) (s : ByteArray) (b : Bool) (p q : Int) : (Instr.field 171 (.agg #[.string s, .bool b, .int .i64 p, .int .i64 q]) 3).run Tryz.prog w = .ok (.int .i64 q) w := by
  simp [Instr.field, asAgg, go_sem]

set_option maxRecDepth 100000 in
set_option maxHeartbeats 400000 in
theorem name_any (op : Int) (w : World) (hT : Tab w) : Calls Tryz.prog 99 #[.int .i64 op] w fun e w' => e = .returned (.string (kindOf op).word) ∧ Below w.heap.size w w' := by
  have C := kindOf_any op w hT
  have kf := run_field0
  generalize kindOf op = k at C ⊢
  go_enter Tryz.func99, Tryz.ntmps99
  go_wp2_with (go_at_call 110; go_must (refine C.mono ?_; rintro e w1 ⟨rfl, hb1⟩))
  go_ret
  exact ⟨rfl, hb1⟩

set_option maxRecDepth 100000 in
set_option maxHeartbeats 400000 in
theorem hasN_any (op : Int) (w : World) (hT : Tab w) : Calls Tryz.prog 100 #[.int .i64 op] w fun e w' => e = .returned (.bool (kindOf op).hasN) ∧ Below w.heap.size w w' := by
  have C := kindOf_any op w hT
  have kf := run_field1
  generalize kindOf op = k at C ⊢
  go_enter Tryz.func100, Tryz.ntmps100
  go_wp2_with (go_at_call 110; go_must (refine C.mono ?_; rintro e w1 ⟨rfl, hb1⟩))
  go_ret
  exact ⟨rfl, hb1⟩

set_option maxRecDepth 100000 in
set_option maxHeartbeats 400000 in
theorem pushes_any (op n : Int) (w : World) (hT : Tab w) : Calls Tryz.prog 105 #[.agg #[.int .i64 op, .int .i64 n]] w fun e w' => e = .returned (.int .i64 (kindOf op).pushes) ∧ Below w.heap.size w w' := by
  have hb : Below w.heap.size w (w.alloc (.cells #[.int .i64 op, .int .i64 n] 55)) := (Below.refl _ _).alloc (Nat.le_refl _) _
  have C := kindOf_any op (w.alloc (.cells #[.int .i64 op, .int .i64 n] 55)) (hT.below hb)
  have kf := run_field3
  generalize kindOf op = k at C ⊢
  go_enter Tryz.func105, Tryz.ntmps105
  go_wp2_with (go_at_call 110; go_must (refine C.mono ?_; rintro e w1 ⟨rfl, hb1⟩))
  go_ret
  exact ⟨rfl, hb.trans (hb1.mono (by simp))⟩
end Go.Proofs.YtnkfdpnommjlcaaGreatDoor
