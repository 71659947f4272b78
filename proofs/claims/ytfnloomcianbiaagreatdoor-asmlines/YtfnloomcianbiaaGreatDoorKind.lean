/- kindOf, Name, HasN, Pushes. -/
import Derived.Test.YtfnloomcianbiaaGreatDoorBase
namespace Go.Proofs.YtfnloomcianbiaaGreatDoor
open Go.RowKit Go.ChangeShapes Go.WideShapes Go.ChangeAt Go.Deep

/-- What all instructions of one number have in common. -/
structure Kind where
  word : ByteArray
  hasN : Bool
  pops : Int
  pushes : Int

def kindT : List Kind := [
  ⟨⟨#[]⟩, false, 0, 0⟩,
  ⟨⟨#[112, 117, 115, 104]⟩, true, 0, 1⟩,
  ⟨⟨#[112, 111, 112]⟩, false, 1, 0⟩,
  ⟨⟨#[100, 117, 112]⟩, false, 1, 2⟩,
  ⟨⟨#[115, 119, 97, 112]⟩, false, 2, 2⟩,
  ⟨⟨#[108, 111, 97, 100]⟩, true, 0, 1⟩,
  ⟨⟨#[115, 116, 111, 114, 101]⟩, true, 1, 0⟩,
  ⟨⟨#[97, 100, 100]⟩, false, 2, 1⟩,
  ⟨⟨#[115, 117, 98]⟩, false, 2, 1⟩,
  ⟨⟨#[109, 117, 108]⟩, false, 2, 1⟩,
  ⟨⟨#[100, 105, 118]⟩, false, 2, 1⟩,
  ⟨⟨#[109, 111, 100]⟩, false, 2, 1⟩,
  ⟨⟨#[108, 116]⟩, false, 2, 1⟩,
  ⟨⟨#[101, 113]⟩, false, 2, 1⟩,
  ⟨⟨#[106, 117, 109, 112]⟩, true, 0, 0⟩,
  ⟨⟨#[122, 101, 114, 111]⟩, true, 1, 0⟩,
  ⟨⟨#[115, 112, 97, 119, 110]⟩, true, 0, 1⟩,
  ⟨⟨#[97, 119, 97, 105, 116]⟩, false, 1, 1⟩,
  ⟨⟨#[114, 101, 116]⟩, false, 1, 0⟩,
  ⟨⟨#[102, 97, 105, 108]⟩, false, 1, 0⟩]
/-- The variable holds the table. -/
def Tab (w : World) : Prop := ∀ j (h : j < kindT.length), w.cell? ⟨0, j * 4, none⟩ = some (.string kindT[j].word) ∧ w.cell? ⟨0, j * 4 + 1, none⟩ = some (.bool kindT[j].hasN) ∧ w.cell? ⟨0, j * 4 + 2, none⟩ = some (.int .i64 kindT[j].pops) ∧ w.cell? ⟨0, j * 4 + 3, none⟩ = some (.int .i64 kindT[j].pushes)
theorem Tab.below {w w' : World} (h : Tab w) (hb : Below w.heap.size w w') : Tab w' := fun j hj => by
  obtain ⟨h0, h1, h2, h3⟩ := h j hj
  exact ⟨keep_cell h0 hb, keep_cell h1 hb, keep_cell h2 hb, keep_cell h3 hb⟩

def noKind : Kind := ⟨⟨#[]⟩, false, 0, 0⟩
/-- The kind of a number. -/
def kindOf (op : Int) : Kind := if 1 ≤ op ∧ op ≤ 19 then kindT.getD op.toNat noKind else noKind

set_option maxRecDepth 100000 in
set_option maxHeartbeats 400000 in
theorem kindOf_any (op : Int) (w : World) (hT : Tab w) : Calls Tryz.prog 61 #[.int .i64 op] w fun e w' => e = .returned (.agg #[.string (kindOf op).word, .bool (kindOf op).hasN, .int .i64 (kindOf op).pops, .int .i64 (kindOf op).pushes]) ∧ Below w.heap.size w w' := by
  by_cases h1 : 1 ≤ op
  · by_cases h2 : op ≤ 19
    · obtain ⟨j, rfl⟩ : ∃ j : Nat, op = (j : Int) := ⟨op.toNat, by omega⟩
      have hj : j < kindT.length := by show j < 20; omega
      obtain ⟨c0, c1, c2, c3⟩ := hT j hj
      have e : kindOf (j : Int) = kindT[j] := by
        unfold kindOf
        rw [if_pos ⟨h1, h2⟩]
        simp [hj]
      rw [e]
      clear e
      obtain ⟨k, hk⟩ : ∃ k, k = kindT[j] := ⟨_, rfl⟩
      rw [← hk] at c0 c1 c2 c3 ⊢
      clear hk
      have hsz : 0 < w.heap.size := cell_some_lt c0
      go_enter Tryz.func61, Tryz.ntmps61
      go_wp2
      refine bodyPost_ret (v := .agg #[.string k.word, .bool k.hasN, .int .i64 k.pops, .int .i64 k.pushes]) (by simp [results, Tryz.results61, go_sem]) rfl ⟨rfl, (Below.refl _ _).alloc (Nat.le_refl _) _⟩
    · have e : kindOf op = noKind := by unfold kindOf; rw [if_neg (by omega)]
      rw [e]
      go_enter Tryz.func61, Tryz.ntmps61
      go_wp2
      refine bodyPost_ret (v := .agg #[.string ⟨#[]⟩, .bool false, .int .i64 0, .int .i64 0]) (by simp [results, Tryz.results61, go_sem]) rfl ⟨rfl, (Below.refl _ _).alloc (Nat.le_refl _) _⟩
  · have e : kindOf op = noKind := by unfold kindOf; rw [if_neg (by omega)]
    rw [e]
    go_enter Tryz.func61, Tryz.ntmps61
    go_wp2
    refine bodyPost_ret (v := .agg #[.string ⟨#[]⟩, .bool false, .int .i64 0, .int .i64 0]) (by simp [results, Tryz.results61, go_sem]) rfl ⟨rfl, (Below.refl _ _).alloc (Nat.le_refl _) _⟩

theorem run_field0 (w : World) (s : ByteArray) (b : Bool) (p q : Int) : (Instr.field 106 (.agg #[.string s, .bool b, .int .i64 p, .int .i64 q]) 0).run Tryz.prog w = .ok (.string s) w := by
  simp [Instr.field, asAgg, go_sem]
theorem run_field1 (w : World) (s : ByteArray) (b : Bool) (p q : Int) : (Instr.field 106 (.agg #[.string s, .bool b, .int .i64 p, .int .i64 q]) 1).run Tryz.prog w = .ok (.bool b) w := by
  simp [Instr.field, asAgg, go_sem]
theorem run_field2 (w : World) (s : ByteArray) (b : Bool) (p q : Int) : (Instr.field 106 (.agg #[.string s, .bool b, .int .i64 p, .int .i64 q]) 2).run Tryz.prog w = .ok (.int .i64 p) w := by
  simp [Instr.field, asAgg, go_sem]
theorem run_field3 (w : World) (s : ByteArray) (b : Bool) (p q : Int) : (Instr.field 106 (.agg #[.string s, .bool b, .int .i64 p, .int .i64 q]) 3).run Tryz.prog w = .ok (.int .i64 q) w := by
  simp [Instr.field, asAgg, go_sem]

set_option maxRecDepth 100000 in
set_option maxHeartbeats 400000 in
theorem name_any (op : Int) (w : World) (hT : Tab w) : Calls Tryz.prog 46 #[.int .i64 op] w fun e w' => e = .returned (.string (kindOf op).word) ∧ Below w.heap.size w w' := by
  have C := kindOf_any op w hT
  have kf := run_field0
  generalize kindOf op = k at C ⊢
  go_enter Tryz.func46, Tryz.ntmps46
  go_wp2_with (go_at_call 61; go_must (refine C.mono ?_; rintro e w1 ⟨rfl, hb1⟩))
  go_ret
  exact ⟨rfl, hb1⟩

set_option maxRecDepth 100000 in
set_option maxHeartbeats 400000 in
theorem hasN_any (op : Int) (w : World) (hT : Tab w) : Calls Tryz.prog 47 #[.int .i64 op] w fun e w' => e = .returned (.bool (kindOf op).hasN) ∧ Below w.heap.size w w' := by
  have C := kindOf_any op w hT
  have kf := run_field1
  generalize kindOf op = k at C ⊢
  go_enter Tryz.func47, Tryz.ntmps47
  go_wp2_with (go_at_call 61; go_must (refine C.mono ?_; rintro e w1 ⟨rfl, hb1⟩))
  go_ret
  exact ⟨rfl, hb1⟩

theorem kind_at {op : Int} (j : Nat) (k : Kind) (h : op = (j : Int)) (hj : 1 ≤ j ∧ j ≤ 19) (hk : kindT[j]? = some k) : kindOf op = k := by
  subst h
  unfold kindOf
  rw [if_pos (by omega)]
  simp [List.getD, hk]

/-- The number of a word. -/
def OpIs (s : ByteArray) (k : Int) (ok : Bool) : Prop :=
  (ok = true ∧ (1 ≤ k ∧ k ≤ 19) ∧ (kindOf k).word.toList = s.toList ∧ ∀ j : Int, 1 ≤ j → j < k → (kindOf j).word.toList ≠ s.toList) ∨ (ok = false ∧ k = 0 ∧ ∀ j : Int, 1 ≤ j → j ≤ 19 → (kindOf j).word.toList ≠ s.toList)
theorem OpIs.one {s : ByteArray} {k k' : Int} {ok ok' : Bool} (h : OpIs s k ok) (h' : OpIs s k' ok') : k = k' ∧ ok = ok' := by
  rcases h with ⟨rfl, ⟨a1, a2⟩, a3, a4⟩ | ⟨rfl, rfl, a⟩
  · rcases h' with ⟨rfl, ⟨b1, b2⟩, b3, b4⟩ | ⟨rfl, rfl, b⟩
    · refine ⟨?_, rfl⟩
      rcases Int.lt_trichotomy k k' with h | h | h
      · exact absurd a3 (b4 k a1 h)
      · exact h
      · exact absurd b3 (a4 k' b1 h)
    · exact absurd a3 (b k a1 a2)
  · rcases h' with ⟨rfl, ⟨b1, b2⟩, b3, b4⟩ | ⟨rfl, rfl, b⟩
    · exact absurd b3 (a k' b1 b2)
    · exact ⟨rfl, rfl⟩

theorem kind_tab {w : World} (hT : Tab w) {k : Nat} (h1 : 1 ≤ k) (h2 : k ≤ 19) : w.cell? ⟨0, k * 4, none⟩ = some (.string (kindOf (k : Int)).word) := by
  have hj : k < kindT.length := by show k < 20; omega
  rw [(hT k hj).1, kind_at k kindT[k] rfl ⟨h1, h2⟩ (List.getElem?_eq_getElem hj)]

set_option maxRecDepth 100000 in
set_option maxHeartbeats 1000000 in
theorem op_any (s : ByteArray) (w : World) (hT : Tab w) : Calls Tryz.prog 66 #[.string s] w fun e w' => ∃ k ok, e = .returned (.tuple #[.int .i64 k, .bool ok]) ∧ OpIs s k ok ∧ w' = w := by
  go_enter Tryz.func66, Tryz.ntmps66
  go_wp2
  go_loopw [4] (fun i wr => wr = w ∧ ∃ k : Nat, 1 ≤ k ∧ k ≤ 20 ∧ i = .int .i64 (k : Nat) ∧ Hid (∀ j : Int, 1 ≤ j → j < (k : Int) → (kindOf j).word.toList ≠ s.toList)) (fun i _ => 20 - (intOf i).toNat)
  case atStart => exact ⟨rfl, 1, by omega, by omega, rfl, fun j h1 h2 => by omega⟩
  case round =>
    obtain ⟨rfl, k, hk1, hk2, rfl, hh⟩ := hrel
    by_cases hlt : k ≤ 19
    · have hc := kind_tab hT hk1 hlt
      have HN := hide (show (kindOf (k : Int)).word.toList = s.toList → OpIs s k true from fun h => .inl ⟨rfl, ⟨by omega, by omega⟩, h, hh.out⟩)
      have HY := hide (show (kindOf (k : Int)).word.toList ≠ s.toList → ∀ j : Int, 1 ≤ j → j < ((k + 1 : Nat) : Int) → (kindOf j).word.toList ≠ s.toList from fun h j h1 h2 => by
        by_cases hj : j = (k : Int)
        · subst hj; exact h
        · exact hh.out j h1 (by omega))
      generalize (kindOf (k : Int)).word = u at hc HN HY
      clear hh
      by_cases hu : u.toList = s.toList
      · have hd : (u.toList == s.toList) = true := by simp [hu]
        have HO := hide (HN.out hu)
        clear hu HN HY
        go_wp2
        go_ret2
        exact ⟨_, _, rfl, HO, rfl⟩
      · have hd : (u.toList == s.toList) = false := by simp [hu]
        have HO := hide (HY.out hu)
        clear hu HN HY
        go_wp2
        go_roundw
        case rel => exact ⟨trivial, k + 1, by omega, by omega, by go_num, HO⟩
        case measure => simp [intOf]; omega
    · go_wp2
      go_ret2
      exact ⟨_, _, rfl, .inr ⟨rfl, rfl, fun j h1 h2 => hh.out j h1 (by omega)⟩, rfl⟩

end Go.Proofs.YtfnloomcianbiaaGreatDoor
