/- gleanerref1's Name, HasN, Op. -/
import Derived.Test.YtfnloomcianbiaaGreatDoorIns
import Derived.Test.YtfnloomcianbiaaGreatDoorSame
namespace Go.Proofs.YtfnloomcianbiaaGreatDoor
open Go.RowKit Go.ChangeShapes Go.WideShapes Go.ChangeAt Go.Deep

theorem kind_no {op : Int} (h : ¬ (1 ≤ op ∧ op ≤ 19)) : kindOf op = noKind := by unfold kindOf; rw [if_neg h]
theorem words_at (j : Nat) (hj : j < kindT.length) : ([.string ⟨#[]⟩, .string ⟨#[112, 117, 115, 104]⟩, .string ⟨#[112, 111, 112]⟩, .string ⟨#[100, 117, 112]⟩, .string ⟨#[115, 119, 97, 112]⟩, .string ⟨#[108, 111, 97, 100]⟩, .string ⟨#[115, 116, 111, 114, 101]⟩, .string ⟨#[97, 100, 100]⟩, .string ⟨#[115, 117, 98]⟩, .string ⟨#[109, 117, 108]⟩, .string ⟨#[100, 105, 118]⟩, .string ⟨#[109, 111, 100]⟩, .string ⟨#[108, 116]⟩, .string ⟨#[101, 113]⟩, .string ⟨#[106, 117, 109, 112]⟩, .string ⟨#[122, 101, 114, 111]⟩, .string ⟨#[115, 112, 97, 119, 110]⟩, .string ⟨#[97, 119, 97, 105, 116]⟩, .string ⟨#[114, 101, 116]⟩, .string ⟨#[102, 97, 105, 108]⟩] : List Value)[j]? = some (.string kindT[j].word) := by
  have e : ([.string ⟨#[]⟩, .string ⟨#[112, 117, 115, 104]⟩, .string ⟨#[112, 111, 112]⟩, .string ⟨#[100, 117, 112]⟩, .string ⟨#[115, 119, 97, 112]⟩, .string ⟨#[108, 111, 97, 100]⟩, .string ⟨#[115, 116, 111, 114, 101]⟩, .string ⟨#[97, 100, 100]⟩, .string ⟨#[115, 117, 98]⟩, .string ⟨#[109, 117, 108]⟩, .string ⟨#[100, 105, 118]⟩, .string ⟨#[109, 111, 100]⟩, .string ⟨#[108, 116]⟩, .string ⟨#[101, 113]⟩, .string ⟨#[106, 117, 109, 112]⟩, .string ⟨#[122, 101, 114, 111]⟩, .string ⟨#[115, 112, 97, 119, 110]⟩, .string ⟨#[97, 119, 97, 105, 116]⟩, .string ⟨#[114, 101, 116]⟩, .string ⟨#[102, 97, 105, 108]⟩] : List Value) = kindT.map fun k => Value.string k.word := rfl
  rw [e, List.getElem?_map, List.getElem?_eq_getElem hj]
  rfl

set_option maxRecDepth 100000 in
set_option maxHeartbeats 1000000 in
theorem refName_any (op : Int) (w : World) : Calls Tryz.prog 18 #[.int .i64 op] w fun e w' => e = .returned (.string (kindOf op).word) ∧ Below w.heap.size w w' := by
  by_cases h1 : 1 ≤ op
  · by_cases h2 : op ≤ 19
    · obtain ⟨j, rfl⟩ : ∃ j : Nat, op = (j : Int) := ⟨op.toNat, by omega⟩
      have hj : j < kindT.length := by show j < 20; omega
      have e : kindOf (j : Int) = kindT[j] := kind_at j _ rfl (by omega) (List.getElem?_eq_getElem hj)
      have hc := words_at j hj
      rw [e]
      clear e
      generalize kindT[j].word = s at hc ⊢
      go_enter Tryz.func18, Tryz.ntmps18
      go_wp2
      go_ret
      exact ⟨rfl, (Below.refl _ _).alloc (Nat.le_refl _) _⟩
    · rw [kind_no (by omega)]
      go_enter Tryz.func18, Tryz.ntmps18
      go_wp2
      go_ret
      exact ⟨rfl, (Below.refl _ _).alloc (Nat.le_refl _) _⟩
  · rw [kind_no (by omega)]
    go_enter Tryz.func18, Tryz.ntmps18
    go_wp2
    go_ret
    exact ⟨rfl, (Below.refl _ _).alloc (Nat.le_refl _) _⟩

theorem kind_fin {p : Int → Kind → Prop} (op : Int) (h : ∀ j : Fin 20, 1 ≤ j.1 → p (j.1 : Int) (kindOf (j.1 : Int))) (h0 : ¬ (1 ≤ op ∧ op ≤ 19) → p op noKind) : p op (kindOf op) := by
  by_cases hj : 1 ≤ op ∧ op ≤ 19
  · obtain ⟨j, rfl⟩ : ∃ j : Nat, op = (j : Int) := ⟨op.toNat, by omega⟩
    exact h ⟨j, by omega⟩ (by show 1 ≤ j; omega)
  · rw [kind_no hj]; exact h0 hj

theorem hasN_spec (op : Int) : (kindOf op).hasN = true ↔ op = 1 ∨ op = 5 ∨ op = 6 ∨ op = 14 ∨ op = 15 ∨ op = 16 :=
  kind_fin (p := fun op k => k.hasN = true ↔ op = 1 ∨ op = 5 ∨ op = 6 ∨ op = 14 ∨ op = 15 ∨ op = 16) op (by decide +kernel) (fun h => by simp [noKind]; omega)
theorem pushes_spec (op : Int) : (kindOf op).pushes = if op = 1 ∨ op = 5 ∨ (7 ≤ op ∧ op ≤ 13) ∨ op = 16 ∨ op = 17 then 1 else if op = 3 ∨ op = 4 then 2 else 0 :=
  kind_fin (p := fun op k => k.pushes = if op = 1 ∨ op = 5 ∨ (7 ≤ op ∧ op ≤ 13) ∨ op = 16 ∨ op = 17 then 1 else if op = 3 ∨ op = 4 then 2 else 0) op (by decide +kernel) (fun h => by rw [if_neg (by omega), if_neg (by omega)]; rfl)
theorem pops_spec (op : Int) : (kindOf op).pops = if op = 2 ∨ op = 3 ∨ op = 6 ∨ op = 15 ∨ op = 17 ∨ op = 18 ∨ op = 19 then 1 else if op = 4 ∨ (7 ≤ op ∧ op ≤ 13) then 2 else 0 :=
  kind_fin (p := fun op k => k.pops = if op = 2 ∨ op = 3 ∨ op = 6 ∨ op = 15 ∨ op = 17 ∨ op = 18 ∨ op = 19 then 1 else if op = 4 ∨ (7 ≤ op ∧ op ≤ 13) then 2 else 0) op (by decide +kernel) (fun h => by rw [if_neg (by omega), if_neg (by omega)]; rfl)
theorem word_spec (op : Int) : (kindOf op).word = ⟨#[]⟩ ↔ ¬ (1 ≤ op ∧ op ≤ 19) := by
  refine kind_fin (p := fun op k => k.word = ⟨#[]⟩ ↔ ¬ (1 ≤ op ∧ op ≤ 19)) op (by decide +kernel) (fun h => by simp [noKind]; omega)

set_option maxRecDepth 100000 in
set_option maxHeartbeats 1000000 in
theorem refHasN_any (op : Int) (w : World) : Calls Tryz.prog 19 #[.int .i64 op] w fun e w' => e = .returned (.bool (kindOf op).hasN) ∧ w' = w := by
  have hs := hide (hasN_spec op)
  generalize (kindOf op).hasN = k at hs ⊢
  go_enter Tryz.func19, Tryz.ntmps19
  go_wp2
  all_goals
    go_ret
    refine ⟨ret_b ?_, rfl⟩
    rw [Bool.eq_iff_iff, hs.out]
    simp
    try omega

set_option maxRecDepth 100000 in
set_option maxHeartbeats 1000000 in
theorem refOp_any (s : ByteArray) (w : World) : Calls Tryz.prog 55 #[.string s] w fun e w' => ∃ k ok, e = .returned (.tuple #[.int .i64 k, .bool ok]) ∧ OpIs s k ok ∧ Below w.heap.size w w' := by
  go_enter Tryz.func55, Tryz.ntmps55
  go_wp2
  go_loopw [4] (fun i wr => Below w.heap.size w wr ∧ ∃ k : Nat, 1 ≤ k ∧ k ≤ 20 ∧ i = .int .i64 (k : Nat) ∧ Hid (∀ j : Int, 1 ≤ j → j < (k : Int) → (kindOf j).word.toList ≠ s.toList)) (fun i _ => 20 - (intOf i).toNat)
  case atStart => exact ⟨Below.refl _ _, 1, by omega, by omega, rfl, fun j h1 h2 => by omega⟩
  case round =>
    obtain ⟨hbw, k, hk1, hk2, rfl, hh⟩ := hrel
    by_cases hlt : k ≤ 19
    · have HN := hide (show (kindOf (k : Int)).word.toList = s.toList → OpIs s k true from fun h => .inl ⟨rfl, ⟨by omega, by omega⟩, h, hh.out⟩)
      have HY := hide (show (kindOf (k : Int)).word.toList ≠ s.toList → ∀ j : Int, 1 ≤ j → j < ((k + 1 : Nat) : Int) → (kindOf j).word.toList ≠ s.toList from fun h j h1 h2 => by
        by_cases hj : j = (k : Int)
        · subst hj; exact h
        · exact hh.out j h1 (by omega))
      have C := refName_any (k : Int) wr
      generalize (kindOf (k : Int)).word = u at C HN HY
      clear hh
      by_cases hu : u.toList = s.toList
      · have hd : (u.toList == s.toList) = true := by simp [hu]
        have HO := hide (HN.out hu)
        clear hu HN HY
        go_wp2_with (go_at_call 18; go_must (refine C.mono ?_; rintro e w1 ⟨rfl, hb1⟩))
        go_ret2
        exact ⟨_, _, rfl, HO, hbw.trans (hb1.mono hbw.size)⟩
      · have hd : (u.toList == s.toList) = false := by simp [hu]
        have HO := hide (HY.out hu)
        clear hu HN HY
        go_wp2_with (go_at_call 18; go_must (refine C.mono ?_; rintro e w1 ⟨rfl, hb1⟩))
        go_roundw
        case rel => exact ⟨hbw.trans (hb1.mono hbw.size), k + 1, by omega, by omega, by go_num, HO⟩
        case measure => simp [intOf]; omega
    · go_wp2
      go_ret2
      exact ⟨_, _, rfl, .inr ⟨rfl, rfl, fun j h1 h2 => hh.out j h1 (by omega)⟩, hbw⟩

end Go.Proofs.YtfnloomcianbiaaGreatDoor
