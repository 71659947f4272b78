/- Op, alive. -/
import Derived.Test.YthimbiigjdmhnaaDoorNext
namespace Go.Proofs.YthimbiigjdmhnaaDoor
open Go.RowKit Go.ChangeShapes Go.WideShapes Go.ChangeAt Go.Deep

theorem own_reads {w w' : World} {v : Value} {l : List Int} (h : Own w w' v l) : ∃ a cap, v = .slice a l.length cap ∧ Reads w' a (iV l) := by
  have h1 := h.1
  rcases h1.2 with ⟨rfl, e⟩ | ⟨g, cap, cur, rfl, _⟩
  · have : l = [] := List.eq_nil_of_length_eq_zero e
    subst this
    exact ⟨none, 0, rfl, .inl rfl⟩
  · refine ⟨_, cap, rfl, .inr ⟨g, 0, rfl, fun j u hu => ?_⟩⟩
    have hj : j < (iV l).length := by
      rcases Nat.lt_or_ge j (iV l).length with h | h
      · exact h
      · rw [List.getElem?_eq_none h] at hu; cases hu
    rw [Nat.zero_add, h1.cellAt j (by simpa [iV] using hj), hu]

/-- The number of a word. -/
def OpIs (s : ByteArray) (k : Int) (ok : Bool) : Prop :=
  (ok = true ∧ (1 ≤ k ∧ k ≤ 19) ∧ (kindOf k).word.toList = s.toList ∧ ∀ j : Int, 1 ≤ j → j < k → (kindOf j).word.toList ≠ s.toList) ∨ (ok = false ∧ k = 0 ∧ ∀ j : Int, 1 ≤ j → j ≤ 19 → (kindOf j).word.toList ≠ s.toList)
theorem OpIs.one {s : ByteArray} {k k' : Int} {ok ok' : Bool} (h : OpIs s k ok) (h' : OpIs s k' ok') : k = k' ∧ ok = ok' := by
  rcases h with ⟨rfl, ⟨a1, a2⟩, a3, a4⟩ | ⟨rfl, rfl, a⟩
  · rcases h' with ⟨rfl, ⟨b1, b2⟩, b3, b4⟩ | ⟨rfl, rfl, b⟩
    · refine ⟨?_, rfl⟩
      rcases Int.lt_trichotomy k k' with h | h | h
      · exact absurd a3 (b4 k a1 h)
      · exact h
      · exact absurd b3 (a4 k' b1 h)
    · exact absurd a3 (b k a1 a2)
  · rcases h' with ⟨rfl, ⟨b1, b2⟩, b3, b4⟩ | ⟨rfl, rfl, b⟩
    · exact absurd b3 (a k' b1 b2)
    · exact ⟨rfl, rfl⟩

theorem kind_tab {w : World} (hT : Tab w) {k : Nat} (h1 : 1 ≤ k) (h2 : k ≤ 19) : w.cell? ⟨0, k * 4, none⟩ = some (.string (kindOf (k : Int)).word) := by
  have hj : k < kindT.length := by show k < 20; omega
  rw [(hT k hj).1, kind_at k kindT[k] rfl ⟨h1, h2⟩ (List.getElem?_eq_getElem hj)]

set_option maxRecDepth 100000 in
set_option maxHeartbeats 1000000 in
theorem op_any (s : ByteArray) (w : World) (hT : Tab w) : Calls Tryd.prog 7 #[.string s] w fun e w' => ∃ k ok, e = .returned (.tuple #[.int .i64 k, .bool ok]) ∧ OpIs s k ok ∧ w' = w := by
  go_enter Tryd.func7, Tryd.ntmps7
  go_wp2
  go_loopw [4] (fun i wr => wr = w ∧ ∃ k : Nat, 1 ≤ k ∧ k ≤ 20 ∧ i = .int .i64 (k : Nat) ∧ Hid (∀ j : Int, 1 ≤ j → j < (k : Int) → (kindOf j).word.toList ≠ s.toList)) (fun i _ => 20 - (intOf i).toNat)
  case atStart => exact ⟨rfl, 1, by omega, by omega, rfl, fun j h1 h2 => by omega⟩
  case round =>
    obtain ⟨rfl, k, hk1, hk2, rfl, hh⟩ := hrel
    by_cases hlt : k ≤ 19
    · have hc := kind_tab hT hk1 hlt
      have HN := hide (show (kindOf (k : Int)).word.toList = s.toList → OpIs s k true from fun h => .inl ⟨rfl, ⟨by omega, by omega⟩, h, hh.out⟩)
      have HY := hide (show (kindOf (k : Int)).word.toList ≠ s.toList → ∀ j : Int, 1 ≤ j → j < ((k + 1 : Nat) : Int) → (kindOf j).word.toList ≠ s.toList from fun h j h1 h2 => by
        by_cases hj : j = (k : Int)
        · subst hj; exact h
        · exact hh.out j h1 (by omega))
      generalize (kindOf (k : Int)).word = u at hc HN HY
      clear hh
      by_cases hu : u.toList = s.toList
      · have hd : (u.toList == s.toList) = true := by simp [hu]
        have HO := hide (HN.out hu)
        clear hu HN HY
        go_wp2
        go_ret2
        exact ⟨_, _, rfl, HO, rfl⟩
      · have hd : (u.toList == s.toList) = false := by simp [hu]
        have HO := hide (HY.out hu)
        clear hu HN HY
        go_wp2
        go_roundw
        case rel => exact ⟨trivial, k + 1, by omega, by omega, by go_num, HO⟩
        case measure => simp [intOf]; omega
    · go_wp2
      go_ret2
      exact ⟨_, _, rfl, .inr ⟨rfl, rfl, fun j h1 h2 => hh.out j h1 (by omega)⟩, rfl⟩

set_option maxRecDepth 100000 in
set_option maxHeartbeats 1000000 in
theorem refOp_any (s : ByteArray) (w : World) : Calls Tryd.prog 8 #[.string s] w fun e w' => ∃ k ok, e = .returned (.tuple #[.int .i64 k, .bool ok]) ∧ OpIs s k ok ∧ Below w.heap.size w w' := by
  go_enter Tryd.func8, Tryd.ntmps8
  go_wp2
  go_loopw [4] (fun i wr => Below w.heap.size w wr ∧ ∃ k : Nat, 1 ≤ k ∧ k ≤ 20 ∧ i = .int .i64 (k : Nat) ∧ Hid (∀ j : Int, 1 ≤ j → j < (k : Int) → (kindOf j).word.toList ≠ s.toList)) (fun i _ => 20 - (intOf i).toNat)
  case atStart => exact ⟨Below.refl _ _, 1, by omega, by omega, rfl, fun j h1 h2 => by omega⟩
  case round =>
    obtain ⟨hbw, k, hk1, hk2, rfl, hh⟩ := hrel
    by_cases hlt : k ≤ 19
    · have HN := hide (show (kindOf (k : Int)).word.toList = s.toList → OpIs s k true from fun h => .inl ⟨rfl, ⟨by omega, by omega⟩, h, hh.out⟩)
      have HY := hide (show (kindOf (k : Int)).word.toList ≠ s.toList → ∀ j : Int, 1 ≤ j → j < ((k + 1 : Nat) : Int) → (kindOf j).word.toList ≠ s.toList from fun h j h1 h2 => by
        by_cases hj : j = (k : Int)
        · subst hj; exact h
        · exact hh.out j h1 (by omega))
      have C := refName_any (k : Int) wr
      generalize (kindOf (k : Int)).word = u at C HN HY
      clear hh
      by_cases hu : u.toList = s.toList
      · have hd : (u.toList == s.toList) = true := by simp [hu]
        have HO := hide (HN.out hu)
        clear hu HN HY
        go_wp2_with (go_at_call 13; go_must (refine C.mono ?_; rintro e w1 ⟨rfl, hb1⟩))
        go_ret2
        exact ⟨_, _, rfl, HO, hbw.trans (hb1.mono hbw.size)⟩
      · have hd : (u.toList == s.toList) = false := by simp [hu]
        have HO := hide (HY.out hu)
        clear hu HN HY
        go_wp2_with (go_at_call 13; go_must (refine C.mono ?_; rintro e w1 ⟨rfl, hb1⟩))
        go_roundw
        case rel => exact ⟨hbw.trans (hb1.mono hbw.size), k + 1, by omega, by omega, by go_num, HO⟩
        case measure => simp [intOf]; omega
    · go_wp2
      go_ret2
      exact ⟨_, _, rfl, .inr ⟨rfl, rfl, fun j h1 h2 => hh.out j h1 (by omega)⟩, hbw⟩

set_option maxRecDepth 100000 in
set_option maxHeartbeats 1000000 in
theorem alive_any (w : World) (hT : Tab w) : Calls Tryd.prog 6 #[] w fun e w' => e = .returned (.bool true) ∧ Below w.heap.size w w' := by
  have C := next_any 15 9 4 w hT
  rw [show nextL 15 9 (wrap64 (4 + 1)) = [5, 9] from by decide +kernel] at C
  go_enter Tryd.func6, Tryd.ntmps6
  go_wp2_with (first
    | (go_at_call 9; go_must (refine C.mono ?_; rintro e w1 ⟨v, rfl, ho⟩; obtain ⟨a, cap, rfl, hr⟩ := own_reads ho; have hb1 := ho.2; have hb2 : Below w1.heap.size w1 (w1.alloc (.cells #[.int .i64 5, .int .i64 9] 3)) := (Below.refl _ _).alloc (Nat.le_refl _) _; have C2 := fun g c (hg : g = w1.heap.size) => same_any a (some ⟨g, 0, none⟩) cap c 2 2 [5, 9] [5, 9] (w1.alloc (.cells #[.int .i64 5, .int .i64 9] 3)) rfl rfl (hr.below hb2) (by subst hg; exact reads_new w1 (iV [5, 9]) 3) (by omega) (by omega)))
    | (go_at_call 10; go_must (refine (C2 _ _ rfl).mono ?_; rintro e w2 ⟨rfl, hb3⟩)))
  go_ret
  exact ⟨ret_b (by decide), hb1.trans ((hb2.mono hb1.size).trans (hb3.mono (by simp; have := hb1.size; omega)))⟩
end Go.Proofs.YthimbiigjdmhnaaDoor
