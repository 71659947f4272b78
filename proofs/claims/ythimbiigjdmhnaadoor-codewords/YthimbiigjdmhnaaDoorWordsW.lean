/- CodeWords: the walk. -/
import Derived.Test.YthimbiigjdmhnaaDoorOps
namespace Go.Proofs.YthimbiigjdmhnaaDoor
open Go.RowKit Go.ChangeShapes Go.WideShapes Go.ChangeAt Go.Deep
namespace codeWords

theorem word_inj (a b : Int) (ha : 1 ≤ a ∧ a ≤ 19) (hb : 1 ≤ b ∧ b ≤ 19) (h : (kindOf a).word.toList = (kindOf b).word.toList) : a = b := by
  obtain ⟨i, rfl⟩ : ∃ i : Nat, a = (i : Int) := ⟨a.toNat, by omega⟩
  obtain ⟨j, rfl⟩ : ∃ j : Nat, b = (j : Int) := ⟨b.toNat, by omega⟩
  have : ∀ i : Fin 20, ∀ j : Fin 20, 1 ≤ i.1 → 1 ≤ j.1 → (kindOf (i.1 : Int)).word.toList = (kindOf (j.1 : Int)).word.toList → i.1 = j.1 := by decide +kernel
  have := this ⟨i, by omega⟩ ⟨j, by omega⟩ (by show 1 ≤ i; omega) (by show 1 ≤ j; omega) h
  simp only at this
  omega
theorem op_in (a : Int) (ha : 1 ≤ a ∧ a ≤ 19) : OpIs (kindOf a).word a true :=
  .inl ⟨rfl, ha, rfl, fun j h1 h2 h => by have := word_inj j a ⟨h1, by omega⟩ ha h; omega⟩
theorem op_out (a : Int) (ha : ¬ (1 ≤ a ∧ a ≤ 19)) : OpIs (kindOf a).word 0 false :=
  .inr ⟨rfl, rfl, fun j h1 h2 h => by
    have h3 := word_yes j ⟨h1, h2⟩
    rw [h, kind_no ha] at h3
    exact absurd h3 (by decide +kernel)⟩
theorem word_empty (a : Int) (ha : ¬ (1 ≤ a ∧ a ≤ 19)) : (kindOf a).word.toList.isEmpty = true := by rw [kind_no ha]; decide +kernel

set_option maxRecDepth 100000 in
set_option maxHeartbeats 1000000 in
theorem walk (a b : Int) (w : World) (hT : Tab w) : Calls Tryd.prog 4 #[.int .i64 a, .int .i64 b] w fun e w' => e = .returned (.bool true) ∧ Below w.heap.size w w' := by
  have N1 := fun w hT => name_any a w hT
  have N2 := fun w hT => name_any b w hT
  by_cases ha : 1 ≤ a ∧ a ≤ 19
  · have hu := word_yes a ha
    have HO := hide (op_in a ha)
    by_cases hab : a = b
    · subst hab
      generalize (kindOf a).word = u at N1 N2 hu HO
      obtain ⟨ha1, ha2⟩ := ha
      go_enter Tryd.func4, Tryd.ntmps4
      go_wp2_with (first
      | (go_at_call 6; go_must (refine (alive_any w hT).mono ?_; rintro e w1 ⟨rfl, hb1⟩; have hT1 := hT.below hb1; have M1 := N1 w1 hT1))
      | (go_at_call 12; with_reducible refine M1.mono ?_; rintro e w2 ⟨rfl, hb2⟩; clear M1; have hT2 := hT1.below hb2; have M2 := N2 w2 hT2)
      | (go_at_call 12; go_must (refine M2.mono ?_; rintro e w3 ⟨rfl, hb3⟩; have hT3 := hT2.below hb3))
      | (go_at_call 7; go_must (refine (op_any _ w3 hT3).mono ?_; rintro e w4 ⟨k, ok, rfl, ho, rfl⟩; obtain ⟨rfl, rfl⟩ := ho.one HO.out)))
      go_ret
      exact ⟨rfl, hb1.trans ((hb2.mono hb1.size).trans (hb3.mono (Nat.le_trans hb1.size hb2.size)))⟩
    · have hd : ((kindOf a).word.toList == (kindOf b).word.toList) = false := by
        refine beq_eq_false_iff_ne.2 fun h => ?_
        by_cases hb : 1 ≤ b ∧ b ≤ 19
        · exact hab (word_inj a b ha hb h)
        · rw [h, word_empty b hb] at hu
          cases hu
      have hd2 : (a == b) = false := beq_eq_false_iff_ne.2 hab
      generalize (kindOf a).word = u at N1 hu HO hd
      generalize (kindOf b).word = v at N2 hd
      obtain ⟨ha1, ha2⟩ := ha
      go_enter Tryd.func4, Tryd.ntmps4
      go_wp2_with (first
      | (go_at_call 6; go_must (refine (alive_any w hT).mono ?_; rintro e w1 ⟨rfl, hb1⟩; have hT1 := hT.below hb1; have M1 := N1 w1 hT1))
      | (go_at_call 12; with_reducible refine M1.mono ?_; rintro e w2 ⟨rfl, hb2⟩; clear M1; have hT2 := hT1.below hb2; have M2 := N2 w2 hT2)
      | (go_at_call 12; go_must (refine M2.mono ?_; rintro e w3 ⟨rfl, hb3⟩; have hT3 := hT2.below hb3))
      | (go_at_call 7; go_must (refine (op_any _ w3 hT3).mono ?_; rintro e w4 ⟨k, ok, rfl, ho, rfl⟩; obtain ⟨rfl, rfl⟩ := ho.one HO.out)))
      go_ret
      exact ⟨rfl, hb1.trans ((hb2.mono hb1.size).trans (hb3.mono (Nat.le_trans hb1.size hb2.size)))⟩
  · have hu := word_empty a ha
    have HO := hide (op_out a ha)
    generalize (kindOf a).word = u at N1 hu HO
    generalize (kindOf b).word = v at N2
    rcases Int.lt_or_le a 1 with h1 | h1
    · clear ha
      go_enter Tryd.func4, Tryd.ntmps4
      go_wp2_with (first
      | (go_at_call 6; go_must (refine (alive_any w hT).mono ?_; rintro e w1 ⟨rfl, hb1⟩; have hT1 := hT.below hb1; have M1 := N1 w1 hT1))
      | (go_at_call 12; with_reducible refine M1.mono ?_; rintro e w2 ⟨rfl, hb2⟩; clear M1; have hT2 := hT1.below hb2; have M2 := N2 w2 hT2)
      | (go_at_call 12; go_must (refine M2.mono ?_; rintro e w3 ⟨rfl, hb3⟩; have hT3 := hT2.below hb3))
      | (go_at_call 7; go_must (refine (op_any _ w3 hT3).mono ?_; rintro e w4 ⟨k, ok, rfl, ho, rfl⟩; obtain ⟨rfl, rfl⟩ := ho.one HO.out)))
      go_ret
      exact ⟨rfl, hb1.trans ((hb2.mono hb1.size).trans (hb3.mono (Nat.le_trans hb1.size hb2.size)))⟩
    · have h2 : 19 < a := by omega
      clear ha
      go_enter Tryd.func4, Tryd.ntmps4
      go_wp2_with (first
      | (go_at_call 6; go_must (refine (alive_any w hT).mono ?_; rintro e w1 ⟨rfl, hb1⟩; have hT1 := hT.below hb1; have M1 := N1 w1 hT1))
      | (go_at_call 12; with_reducible refine M1.mono ?_; rintro e w2 ⟨rfl, hb2⟩; clear M1; have hT2 := hT1.below hb2; have M2 := N2 w2 hT2)
      | (go_at_call 12; go_must (refine M2.mono ?_; rintro e w3 ⟨rfl, hb3⟩; have hT3 := hT2.below hb3))
      | (go_at_call 7; go_must (refine (op_any _ w3 hT3).mono ?_; rintro e w4 ⟨k, ok, rfl, ho, rfl⟩; obtain ⟨rfl, rfl⟩ := ho.one HO.out)))
      go_ret
      exact ⟨rfl, hb1.trans ((hb2.mono hb1.size).trans (hb3.mono (Nat.le_trans hb1.size hb2.size)))⟩
end codeWords
end Go.Proofs.YthimbiigjdmhnaaDoor
