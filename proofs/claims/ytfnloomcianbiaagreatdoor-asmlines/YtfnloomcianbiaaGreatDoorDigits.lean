/- gleanerref1.Digits. -/
import Derived.Test.YtfnloomcianbiaaGreatDoorLine
namespace Go.Proofs.YtfnloomcianbiaaGreatDoor
open Go.RowKit Go.ChangeShapes Go.WideShapes Go.ChangeAt Go.Deep

theorem digit_text (k : Nat) (h : k < 10) : (⟨#[48, 49, 50, 51, 52, 53, 54, 55, 56, 57]⟩ : ByteArray).extract k (k + 1) = bs [UInt8.ofNat (48 + k)] := by
  have a : ∀ k : Fin 10, ((⟨#[48, 49, 50, 51, 52, 53, 54, 55, 56, 57]⟩ : ByteArray).extract k.val (k.val + 1)).data = (bs [UInt8.ofNat (48 + k.val)]).data := by decide +kernel
  have := a ⟨k, h⟩
  exact ByteArray.ext this

theorem dec_size (u : Nat) (h : u < 9223372036854775808) : (bs (Lib.decDigits u)).size ≤ 21 := by
  have e : Lib.itoa (u : Int) = Lib.decDigits u := by unfold Lib.itoa; rw [if_neg (by omega)]; rfl
  rw [bs_size, ← e]
  exact Lib.itoa_length_le _ (by omega) (by omega)

set_option maxRecDepth 100000 in
set_option maxHeartbeats 400000 in
theorem digits_pos (u : Nat) (h : u < 9223372036854775808) (w : World) : Calls Tryz.prog 17 #[.int .i64 (u : Int)] w fun e w' => e = .returned (.string (bs (Lib.decDigits u))) ∧ w' = w := by
  induction u using Nat.strongRecOn with
  | _ u ih =>
    by_cases h9 : u < 10
    · have hd : Lib.decDigits u = [UInt8.ofNat (48 + u)] := by rw [Lib.decDigits, dif_pos h9]
      have ht := digit_text u h9
      clear ih
      go_enter Tryz.func17, Tryz.ntmps17
      go_wp2
      go_ret
      refine ⟨?_, rfl⟩
      rw [hd, ← ht, Nat.mod_eq_of_lt h9]
      rfl
    · have hd : Lib.decDigits u = Lib.decDigits (u / 10) ++ [UInt8.ofNat (48 + u % 10)] := by rw [Lib.decDigits, dif_neg h9]
      have ht := digit_text (u % 10) (by omega)
      have IH := ih (u / 10) (by omega) (by omega)
      have e1 : ((u / 10 : Nat) : Int) = (u : Int) / 10 := by omega
      rw [e1] at IH
      clear ih e1
      rw [hd, ← bs_append, ← ht]
      have hz := dec_size (u / 10) (by omega)
      generalize bs (Lib.decDigits (u / 10)) = x at IH hz ⊢
      generalize bs [UInt8.ofNat (48 + u % 10)] = y at ht
      clear hd ht
      go_enter Tryz.func17, Tryz.ntmps17
      go_wp2_with (go_at_call 17; go_must (refine IH.mono ?_; rintro e wz ⟨rfl, hwz⟩; replace hwz := hwz.symm; subst hwz))
      go_ret
      exact ⟨rfl, rfl⟩

set_option maxRecDepth 100000 in
set_option maxHeartbeats 400000 in
theorem digits_any (n : Int) (h : In64 [n]) (w : World) : Calls Tryz.prog 17 #[.int .i64 n] w fun e w' => e = .returned (.string (bs (Lib.itoa n))) ∧ w' = w := by
  have hn := h n (by simp)
  by_cases h0 : n < 0
  · by_cases h1 : n = -9223372036854775808
    · subst h1
      have e : bs (Lib.itoa (-9223372036854775808)) = ⟨#[45, 57, 50, 50, 51, 51, 55, 50, 48, 51, 54, 56, 53, 52, 55, 55, 53, 56, 48, 56]⟩ := by kernel_rfl
      rw [e]
      go_enter Tryz.func17, Tryz.ntmps17
      go_wp2
      go_ret
      exact ⟨rfl, rfl⟩
    · have D := digits_pos n.natAbs (by omega) w
      have e1 : ((n.natAbs : Nat) : Int) = -n := by omega
      rw [e1] at D
      have e : Lib.itoa n = [45] ++ Lib.decDigits n.natAbs := by unfold Lib.itoa; rw [if_pos h0]; rfl
      rw [e, ← bs_append]
      have hz := dec_size n.natAbs (by omega)
      clear e e1 h
      generalize bs (Lib.decDigits n.natAbs) = x at D hz ⊢
      go_enter Tryz.func17, Tryz.ntmps17
      go_wp2_with (go_at_call 17; go_must (refine D.mono ?_; rintro e wz ⟨rfl, hwz⟩; replace hwz := hwz.symm; subst hwz))
      go_ret
      exact ⟨rfl, rfl⟩
  · obtain ⟨u, rfl⟩ : ∃ u : Nat, n = (u : Int) := ⟨n.toNat, by omega⟩
    have e : Lib.itoa (u : Int) = Lib.decDigits u := by unfold Lib.itoa; rw [if_neg h0]; rfl
    rw [e]
    exact digits_pos u (by omega) w
end Go.Proofs.YtfnloomcianbiaaGreatDoor
