/- isLetter, isDigit, isName, find. -/
import Derived.Test.YtnkfdpnommjlcaaGreatDoorNeed
import Derived.Test.YtnkfdpnommjlcaaGreatDoorShelf
namespace Go.Proofs.YtnkfdpnommjlcaaGreatDoor
open Go.RowKit Go.ChangeShapes Go.WideShapes Go.ChangeAt Go.Deep

def letter (c : UInt8) : Bool := decide (97 ≤ c.toNat) && decide (c.toNat ≤ 122)
def digit (c : UInt8) : Bool := decide (48 ≤ c.toNat) && decide (c.toNat ≤ 57)
/-- May a function be named so? -/
def isNameL (l : List UInt8) : Bool := !l.isEmpty && decide (l.length ≤ 20) && letter (l.headD 0) && l.all fun c => letter c || digit c

set_option maxRecDepth 100000 in
set_option maxHeartbeats 400000 in
theorem letter_any (c : UInt8) (w : World) : Calls Tryz.prog 106 #[.int .u8 c.toNat] w fun e w' => e = .returned (.bool (letter c)) ∧ w' = w := by
  unfold letter
  generalize c.toNat = n
  by_cases h1 : 97 ≤ n
  · have k1 : (97 : Int) ≤ (n : Int) := by omega
    by_cases h2 : n ≤ 122
    · have k2 : (n : Int) ≤ 122 := by omega
      go_enter Tryz.func106, Tryz.ntmps106
      go_wp2
      go_ret
      refine ⟨?_, rfl⟩
      first | rfl | (rw [decide_eq_true h1, decide_eq_true h2]; rfl)
    · have k2 : ¬ (n : Int) ≤ 122 := by omega
      go_enter Tryz.func106, Tryz.ntmps106
      go_wp2
      go_ret
      refine ⟨?_, rfl⟩
      first | rfl | (rw [decide_eq_true h1, decide_eq_false h2]; rfl)
  · have k1 : ¬ (97 : Int) ≤ (n : Int) := by omega
    go_enter Tryz.func106, Tryz.ntmps106
    go_wp2
    go_ret
    refine ⟨?_, rfl⟩
    first | rfl | (rw [decide_eq_false h1]; rfl)

set_option maxRecDepth 100000 in
set_option maxHeartbeats 400000 in
theorem digit_any (c : UInt8) (w : World) : Calls Tryz.prog 107 #[.int .u8 c.toNat] w fun e w' => e = .returned (.bool (digit c)) ∧ w' = w := by
  unfold digit
  generalize c.toNat = n
  by_cases h1 : 48 ≤ n
  · have k1 : (48 : Int) ≤ (n : Int) := by omega
    by_cases h2 : n ≤ 57
    · have k2 : (n : Int) ≤ 57 := by omega
      go_enter Tryz.func107, Tryz.ntmps107
      go_wp2
      go_ret
      refine ⟨?_, rfl⟩
      first | rfl | (rw [decide_eq_true h1, decide_eq_true h2]; rfl)
    · have k2 : ¬ (n : Int) ≤ 57 := by omega
      go_enter Tryz.func107, Tryz.ntmps107
      go_wp2
      go_ret
      refine ⟨?_, rfl⟩
      first | rfl | (rw [decide_eq_true h1, decide_eq_false h2]; rfl)
  · have k1 : ¬ (48 : Int) ≤ (n : Int) := by omega
    go_enter Tryz.func107, Tryz.ntmps107
    go_wp2
    go_ret
    refine ⟨?_, rfl⟩
    first | rfl | (rw [decide_eq_false h1]; rfl)

theorem index_str {s : ByteArray} {c : UInt8} {j : Nat} (h : s.data.toList[j]? = some c) (w : World) : (Instr.index 9 (.string s) (.int .i64 (j : Int))).run Tryz.prog w = .ok (.int .u8 c.toNat) w := by
  have hj : j < s.size := by
    rcases Nat.lt_or_ge j s.data.toList.length with k | k
    · simpa using k
    · rw [List.getElem?_eq_none k] at h; cases h
  rw [run_index_string w 9 s .i64 j Tryz.underlying9, dif_pos (by omega)]
  have e : s[(j : Int).toNat]'(by omega) = c := by
    have : s[(j : Int).toNat]'(by omega) = s.data.toList[j]'(by simpa using hj) := by simp; rfl
    rw [this]
    rw [List.getElem?_eq_getElem (by simpa using hj)] at h
    exact Option.some.inj h
  rw [e]

theorem empty_str (s : ByteArray) : s.toList.isEmpty = s.data.toList.isEmpty := by
  rw [ByteArray.toList_eq]

set_option maxRecDepth 100000 in
set_option maxHeartbeats 400000 in
theorem isName_any (s : ByteArray) (hl : s.size < 9223372036854775808) (w : World) : Calls Tryz.prog 95 #[.string s] w fun e w' => e = .returned (.bool (isNameL s.data.toList)) ∧ w' = w := by
  have hsz : s.size = s.data.toList.length := Lib.size_eq s
  have he := empty_str s
  cases hc : s.data.toList with
  | nil =>
    rw [hc] at he hsz
    have h0 : (s.size : Int) = 0 := by simp [hsz]
    clear hc
    go_enter Tryz.func95, Tryz.ntmps95
    go_wp2
    go_ret
    exact ⟨rfl, rfl⟩
  | cons c r =>
    have h0 : s.toList.isEmpty = false := by rw [he, hc]; rfl
    have i0 : ∀ w, (Instr.index 9 (.string s) (.int .i64 0)).run Tryz.prog w = .ok (.int .u8 c.toNat) w := fun w => index_str (s := s) (c := c) (j := 0) (by rw [hc]; rfl) w
    have C0 := fun w => letter_any c w
    rw [hc] at hsz
    have HC := hide hc
    have HS := hide hsz
    clear hc he
    by_cases h20 : s.size ≤ 20
    · have hk : ¬ (20 : Int) < (s.size : Int) := by omega
      clear hsz
      cases hq : letter c with
      | false =>
        rw [hq] at C0
        go_enter Tryz.func95, Tryz.ntmps95
        go_wp2_with (go_at_call 106; go_must (refine (C0 _).mono ?_; rintro e w1 ⟨rfl, wz⟩; subst wz))
        go_ret
        exact ⟨by simp [isNameL, hq], rfl⟩
      | true =>
        rw [hq] at C0
        go_enter Tryz.func95, Tryz.ntmps95
        go_wp2_with (go_at_call 106; go_must (refine (C0 _).mono ?_; rintro e w1 ⟨rfl, wz⟩; subst wz))
        clear i0 C0
        go_loopw [19] (fun i wr => wr = w1 ∧ ∃ k : Nat, k ≤ s.size ∧ i = .int .i64 (k : Nat) ∧ Hid (∀ x ∈ s.data.toList.take k, (letter x || digit x) = true)) (fun i _ => s.size - (intOf i).toNat)
        case atStart => exact ⟨rfl, 0, by omega, rfl, fun x hx => by simp at hx⟩
        case round =>
          obtain ⟨rfl, k, hkk, rfl, hh⟩ := hrel
          by_cases hlt : k < s.size
          · have hg : ∃ x, s.data.toList[k]? = some x := ⟨s.data.toList[k]'(by rw [← Lib.size_eq]; exact hlt), List.getElem?_eq_getElem _⟩
            obtain ⟨x, hx⟩ := hg
            have ik := fun w => index_str hx w
            have C1 := fun w => letter_any x w
            have C2 := fun w => digit_any x w
            have hlt' : (k : Int) < (s.size : Int) := by omega
            have HX := hide hx
            clear hx
            cases q1 : letter x with
            | true =>
              rw [q1] at C1
              have HO := hide (show ∀ y ∈ s.data.toList.take (k + 1), (letter y || digit y) = true from fun y hy => by
                rw [List.take_add_one, HX.out] at hy
                rcases List.mem_append.1 hy with h | h
                · exact hh.out y h
                · simp only [Option.toList_some, List.mem_singleton] at h
                  rw [h, q1]; rfl)
              go_wp2_with (go_at_call 106; go_must (refine (C1 _).mono ?_; rintro e w1 ⟨rfl, wz⟩; subst wz))
              go_roundw
              case rel => exact ⟨trivial, k + 1, by omega, by go_num, HO⟩
              case measure => simp [intOf]; omega
            | false =>
              rw [q1] at C1
              cases q2 : digit x with
              | true =>
                rw [q2] at C2
                have HO := hide (show ∀ y ∈ s.data.toList.take (k + 1), (letter y || digit y) = true from fun y hy => by
                  rw [List.take_add_one, HX.out] at hy
                  rcases List.mem_append.1 hy with h | h
                  · exact hh.out y h
                  · simp only [Option.toList_some, List.mem_singleton] at h
                    rw [h, q2]; simp)
                go_wp2_with (first
                  | (go_at_call 106; go_must (refine (C1 _).mono ?_; rintro e w1 ⟨rfl, wz⟩; subst wz))
                  | (go_at_call 107; go_must (refine (C2 _).mono ?_; rintro e w1 ⟨rfl, wz⟩; subst wz)))
                go_roundw
                case rel => exact ⟨trivial, k + 1, by omega, by go_num, HO⟩
                case measure => simp [intOf]; omega
              | false =>
                rw [q2] at C2
                have HO := hide (show isNameL (c :: r) = false from by
                  have : ((c :: r).all fun c => letter c || digit c) = false := by
                    rw [List.all_eq_false]
                    have hm : x ∈ c :: r := by rw [← HC.out]; exact List.mem_of_getElem? HX.out
                    exact ⟨x, hm, by simp [q1, q2]⟩
                  unfold isNameL
                  rw [this, Bool.and_false])
                go_wp2_with (first
                  | (go_at_call 106; go_must (refine (C1 _).mono ?_; rintro e w1 ⟨rfl, wz⟩; subst wz))
                  | (go_at_call 107; go_must (refine (C2 _).mono ?_; rintro e w1 ⟨rfl, wz⟩; subst wz)))
                go_ret
                exact ⟨by rw [HO.out]; rfl, rfl⟩
          · have hlt' : ¬ (k : Int) < (s.size : Int) := by omega
            have HO := hide (show isNameL (c :: r) = true from by
              have hs := HS.out
              have e1 : ((c :: r).all fun c => letter c || digit c) = true := by
                rw [List.all_eq_true]
                intro y hy
                refine hh.out y ?_
                rw [HC.out, List.take_of_length_le (by rw [← hs]; omega)]
                exact hy
              unfold isNameL
              rw [e1, decide_eq_true (show (c :: r).length ≤ 20 by omega)]
              simp [hq])
            go_wp2
            go_ret
            exact ⟨by rw [HO.out]; rfl, rfl⟩
    · have hk : (20 : Int) < (s.size : Int) := by omega
      have HO := hide (show isNameL (c :: r) = false from by
        have : ¬ (c :: r).length ≤ 20 := by omega
        unfold isNameL
        rw [decide_eq_false this]
        simp)
      clear hsz
      go_enter Tryz.func95, Tryz.ntmps95
      go_wp2
      go_ret
      exact ⟨by rw [HO.out]; rfl, rfl⟩
end Go.Proofs.YtnkfdpnommjlcaaGreatDoor
