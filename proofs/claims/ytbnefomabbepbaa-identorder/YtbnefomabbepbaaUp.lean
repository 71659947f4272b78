/- Kid, Up, apart: the code's and the document's own; the example. -/
import Derived.Test.YtbnefomabbepbaaKid
import Derived.Deep.QuietTactic
namespace Go.Proofs.Ytbnefomabbepbaa
open Go.RowKit Go.ChangeShapes Go.WideShapes Go.ChangeAt Go.Deep

/-- Can a name have a spawn of that number? -/
def kidOk (l : List UInt8) (k : Int) : Bool := decide (0 ≤ k) && decide (k < 16) && decide (l.length < 12) && validL l
def kidL (l : List UInt8) (k : Int) : List UInt8 := if kidOk l k then l ++ [k.toNat.toUInt8] else []
theorem kid_parts {l : List UInt8} {k : Int} : kidOk l k = true ↔ 0 ≤ k ∧ k < 16 ∧ l.length < 12 ∧ validL l = true := by
  simp [kidOk, and_assoc]
theorem kid_no {l : List UInt8} {k : Int} (h : ¬ (0 ≤ k ∧ k < 16 ∧ l.length < 12 ∧ validL l = true)) : kidOk l k = false ∧ kidL l k = [] := by
  have : kidOk l k = false := by rw [← Bool.not_eq_true, kid_parts]; exact h
  exact ⟨this, by unfold kidL; rw [this]; rfl⟩
theorem u8_of {k : Int} (h0 : 0 ≤ k) (h1 : k < 256) : (k.toNat.toUInt8.toNat : Int) = k := by
  simp
  omega
theorem wrap8 {k : Int} (h0 : 0 ≤ k) (h1 : k < 256) : IntKind.u8.wrap k = k := by
  unfold IntKind.wrap
  simp [IntKind.signed, IntKind.bits]
  omega
theorem conv_one {k : Int} (h0 : 0 ≤ k) (h1 : k < 256) (w : World) : (convert 44 22 (.slice (some ⟨w.heap.size, 0, none⟩) 1 1)).run Try.prog (w.alloc (.cells #[.int .u8 k] 5)) = .ok (.string (bs [k.toNat.toUInt8])) (w.alloc (.cells #[.int .u8 k] 5)) :=
  conv_str (t := 22) Try.underlying22 (B := 0) (.inl ⟨_, rfl, Nat.zero_le _, k.toNat.toUInt8, rfl, by rw [cell_new1, u8_of h0 h1]⟩)
theorem str_add (s : ByteArray) (l : List UInt8) : s ++ bs l = bs (s.data.toList ++ l) := by
  apply bytes_inj
  rw [bs_list]
  simp [bs]

set_option maxRecDepth 100000 in
set_option maxHeartbeats 1000000 in
theorem kid_any (s : ByteArray) (hs : s.size ≤ 281474976710656) (k : Int) (w : World) : Calls Try.prog 10 #[.string s, .int .i64 k] w fun e w' => e = .returned (.tuple #[.string (bs (kidL s.data.toList k)), .bool (kidOk s.data.toList k)]) ∧ Below w.heap.size w w' := by
  have hsz : s.size = s.data.toList.length := Lib.size_eq s
  have C := fun w => valid_any s (by unfold maxLen; omega) w
  by_cases h0 : 0 ≤ k
  · have h0' : ¬ k < 0 := by omega
    by_cases h1 : k < 16
    · have h1' : ¬ 16 ≤ k := by omega
      by_cases h2 : s.size < 12
      · have h2' : ¬ (12 : Int) ≤ (s.size : Int) := by omega
        cases hv : validL s.data.toList with
        | true =>
          rw [hv] at C
          have HK := hide (show kidOk s.data.toList k = true from kid_parts.2 ⟨h0, h1, by omega, hv⟩)
          have HL := hide (show kidL s.data.toList k = s.data.toList ++ [k.toNat.toUInt8] by unfold kidL; rw [HK.out]; rfl)
          rw [HK.out, HL.out]
          have w8 := wrap8 h0 (show k < 256 by omega)
          have kk := fun w => conv_one h0 (show k < 256 by omega) w
          have HA := hide (str_add s [k.toNat.toUInt8])
          have hts : (bs [k.toNat.toUInt8]).size = 1 := bs_size _
          generalize s.data.toList ++ [k.toNat.toUInt8] = R at HA ⊢
          generalize bs [k.toNat.toUInt8] = t at kk HA hts
          clear hsz HL HK
          go_enter Try.func10, Try.ntmps10
          go_wp2_with (go_at_call 15; go_must (with_reducible refine (C _).mono ?_; (rintro e wz ⟨rfl, hwz⟩); subst hwz))
          exact bodyPost_ret (v := .tuple #[.string (s ++ t), .bool true]) (by simp [results, Try.results10, go_sem]) rfl ⟨by rw [HA.out], (Below.refl _ _).alloc (Nat.le_refl _) _⟩
        | false =>
          rw [hv] at C
          obtain ⟨e1, e2⟩ := kid_no (l := s.data.toList) (k := k) (by rw [hv]; simp)
          rw [e1, e2]
          clear hsz e1 e2
          go_enter Try.func10, Try.ntmps10
          go_wp2_with (go_at_call 15; go_must (with_reducible refine (C _).mono ?_; (rintro e wz ⟨rfl, hwz⟩); subst hwz))
          exact bodyPost_ret (v := .tuple #[.string ⟨#[]⟩, .bool false]) (by simp [results, Try.results10, go_sem]) rfl ⟨rfl, Below.refl _ _⟩
      · have h2' : (12 : Int) ≤ (s.size : Int) := by omega
        obtain ⟨e1, e2⟩ := kid_no (l := s.data.toList) (k := k) (by omega)
        rw [e1, e2]
        clear hsz e1 e2
        go_enter Try.func10, Try.ntmps10
        go_wp2_with (go_at_call 15; go_must (with_reducible refine (C _).mono ?_; (rintro e wz ⟨rfl, hwz⟩); subst hwz))
        exact bodyPost_ret (v := .tuple #[.string ⟨#[]⟩, .bool false]) (by simp [results, Try.results10, go_sem]) rfl ⟨rfl, Below.refl _ _⟩
    · have h1' : 16 ≤ k := by omega
      obtain ⟨e1, e2⟩ := kid_no (l := s.data.toList) (k := k) (by omega)
      rw [e1, e2]
      clear hsz e1 e2
      go_enter Try.func10, Try.ntmps10
      go_wp2_with (go_at_call 15; go_must (with_reducible refine (C _).mono ?_; (rintro e wz ⟨rfl, hwz⟩); subst hwz))
      exact bodyPost_ret (v := .tuple #[.string ⟨#[]⟩, .bool false]) (by simp [results, Try.results10, go_sem]) rfl ⟨rfl, Below.refl _ _⟩
  · have h0' : k < 0 := by omega
    obtain ⟨e1, e2⟩ := kid_no (l := s.data.toList) (k := k) (by omega)
    rw [e1, e2]
    clear hsz e1 e2
    go_enter Try.func10, Try.ntmps10
    go_wp2_with (go_at_call 15; go_must (with_reducible refine (C _).mono ?_; (rintro e wz ⟨rfl, hwz⟩); subst hwz))
    exact bodyPost_ret (v := .tuple #[.string ⟨#[]⟩, .bool false]) (by simp [results, Try.results10, go_sem]) rfl ⟨rfl, Below.refl _ _⟩

set_option maxRecDepth 100000 in
set_option maxHeartbeats 1000000 in
theorem refKid_any (s : ByteArray) (hs : s.size ≤ 281474976710656) (k : Int) (w : World) : Calls Try.prog 11 #[.string s, .int .i64 k] w fun e w' => e = .returned (.tuple #[.string (bs (kidL s.data.toList k)), .bool (kidOk s.data.toList k)]) ∧ Below w.heap.size w w' := by
  have hsz : s.size = s.data.toList.length := Lib.size_eq s
  have C := fun w => refValid_any s (by unfold maxLen; omega) w
  cases hv : validL s.data.toList with
  | false =>
    rw [hv] at C
    obtain ⟨e1, e2⟩ := kid_no (l := s.data.toList) (k := k) (by rw [hv]; simp)
    rw [e1, e2]
    clear hsz e1 e2
    go_enter Try.func11, Try.ntmps11
    go_wp2_with (go_at_call 14; go_must (with_reducible refine (C _).mono ?_; (rintro e wz ⟨rfl, hwz⟩); subst hwz))
    exact bodyPost_ret (v := .tuple #[.string ⟨#[]⟩, .bool false]) (by simp [results, Try.results11, go_sem]) rfl ⟨rfl, Below.refl _ _⟩
  | true =>
    rw [hv] at C
    have h12 := (valid_iff.1 hv).1
    by_cases h0 : 0 ≤ k
    · have h0' : ¬ k < 0 := by omega
      by_cases h1 : k < 16
      · have h1' : ¬ 15 < k := by omega
        by_cases h2 : s.size < 12
        · have h2n : ((s.size : Int) == 12) = false := by rw [beq_eq_false_iff_ne]; omega
          have HK := hide (show kidOk s.data.toList k = true from kid_parts.2 ⟨h0, h1, by omega, hv⟩)
          have HL := hide (show kidL s.data.toList k = s.data.toList ++ [k.toNat.toUInt8] by unfold kidL; rw [HK.out]; rfl)
          rw [HK.out, HL.out]
          have w8 := wrap8 h0 (show k < 256 by omega)
          have kk := fun w => conv_one h0 (show k < 256 by omega) w
          have HA := hide (str_add s [k.toNat.toUInt8])
          have hts : (bs [k.toNat.toUInt8]).size = 1 := bs_size _
          generalize s.data.toList ++ [k.toNat.toUInt8] = R at HA ⊢
          generalize bs [k.toNat.toUInt8] = t at kk HA hts
          clear hsz HL HK
          go_enter Try.func11, Try.ntmps11
          go_wp2_with (go_at_call 14; go_must (with_reducible refine (C _).mono ?_; (rintro e wz ⟨rfl, hwz⟩); subst hwz))
          exact bodyPost_ret (v := .tuple #[.string (s ++ t), .bool true]) (by simp [results, Try.results11, go_sem]) rfl ⟨by rw [HA.out], (Below.refl _ _).alloc (Nat.le_refl _) _⟩
        · have h2n : ((s.size : Int) == 12) = true := by rw [beq_iff_eq]; omega
          obtain ⟨e1, e2⟩ := kid_no (l := s.data.toList) (k := k) (by omega)
          rw [e1, e2]
          clear hsz e1 e2
          go_enter Try.func11, Try.ntmps11
          go_wp2_with (go_at_call 14; go_must (with_reducible refine (C _).mono ?_; (rintro e wz ⟨rfl, hwz⟩); subst hwz))
          exact bodyPost_ret (v := .tuple #[.string ⟨#[]⟩, .bool false]) (by simp [results, Try.results11, go_sem]) rfl ⟨rfl, Below.refl _ _⟩
      · have h1' : 15 < k := by omega
        obtain ⟨e1, e2⟩ := kid_no (l := s.data.toList) (k := k) (by omega)
        rw [e1, e2]
        clear hsz e1 e2
        go_enter Try.func11, Try.ntmps11
        go_wp2_with (go_at_call 14; go_must (with_reducible refine (C _).mono ?_; (rintro e wz ⟨rfl, hwz⟩); subst hwz))
        exact bodyPost_ret (v := .tuple #[.string ⟨#[]⟩, .bool false]) (by simp [results, Try.results11, go_sem]) rfl ⟨rfl, Below.refl _ _⟩
    · have h0' : k < 0 := by omega
      obtain ⟨e1, e2⟩ := kid_no (l := s.data.toList) (k := k) (by omega)
      rw [e1, e2]
      clear hsz e1 e2
      go_enter Try.func11, Try.ntmps11
      go_wp2_with (go_at_call 14; go_must (with_reducible refine (C _).mono ?_; (rintro e wz ⟨rfl, hwz⟩); subst hwz))
      exact bodyPost_ret (v := .tuple #[.string ⟨#[]⟩, .bool false]) (by simp [results, Try.results11, go_sem]) rfl ⟨rfl, Below.refl _ _⟩

theorem apart_any (s : ByteArray) (hs : s.size ≤ 281474976710656) (w : World) : Calls Try.prog 25 #[.string s] w fun e w' => e = .returned (.string s) ∧ Below w.heap.size w w' := by
  have C := fun w => Try.stringslite_Clone s w hs
  go_enter Try.func25, Try.ntmps25
  go_wp2_with (first | (go_at_call 38; go_must (with_reducible refine (C _).mono ?_; (rintro e wz ⟨rfl, hwz⟩))) | go_in)
  go_ret
  exact ⟨rfl, hwz⟩
end Go.Proofs.Ytbnefomabbepbaa
