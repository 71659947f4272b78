/- Up: the code's and the document's own; the document's own text; the example. -/
import Derived.Test.YtbnefomabbepbaaUp
import Derived.Deep.QuietTactic
namespace Go.Proofs.Ytbnefomabbepbaa
open Go.RowKit Go.ChangeShapes Go.WideShapes Go.ChangeAt Go.Deep

/-- Was a name spawned? -/
def upOk (l : List UInt8) : Bool := !l.isEmpty && validL l
def upL (l : List UInt8) : List UInt8 := if upOk l then l.take (l.length - 1) else []
def upN (l : List UInt8) : Int := if upOk l then ((l.getLastD 0).toNat : Int) else 0
theorem wrapi {n : Int} (h : -9223372036854775808 ≤ n ∧ n ≤ 9223372036854775807) : IntKind.i64.wrap n = n := by
  unfold IntKind.wrap
  simp [IntKind.signed, IntKind.bits]
  omega
theorem chain {a b c : World} (h1 : Below a.heap.size a b) (h2 : Below b.heap.size b c) : Below a.heap.size a c := h1.trans (h2.mono h1.size)
theorem last_at {l : List UInt8} (h : 0 < l.length) : l[l.length - 1]? = some (l.getLastD 0) := by
  rw [← List.getLast?_eq_getElem?]
  cases l with
  | nil => simp at h
  | cons a r => simp [List.getLastD, List.getLast?]
theorem up_no {l : List UInt8} (h : upOk l = false) : upL l = [] ∧ upN l = 0 := by
  unfold upL upN; rw [h]; exact ⟨rfl, rfl⟩
theorem up_empty {l : List UInt8} (h : l.isEmpty = true) : upOk l = false := by unfold upOk; rw [h]; rfl
theorem up_bad {l : List UInt8} (h : validL l = false) : upOk l = false := by unfold upOk; rw [h, Bool.and_false]

set_option maxRecDepth 100000 in
set_option maxHeartbeats 1000000 in
theorem up_any (s : ByteArray) (hs : s.size ≤ 281474976710656) (w : World) : Calls Try.prog 12 #[.string s] w fun e w' => e = .returned (.tuple #[.string (bs (upL s.data.toList)), .int .i64 (upN s.data.toList), .bool (upOk s.data.toList)]) ∧ Below w.heap.size w w' := by
  have hsz : s.size = s.data.toList.length := Lib.size_eq s
  have C := fun w => valid_any s (by unfold maxLen; omega) w
  have he := empty_str s
  by_cases h0 : 0 < s.size
  · have hem : s.data.toList.isEmpty = false := by
      rw [← Bool.not_eq_true, List.isEmpty_iff_length_eq_zero]; omega
    rw [hem] at he
    cases hv : validL s.data.toList with
    | true =>
      have HO := hide (show upOk s.data.toList = true by unfold upOk; rw [hem, hv]; rfl)
      have HL := hide (show upL s.data.toList = s.data.toList.take (s.size - 1) by unfold upL; rw [HO.out, hsz]; rfl)
      have HN := hide (show upN s.data.toList = ((s.data.toList.getLastD 0).toNat : Int) by unfold upN; rw [HO.out]; rfl)
      have HX := hide (show s.extract 0 (s.size - 1) = bs (s.data.toList.take (s.size - 1)) by rw [extract_bs]; simp)
      have HZ := hide (bs_size (s.data.toList.take (s.size - 1)))
      have c1 : ((s.size : Int) - 1) = ((s.size - 1 : Nat) : Int) := by omega
      have ik : ∀ w, (Instr.index 22 (.string s) (.int .i64 ((s.size : Int) - 1))).run Try.prog w = .ok (.int .u8 (s.data.toList.getLastD 0).toNat) w := fun w => by
        rw [c1]; exact index_str (kd := .i64) (t := 22) Try.underlying22 (s := s) (j := s.size - 1) (c := s.data.toList.getLastD 0) (by rw [hsz]; exact last_at (by omega)) w
      have hlt8 : IntKind.i64.wrap ((s.data.toList.getLastD 0).toNat : Int) = ((s.data.toList.getLastD 0).toNat : Int) := by
        have := (s.data.toList.getLastD 0).toNat_lt
        exact wrapi (by omega)
      have wq : IntKind.i64.wrap ((s.size : Int) - 1) = (s.size : Int) - 1 := wrapi (by omega)
      have A := fun w => apart_any (s.extract 0 (s.size - 1)) (by rw [HX.out, HZ.out]; simp; omega) w
      have esl : ∀ w, (Instr.slice 22 (.string s) none (some (.int .i64 ((s.size : Int) - 1))) none).run Try.prog w = .ok (.string (s.extract 0 (s.size - 1))) w := fun w => by
        rw [c1]; simp [go_sem]
      rw [HO.out, HL.out, HN.out, ← HX.out]
      rw [hv] at C
      generalize s.data.toList.getLastD 0 = x at ik hlt8 ⊢
      clear hsz hv HO HL HN HX HZ hem c1
      go_enter Try.func12, Try.ntmps12
      go_wp2_with (go_at_call 15; go_must (with_reducible refine (C _).mono ?_; (rintro e wz ⟨rfl, hwz⟩); subst hwz))
      refine wp_region_noPanic ?_
      have hN : Below wz.heap.size wz wz.drew := (Below.refl _ _).drew
      refine wp_region_held_drew (S := fun W => True) (by kernel_rfl) (trivial) (fun hHeld => ?_)
      refine takeD (i := 0) (d := some 16) (v := ?_) rfl rfl (by kernel_rfl) (by kernel_rfl) (by kernel_rfl) (fun _ _ _ h => h) (Or.inl ⟨by rfl, ?_⟩) (by assumption) ?_
      rotate_left
      · intro w hSw
        go_simp
        try (with_reducible rfl)
      try simp only [Act.put, List.setIfInBounds_toArray, List.set_cons_zero, List.set_cons_succ]
      refine takeD (i := 1) (d := some 17) (v := ?_) rfl rfl (by kernel_rfl) (by kernel_rfl) (by kernel_rfl) (fun _ _ _ h => h) (Or.inl ⟨by rfl, ?_⟩) (by assumption) ?_
      rotate_left
      · intro w hSw
        go_simp
        try (with_reducible rfl)
      try simp only [Act.put, List.setIfInBounds_toArray, List.set_cons_zero, List.set_cons_succ]
      refine takeD (i := 2) (d := some 18) (v := ?_) rfl rfl (by kernel_rfl) (by kernel_rfl) (by kernel_rfl) (fun _ _ _ h => h) (Or.inl ⟨by rfl, ?_⟩) (by assumption) ?_
      rotate_left
      · intro w hSw
        go_simp
        try (with_reducible rfl)
      try simp only [Act.put, List.setIfInBounds_toArray, List.set_cons_zero, List.set_cons_succ]
      refine takeD (i := 4) (d := some 20) (v := ?_) rfl rfl (by kernel_rfl) (by kernel_rfl) (by kernel_rfl) (fun _ _ _ h => h) (Or.inl ⟨by rfl, ?_⟩) (by assumption) ?_
      rotate_left
      · intro w hSw
        go_simp
        try (with_reducible rfl)
      try simp only [Act.put, List.setIfInBounds_toArray, List.set_cons_zero, List.set_cons_succ]
      refine takeD (i := 5) (d := some 21) (v := ?_) rfl rfl (by kernel_rfl) (by kernel_rfl) (by kernel_rfl) (fun _ _ _ h => h) (Or.inl ⟨by rfl, ?_⟩) (by assumption) ?_
      rotate_left
      · intro w hSw
        go_simp
        try (with_reducible rfl)
      try simp only [Act.put, List.setIfInBounds_toArray, List.set_cons_zero, List.set_cons_succ]
      refine takeD (i := 6) (d := some 22) (v := ?_) rfl rfl (by kernel_rfl) (by kernel_rfl) (by kernel_rfl) (fun _ _ _ h => h) (Or.inl ⟨by rfl, ?_⟩) (by assumption) ?_
      rotate_left
      · intro w hSw
        go_simp
        try (with_reducible rfl)
      try simp only [Act.put, List.setIfInBounds_toArray, List.set_cons_zero, List.set_cons_succ]
      refine takeD (i := 7) (d := some 23) (v := ?_) rfl rfl (by kernel_rfl) (by kernel_rfl) (by kernel_rfl) (fun _ _ _ h => h) (Or.inl ⟨by rfl, ?_⟩) (by assumption) ?_
      rotate_left
      · intro w hSw
        go_simp
        try (with_reducible rfl)
      try simp only [Act.put, List.setIfInBounds_toArray, List.set_cons_zero, List.set_cons_succ]
      refine wpAnyH_ready (rs := [3]) (by kernel_rfl) (by simp) ?_
      refine AllReadyH.cons rfl (fun K hK => ?_) AllReadyH.nil
      go_simp
      go_at_call 25
      with_reducible refine (A _).mono ?_
      (rintro e w2 ⟨rfl, hb2⟩)
      go_wp2_with fail
      clear hHeld
      refine hK.out _ _ (trivial) (fun hHeld => ?_)
      clear hK K
      try simp only [Act.put, List.setIfInBounds_toArray, List.set_cons_zero, List.set_cons_succ]
      refine takeD (i := 8) (d := some 2) (v := ?_) rfl rfl (by kernel_rfl) (by kernel_rfl) (by kernel_rfl) (fun _ _ _ h => h) (Or.inl ⟨by rfl, ?_⟩) (by assumption) ?_
      rotate_left
      · intro w hSw
        go_simp
        try (with_reducible rfl)
      try simp only [Act.put, List.setIfInBounds_toArray, List.set_cons_zero, List.set_cons_succ]
      refine takeD (i := 9) (d := some 3) (v := ?_) rfl rfl (by kernel_rfl) (by kernel_rfl) (by kernel_rfl) (fun _ _ _ h => h) (Or.inl ⟨by rfl, ?_⟩) (by assumption) ?_
      rotate_left
      · intro w hSw
        go_simp
        try (with_reducible rfl)
      try simp only [Act.put, List.setIfInBounds_toArray, List.set_cons_zero, List.set_cons_succ]
      refine takeD (i := 10) (d := some 4) (v := ?_) rfl rfl (by kernel_rfl) (by kernel_rfl) (by kernel_rfl) (fun _ _ _ h => h) (Or.inl ⟨by rfl, ?_⟩) (by assumption) ?_
      rotate_left
      · intro w hSw
        go_simp
        try (with_reducible rfl)
      try simp only [Act.put, List.setIfInBounds_toArray, List.set_cons_zero, List.set_cons_succ]
      refine wpAnyH_done (by kernel_rfl) ?_ _
      refine NoPanic.normal ?_
      go_wp2
      exact bodyPost_ret (v := .tuple #[.string (s.extract 0 (s.size - 1)), .int .i64 (x.toNat : Int), .bool true]) (by simp [results, Try.results12, go_sem]) rfl ⟨rfl, below_undrew hb2⟩
    | false =>
      obtain ⟨e1, e2⟩ := up_no (up_bad hv)
      rw [e1, e2, up_bad hv]
      rw [hv] at C
      clear hsz e1 e2
      go_enter Try.func12, Try.ntmps12
      go_wp2_with (go_at_call 15; go_must (with_reducible refine (C _).mono ?_; (rintro e wz ⟨rfl, hwz⟩); subst hwz))
      exact bodyPost_ret (v := .tuple #[.string ⟨#[]⟩, .int .i64 0, .bool false]) (by simp [results, Try.results12, go_sem]) rfl ⟨rfl, Below.refl _ _⟩
  · have hem : s.data.toList.isEmpty = true := by
      rw [List.isEmpty_iff_length_eq_zero]; omega
    rw [hem] at he
    obtain ⟨e1, e2⟩ := up_no (up_empty hem)
    rw [e1, e2, up_empty hem]
    clear hsz e1 e2
    go_enter Try.func12, Try.ntmps12
    go_wp2_with (go_at_call 15; go_must (with_reducible refine (C _).mono ?_; (rintro e wz ⟨rfl, hwz⟩); subst hwz))
    exact bodyPost_ret (v := .tuple #[.string ⟨#[]⟩, .int .i64 0, .bool false]) (by simp [results, Try.results12, go_sem]) rfl ⟨rfl, Below.refl _ _⟩

set_option maxRecDepth 100000 in
set_option maxHeartbeats 1000000 in
theorem refUp_any (s : ByteArray) (hs : s.size ≤ 281474976710656) (w : World) : Calls Try.prog 13 #[.string s] w fun e w' => e = .returned (.tuple #[.string (bs (upL s.data.toList)), .int .i64 (upN s.data.toList), .bool (upOk s.data.toList)]) ∧ Below w.heap.size w w' := by
  have hsz : s.size = s.data.toList.length := Lib.size_eq s
  have C := fun w => refValid_any s (by unfold maxLen; omega) w
  have he := empty_str s
  by_cases h0 : 0 < s.size
  · have hem : s.data.toList.isEmpty = false := by
      rw [← Bool.not_eq_true, List.isEmpty_iff_length_eq_zero]; omega
    rw [hem] at he
    have hn0 : ((s.size : Int) == 0) = false := by rw [beq_eq_false_iff_ne]; omega
    cases hv : validL s.data.toList with
    | true =>
      have HO := hide (show upOk s.data.toList = true by unfold upOk; rw [hem, hv]; rfl)
      have HL := hide (show upL s.data.toList = s.data.toList.take (s.size - 1) by unfold upL; rw [HO.out, hsz]; rfl)
      have HN := hide (show upN s.data.toList = ((s.data.toList.getLastD 0).toNat : Int) by unfold upN; rw [HO.out]; rfl)
      have HX := hide (show s.extract 0 (s.size - 1) = bs (s.data.toList.take (s.size - 1)) by rw [extract_bs]; simp)
      have HZ := hide (bs_size (s.data.toList.take (s.size - 1)))
      have c1 : ((s.size : Int) - 1) = ((s.size - 1 : Nat) : Int) := by omega
      have ik : ∀ w, (Instr.index 22 (.string s) (.int .i64 ((s.size : Int) - 1))).run Try.prog w = .ok (.int .u8 (s.data.toList.getLastD 0).toNat) w := fun w => by
        rw [c1]; exact index_str (kd := .i64) (t := 22) Try.underlying22 (s := s) (j := s.size - 1) (c := s.data.toList.getLastD 0) (by rw [hsz]; exact last_at (by omega)) w
      have hlt8 : IntKind.i64.wrap ((s.data.toList.getLastD 0).toNat : Int) = ((s.data.toList.getLastD 0).toNat : Int) := by
        have := (s.data.toList.getLastD 0).toNat_lt
        exact wrapi (by omega)
      have wq : IntKind.i64.wrap ((s.size : Int) - 1) = (s.size : Int) - 1 := wrapi (by omega)
      have esl : ∀ w, (Instr.slice 22 (.string s) none (some (.int .i64 ((s.size : Int) - 1))) none).run Try.prog w = .ok (.string (s.extract 0 (s.size - 1))) w := fun w => by
        rw [c1]; simp [go_sem]
      rw [HO.out, HL.out, HN.out, ← HX.out]
      rw [hv] at C
      generalize s.data.toList.getLastD 0 = x at ik hlt8 ⊢
      clear hsz hv HO HL HN HX HZ hem c1
      go_enter Try.func13, Try.ntmps13
      go_wp2_with (go_at_call 14; go_must (with_reducible refine (C _).mono ?_; (rintro e wz ⟨rfl, hwz⟩); subst hwz))
      go_quiet (fail)
      go_wp2
      exact bodyPost_ret (v := .tuple #[.string (s.extract 0 (s.size - 1)), .int .i64 (x.toNat : Int), .bool true]) (by simp [results, Try.results13, go_sem]) rfl ⟨rfl, below_drewN (Below.refl _ _) _⟩
    | false =>
      obtain ⟨e1, e2⟩ := up_no (up_bad hv)
      rw [e1, e2, up_bad hv]
      rw [hv] at C
      clear hsz e1 e2
      go_enter Try.func13, Try.ntmps13
      go_wp2_with (go_at_call 14; go_must (with_reducible refine (C _).mono ?_; (rintro e wz ⟨rfl, hwz⟩); subst hwz))
      exact bodyPost_ret (v := .tuple #[.string ⟨#[]⟩, .int .i64 0, .bool false]) (by simp [results, Try.results13, go_sem]) rfl ⟨rfl, Below.refl _ _⟩
  · have hem : s.data.toList.isEmpty = true := by
      rw [List.isEmpty_iff_length_eq_zero]; omega
    rw [hem] at he
    have hn0 : ((s.size : Int) == 0) = true := by rw [beq_iff_eq]; omega
    have hv : validL s.data.toList = true := by rw [List.isEmpty_iff.1 hem]; rfl
    rw [hv] at C
    obtain ⟨e1, e2⟩ := up_no (up_empty hem)
    rw [e1, e2, up_empty hem]
    clear hsz e1 e2 hv
    go_enter Try.func13, Try.ntmps13
    go_wp2_with (go_at_call 14; go_must (with_reducible refine (C _).mono ?_; (rintro e wz ⟨rfl, hwz⟩); subst hwz))
    exact bodyPost_ret (v := .tuple #[.string ⟨#[]⟩, .int .i64 0, .bool false]) (by simp [results, Try.results13, go_sem]) rfl ⟨rfl, Below.refl _ _⟩

set_option maxRecDepth 100000 in
set_option maxHeartbeats 1000000 in
theorem refText_any (s : ByteArray) (hs : s.size ≤ maxLen) (w : World) : Calls Try.prog 17 #[.string s] w fun e w' => e = .returned (.string (bs (textOf s.data.toList))) ∧ Below w.heap.size w w' := by
  have hsz : s.size = s.data.toList.length := Lib.size_eq s
  have C := fun w => refValid_any s hs w
  unfold maxLen at hs
  cases hv : validL s.data.toList with
  | false =>
    have HT := hide (show textOf s.data.toList = [] by unfold textOf; rw [hv]; rfl)
    rw [hv] at C
    clear hsz
    go_enter Try.func17, Try.ntmps17
    go_wp2_with (go_at_call 14; go_must (with_reducible refine (C _).mono ?_; (rintro e wz ⟨rfl, hwz⟩); subst hwz))
    go_ret
    refine ⟨ret_s ?_, Below.refl _ _⟩
    rw [HT.out]; rfl
  | true =>
    have HT := hide (show textOf s.data.toList = textL s.data.toList by unfold textOf; rw [hv]; rfl)
    obtain ⟨h12, hall⟩ := valid_iff.1 hv
    rw [← hsz] at h12
    have HA := hide hall
    have HS := hide hsz
    rw [hv] at C
    clear hsz hall
    go_enter Try.func17, Try.ntmps17
    go_wp2_with (go_at_call 14; go_must (with_reducible refine (C _).mono ?_; (rintro e wz ⟨rfl, hwz⟩); subst hwz))
    clear C
    go_loopw [5, 4] (fun i t wr => Below wz.heap.size wz wr ∧ ∃ k : Nat, k ≤ s.size ∧ i = .int .i64 (k : Nat) ∧ t = .string (bs (114 :: (s.data.toList.take k).map hexB))) (fun i _ _ => s.size - (intOf i).toNat)
    case atStart => exact ⟨Below.refl _ _, 0, by omega, rfl, rfl⟩
    case round =>
      obtain ⟨hbw, k, hk, rfl, rfl⟩ := hrel
      have hszw := hbw.size
      by_cases hlt : k < s.size
      · have hlt' : (k : Int) < (s.size : Int) := by omega
        have hg : ∃ x, s.data.toList[k]? = some x := ⟨s.data.toList[k]'(by rw [← Lib.size_eq]; exact hlt), List.getElem?_eq_getElem _⟩
        obtain ⟨x, hx⟩ := hg
        have ik := fun w => index_str (kd := .i64) (t := 22) Try.underlying22 (s := s) (j := k) hx w
        have hx16 := HA.out x (List.mem_of_getElem? hx)
        have HE := hide (show (⟨#[48, 49, 50, 51, 52, 53, 54, 55, 56, 57, 97, 98, 99, 100, 101, 102]⟩ : ByteArray).extract x.toNat (x.toNat + 1) = bs [hexB x] by
          rw [extract_bs, show x.toNat + 1 - x.toNat = 1 by omega, List.take_one, List.head?_drop]
          have := hex_of hx16
          simp only [this]
          rfl)
        have HN := hide (show bs ((114 : UInt8) :: (s.data.toList.take (k + 1)).map hexB) = bs (114 :: (s.data.toList.take k).map hexB) ++ bs [hexB x] by rw [str_add, bs_list, take_next hx]; simp)
        have HB := hide hbw
        have hl1 : (bs (114 :: (s.data.toList.take k).map hexB)).size ≤ 100 := by rw [bs_size]; simp; omega
        have hl2 : (bs [hexB x]).size = 1 := bs_size _
        generalize bs ((114 : UInt8) :: (s.data.toList.take k).map hexB) = L at HN hl1 ⊢
        generalize bs [hexB x] = y at HE HN hl2
        have w8 : IntKind.u8.wrap ((x.toNat : Int) + 1) = (x.toNat : Int) + 1 := wrap8 (by omega) (by omega)
        have esl : ∀ w, (Instr.slice 9 (.string ⟨#[48, 49, 50, 51, 52, 53, 54, 55, 56, 57, 97, 98, 99, 100, 101, 102]⟩) (some (.int .u8 (x.toNat : Int))) (some (.int .u8 ((x.toNat : Int) + 1))) none).run Try.prog w = .ok (.string y) w := fun w => by
          have hz : (⟨#[48, 49, 50, 51, 52, 53, 54, 55, 56, 57, 97, 98, 99, 100, 101, 102]⟩ : ByteArray).size = 16 := rfl
          rw [run_slice_string_if _ _ _ _ _ _ _ Try.underlying9, if_pos ⟨by omega, by rw [hz]; omega⟩, if_pos ⟨by omega, by omega⟩]
          rw [show ((x.toNat : Int) + 1).toNat = x.toNat + 1 by omega, Int.toNat_natCast]
          rw [HE.out]
        have ka : ∀ w, (Op.stringOp .add L y).run Try.prog w = .ok (.string (L ++ y)) w := fun w => run_string_add w L y (by omega) (by omega)
        clear hx hv HE
        go_wp2_with fail
        go_quiet (fail)
        go_wp2
        go_roundw
        case rel => exact ⟨below_drewN HB.out _, k + 1, by omega, by go_num, by rw [HN.out]⟩
        case measure => simp [intOf]; omega
      · have hlt' : ¬ (k : Int) < (s.size : Int) := by omega
        have HN := hide (show (114 : UInt8) :: (s.data.toList.take k).map hexB = textL s.data.toList by
          rw [List.take_of_length_le (by rw [← HS.out]; omega)]; rfl)
        generalize (114 : UInt8) :: (s.data.toList.take k).map hexB = L at HN
        have HB := hide hbw
        clear hbw hszw hv
        go_wp2
        go_ret
        refine ⟨ret_s ?_, HB.out⟩
        rw [HT.out, HN.out]

set_option maxRecDepth 100000 in
set_option maxHeartbeats 1000000 in
theorem alive_any (w : World) : Calls Try.prog 7 #[] w fun e w' => e = .returned (.bool true) ∧ Below w.heap.size w w' := by
  have C1 := fun w => kid_any ⟨#[]⟩ (by decide) 2 w
  have C2 := fun w => text_any (bs [2]) (by decide) w
  have e1 : kidL (⟨#[]⟩ : ByteArray).data.toList 2 = [2] := by decide +kernel
  have e2 : kidOk (⟨#[]⟩ : ByteArray).data.toList 2 = true := by decide +kernel
  have e3 : bs (textOf (bs [2]).data.toList) = ⟨#[114, 50]⟩ := by decide +kernel
  rw [e1, e2] at C1
  rw [e3] at C2
  clear e1 e2 e3
  generalize bs [2] = t at C1 C2
  go_enter Try.func7, Try.ntmps7
  go_wp2_with (go_at_call 10; go_must (with_reducible refine (C1 _).mono ?_; (rintro e w1 ⟨rfl, hb1⟩)))
  go_wp2_with (go_at_call 16; go_must (with_reducible refine (C2 _).mono ?_; (rintro e w2 ⟨rfl, hb2⟩)))
  go_ret
  exact ⟨rfl, chain hb1 hb2⟩
end Go.Proofs.Ytbnefomabbepbaa
