/- What a kind has; which results and views may be: the program's. -/
import Derived.Test.YtgkpioleipefmaaNoM
namespace Go.Proofs.Ytgkpioleipefmaa
open Go.RowKit Go.ChangeShapes Go.WideShapes Go.ChangeAt Go.Deep

def pV (ps : List Nat) : List Value := ps.map fun (p : Nat) => Value.int .i64 (p : Int)
theorem pV_len (ps : List Nat) : (pV ps).length = ps.length := by simp [pV]
theorem row_new (w : World) (xs : List Value) (t : TypeId) (n : Nat) (hn : n ≤ maxLen) : RowV w.heap.size (w.alloc (.cells xs.toArray t)) (.slice (some ⟨w.heap.size, 0, none⟩) n n) n xs :=
  ⟨_, n, n, rfl, hide rfl, ⟨Nat.le_refl _, hn⟩, (fun h => by cases h), reads_new w xs t, fun ad e => by cases e; exact Nat.le_refl _⟩
theorem below_new (w : World) (o : Obj) : Below w.heap.size w (w.alloc o) := (Below.refl _ _).alloc (Nat.le_refl _) o
def PartsPost (k : Int) (w : World) (e : Ending) (w' : World) : Prop := ∃ v, e = .returned v ∧ RowV w.heap.size w' v (partsL k).length (pV (partsL k)) ∧ Below w.heap.size w w'

set_option maxRecDepth 100000 in
set_option maxHeartbeats 1000000 in
theorem parts_1 (w : World) : Calls Try.prog 23 #[.int .i64 1] w (PartsPost 1 w) := by
  go_enter Try.func23, Try.ntmps23
  go_wp2
  go_ret
  exact ⟨_, rfl, row_new w (pV [0, 1]) 79 2 (by unfold maxLen; omega), below_new w _⟩
set_option maxRecDepth 100000 in
set_option maxHeartbeats 1000000 in
theorem parts_2 (w : World) : Calls Try.prog 23 #[.int .i64 2] w (PartsPost 2 w) := by
  go_enter Try.func23, Try.ntmps23
  go_wp2
  go_ret
  exact ⟨_, rfl, row_new w (pV [7]) 79 1 (by unfold maxLen; omega), below_new w _⟩
set_option maxRecDepth 100000 in
set_option maxHeartbeats 1000000 in
theorem parts_3 (w : World) : Calls Try.prog 23 #[.int .i64 3] w (PartsPost 3 w) := by
  go_enter Try.func23, Try.ntmps23
  go_wp2
  go_ret
  exact ⟨_, rfl, row_new w (pV [2, 0]) 79 2 (by unfold maxLen; omega), below_new w _⟩
set_option maxRecDepth 100000 in
set_option maxHeartbeats 1000000 in
theorem parts_4 (w : World) : Calls Try.prog 23 #[.int .i64 4] w (PartsPost 4 w) := by
  go_enter Try.func23, Try.ntmps23
  go_wp2
  go_ret
  exact ⟨_, rfl, row_new w (pV [2, 1, 3, 4, 5]) 79 5 (by unfold maxLen; omega), below_new w _⟩
set_option maxRecDepth 100000 in
set_option maxHeartbeats 1000000 in
theorem parts_5 (w : World) : Calls Try.prog 23 #[.int .i64 5] w (PartsPost 5 w) := by
  go_enter Try.func23, Try.ntmps23
  go_wp2
  go_ret
  exact ⟨_, rfl, row_new w (pV [2, 1, 0, 3]) 79 4 (by unfold maxLen; omega), below_new w _⟩
set_option maxRecDepth 100000 in
set_option maxHeartbeats 1000000 in
theorem parts_6 (w : World) : Calls Try.prog 23 #[.int .i64 6] w (PartsPost 6 w) := by
  go_enter Try.func23, Try.ntmps23
  go_wp2
  go_ret
  exact ⟨_, rfl, row_new w (pV [2, 1, 0, 3]) 79 4 (by unfold maxLen; omega), below_new w _⟩
set_option maxRecDepth 100000 in
set_option maxHeartbeats 1000000 in
theorem parts_7 (w : World) : Calls Try.prog 23 #[.int .i64 7] w (PartsPost 7 w) := by
  go_enter Try.func23, Try.ntmps23
  go_wp2
  go_ret
  exact ⟨_, rfl, row_new w (pV [2, 0, 3, 6]) 79 4 (by unfold maxLen; omega), below_new w _⟩
set_option maxRecDepth 100000 in
set_option maxHeartbeats 1000000 in
theorem parts_8 (w : World) : Calls Try.prog 23 #[.int .i64 8] w (PartsPost 8 w) := by
  go_enter Try.func23, Try.ntmps23
  go_wp2
  go_ret
  exact ⟨_, rfl, row_new w (pV [3, 6]) 79 2 (by unfold maxLen; omega), below_new w _⟩
set_option maxRecDepth 100000 in
set_option maxHeartbeats 1000000 in
theorem parts_9 (w : World) : Calls Try.prog 23 #[.int .i64 9] w (PartsPost 9 w) := by
  go_enter Try.func23, Try.ntmps23
  go_wp2
  go_ret
  exact ⟨_, rfl, row_new w (pV [0, 3]) 79 2 (by unfold maxLen; omega), below_new w _⟩
set_option maxRecDepth 100000 in
set_option maxHeartbeats 1000000 in
theorem parts_10 (w : World) : Calls Try.prog 23 #[.int .i64 10] w (PartsPost 10 w) := by
  go_enter Try.func23, Try.ntmps23
  go_wp2
  go_ret
  exact ⟨_, rfl, row_new w (pV [2, 0, 3, 4, 5]) 79 5 (by unfold maxLen; omega), below_new w _⟩
set_option maxRecDepth 100000 in
set_option maxHeartbeats 1000000 in
theorem parts_none (k : Int) (w : World) (h : isKind k = false) : Calls Try.prog 23 #[.int .i64 k] w (PartsPost k w) := by
  have h' : ¬ (1 ≤ k ∧ k ≤ 10) := by simpa [isKind] using h
  have HP := hide (parts_no h)
  have q1 : (k == 1) = false := by rw [beq_eq_false_iff_ne]; omega
  have q2 : (k == 2) = false := by rw [beq_eq_false_iff_ne]; omega
  have q3 : (k == 3) = false := by rw [beq_eq_false_iff_ne]; omega
  have q4 : (k == 4) = false := by rw [beq_eq_false_iff_ne]; omega
  have q5 : (k == 5) = false := by rw [beq_eq_false_iff_ne]; omega
  have q6 : (k == 6) = false := by rw [beq_eq_false_iff_ne]; omega
  have q7 : (k == 7) = false := by rw [beq_eq_false_iff_ne]; omega
  have q8 : (k == 8) = false := by rw [beq_eq_false_iff_ne]; omega
  have q9 : (k == 9) = false := by rw [beq_eq_false_iff_ne]; omega
  have q10 : (k == 10) = false := by rw [beq_eq_false_iff_ne]; omega
  clear h h'
  go_enter Try.func23, Try.ntmps23
  go_wp2
  go_ret
  refine ⟨_, rfl, ?_, Below.refl _ _⟩
  rw [HP.out]
  exact RowV.nil _ _

/-- note.parts. -/
theorem parts_any (k : Int) (w : World) : Calls Try.prog 23 #[.int .i64 k] w (PartsPost k w) := by
  by_cases h : isKind k = true
  · rcases kinds h with rfl | rfl | rfl | rfl | rfl | rfl | rfl | rfl | rfl | rfl
    · exact parts_1 w
    · exact parts_2 w
    · exact parts_3 w
    · exact parts_4 w
    · exact parts_5 w
    · exact parts_6 w
    · exact parts_7 w
    · exact parts_8 w
    · exact parts_9 w
    · exact parts_10 w
  · exact parts_none k w (by simpa using h)

/-  note.mayResult. -/
set_option maxRecDepth 100000 in
set_option maxHeartbeats 1000000 in
theorem mayRes_any (e v : Int) (w : World) : Calls Try.prog 36 #[.agg #[.int .i64 e, .int .i64 v]] w fun r w' => r = .returned (.bool (okRes e v)) ∧ Below w.heap.size w w' := by
  by_cases h0 : e = 0
  · subst h0
    have HO := hide (show okRes 0 v = true by simp [okRes])
    go_enter Try.func36, Try.ntmps36
    go_wp2
    go_ret
    exact ⟨by rw [HO.out]; rfl, below_new w _⟩
  · have q0 : (e == 0) = false := by rw [beq_eq_false_iff_ne]; exact h0
    by_cases h25 : e = 25
    · subst h25
      have HO := hide (show okRes 25 v = true by simp [okRes])
      go_enter Try.func36, Try.ntmps36
      go_wp2
      go_ret
      exact ⟨by rw [HO.out]; rfl, below_new w _⟩
    · have q1 : (e == 25) = false := by rw [beq_eq_false_iff_ne]; exact h25
      by_cases h20 : 20 ≤ e
      · by_cases h24 : e < 25
        · by_cases hv : v = 0
          · subst hv
            have HO := hide (show okRes e 0 = true by simp [okRes]; omega)
            clear h0 h25
            go_enter Try.func36, Try.ntmps36
            go_wp2
            go_ret
            exact ⟨by rw [HO.out]; rfl, below_new w _⟩
          · have q2 : (v == 0) = false := by rw [beq_eq_false_iff_ne]; exact hv
            have HO := hide (show okRes e v = false by simp [okRes, h0, h25, hv])
            clear h0 h25 hv
            go_enter Try.func36, Try.ntmps36
            go_wp2
            go_ret
            exact ⟨by rw [HO.out]; rfl, below_new w _⟩
        · have HO := hide (show okRes e v = false by simp [okRes, h0, h25]; omega)
          clear h0 h25
          go_enter Try.func36, Try.ntmps36
          go_wp2
          go_ret
          exact ⟨by rw [HO.out]; rfl, below_new w _⟩
      · have HO := hide (show okRes e v = false by simp [okRes, h0, h25]; omega)
        clear h0 h25
        go_enter Try.func36, Try.ntmps36
        go_wp2
        go_ret
        exact ⟨by rw [HO.out]; rfl, below_new w _⟩

set_option maxRecDepth 100000 in
set_option maxHeartbeats 1000000 in
theorem rres_any (e v : Int) (w : World) : Calls Try.prog 45 #[.agg #[.int .i64 e, .int .i64 v]] w fun r w' => r = .returned (.bool (okRes e v)) ∧ Below w.heap.size w w' := by
  by_cases h0 : e = 0
  · subst h0
    have HO := hide (show okRes 0 v = true by simp [okRes])
    go_enter Try.func45, Try.ntmps45
    go_wp2
    go_ret
    exact ⟨by rw [HO.out]; rfl, below_new w _⟩
  · have q0 : (e == 0) = false := by rw [beq_eq_false_iff_ne]; exact h0
    by_cases h25 : e = 25
    · subst h25
      have HO := hide (show okRes 25 v = true by simp [okRes])
      go_enter Try.func45, Try.ntmps45
      go_wp2
      go_ret
      exact ⟨by rw [HO.out]; rfl, below_new w _⟩
    · have q1 : (e == 25) = false := by rw [beq_eq_false_iff_ne]; exact h25
      by_cases h20 : 20 ≤ e
      · by_cases h24 : e < 25
        · by_cases hv : v = 0
          · subst hv
            have HO := hide (show okRes e 0 = true by simp [okRes]; omega)
            clear h0 h25
            go_enter Try.func45, Try.ntmps45
            go_wp2
            go_ret
            exact ⟨by rw [HO.out]; rfl, below_new w _⟩
          · have q2 : (v == 0) = false := by rw [beq_eq_false_iff_ne]; exact hv
            have HO := hide (show okRes e v = false by simp [okRes, h0, h25, hv])
            clear h0 h25 hv
            go_enter Try.func45, Try.ntmps45
            go_wp2
            go_ret
            exact ⟨by rw [HO.out]; rfl, below_new w _⟩
        · have HO := hide (show okRes e v = false by simp [okRes, h0, h25]; omega)
          clear h0 h25
          go_enter Try.func45, Try.ntmps45
          go_wp2
          go_ret
          exact ⟨by rw [HO.out]; rfl, below_new w _⟩
      · have HO := hide (show okRes e v = false by simp [okRes, h0, h25]; omega)
        clear h0 h25
        go_enter Try.func45, Try.ntmps45
        go_wp2
        go_ret
        exact ⟨by rw [HO.out]; rfl, below_new w _⟩

end Go.Proofs.Ytgkpioleipefmaa
