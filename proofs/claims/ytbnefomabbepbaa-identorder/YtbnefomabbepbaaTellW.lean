/- IdentTells answers true: its walk. -/
import Derived.Test.YtbnefomabbepbaaReadR
namespace Go.Proofs.Ytbnefomabbepbaa
open Go.RowKit Go.ChangeShapes Go.WideShapes Go.ChangeAt Go.Deep

theorem unB_hex {c : UInt8} (h : c.toNat < 16) : unhexN (hexB c) < 16 ∧ unB (hexB c) = c := by
  have := unhex_hex ⟨c.toNat, h⟩
  simp at this
  refine ⟨by rw [this]; exact h, ?_⟩
  unfold unB
  rw [this]
  simp
theorem read_text {l : List UInt8} (h : validL l = true) : readOk (textOf l) = true ∧ readL (textOf l) = l := by
  obtain ⟨h1, h2⟩ := valid_iff.1 h
  have e : textOf l = textL l := by unfold textOf; rw [h]; rfl
  rw [e]
  obtain ⟨e1, e2⟩ := read_yes (l := textL l) ⟨rfl, by simp [textL]; omega, fun c hc => by
    simp only [textL, List.drop_one, List.tail_cons] at hc
    obtain ⟨a, ha, rfl⟩ := List.mem_map.1 hc
    exact (unB_hex (h2 a ha)).1⟩
  refine ⟨e1, ?_⟩
  rw [e2]
  simp only [textL, List.drop_one, List.tail_cons, List.map_map]
  conv => rhs; rw [← List.map_id l]
  apply List.map_congr_left
  intro a ha
  exact (unB_hex (h2 a ha)).2

set_option maxRecDepth 100000 in
set_option maxHeartbeats 4000000 in
theorem tells_any (id s : ByteArray) (k : Int) (hid : id.size ≤ maxLen) (w : World) :
    Calls Try.prog 3 #[.string id, .string s, .int .i64 k] w fun e w' => e = .returned (.bool true) ∧ Below w.heap.size w w' := by
  have AL := alive_any w
  by_cases h1 : id.size ≤ 1000
  · have h1' : ¬ (1000 : Int) < (id.size : Int) := by omega
    by_cases h2 : s.size ≤ 1000
    · have h2' : ¬ (1000 : Int) < (s.size : Int) := by omega
      have C8 := fun w => read_any s (by omega) w
      have C9 := fun w => refRead_any s (by omega) w
      have C10 := fun w => kid_any id (by omega) k w
      have C11 := fun w => refKid_any id (by omega) k w
      have C12 := fun w => up_any id (by omega) w
      have C13 := fun w => refUp_any id (by omega) w
      have C14 := fun w => refValid_any id hid w
      have C15 := fun w => valid_any id hid w
      have C16 := fun w => text_any id hid w
      have C17 := fun w => refText_any id hid w
      have hts : (bs (textOf id.data.toList)).size ≤ 1000000 := by
        rw [bs_size]
        unfold textOf
        split
        · rename_i h
          have := (valid_iff.1 h).1
          simp [textL]; omega
        · simp
      have C18 := fun w => read_any (bs (textOf id.data.toList)) hts w
      rw [bs_list] at C18
      have HRT := hide (fun h => read_text (l := id.data.toList) h)
      generalize bs (textOf id.data.toList) = t4 at C16 C17 C18
      generalize bs (readL s.data.toList) = t1 at C8 C9
      generalize readOk s.data.toList = b1 at C8 C9
      generalize bs (kidL id.data.toList k) = t2 at C10 C11
      generalize kidOk id.data.toList k = b2 at C10 C11
      generalize bs (upL id.data.toList) = t3 at C12 C13
      generalize upN id.data.toList = n3 at C12 C13
      generalize upOk id.data.toList = b3 at C12 C13
      have q1 : (t1.toList != t1.toList) = false := by simp
      have q2 : (t2.toList != t2.toList) = false := by simp
      have q3 : (t3.toList != t3.toList) = false := by simp
      have q4 : (t4.toList != t4.toList) = false := by simp
      have q5 : (n3 != n3) = false := by simp
      have q6 : (b1 != b1) = false := by simp
      have q7 : (b2 != b2) = false := by simp
      have q8 : (b3 != b3) = false := by simp
      have q9 : (id.toList == id.toList) = true := by simp
      clear hts
      cases hv : validL id.data.toList with
      | false =>
        rw [hv] at C14 C15
        clear HRT C18
        go_enter Try.func3, Try.ntmps3
        go_wp2_with (first
          | (go_at_call 7; go_must (with_reducible refine AL.mono ?_; (rintro e w1 ⟨rfl, hb1⟩)))
          | (go_at_call 8; go_must (with_reducible refine (C8 _).mono ?_; (rintro e w2 ⟨rfl, hb2⟩)))
          | (go_at_call 9; go_must (with_reducible refine (C9 _).mono ?_; (rintro e w3 ⟨rfl, hb3⟩)))
          | (go_at_call 10; go_must (with_reducible refine (C10 _).mono ?_; (rintro e w4 ⟨rfl, hb4⟩)))
          | (go_at_call 11; go_must (with_reducible refine (C11 _).mono ?_; (rintro e w5 ⟨rfl, hb5⟩)))
          | (go_at_call 12; go_must (with_reducible refine (C12 _).mono ?_; (rintro e w6 ⟨rfl, hb6⟩)))
          | (go_at_call 13; go_must (with_reducible refine (C13 _).mono ?_; (rintro e w7 ⟨rfl, hb7⟩)))
          | (go_at_call 14; go_must (with_reducible refine (C14 _).mono ?_; (rintro e w8 ⟨rfl, hw8⟩); subst hw8))
          | (go_at_call 15; go_must (with_reducible refine (C15 _).mono ?_; (rintro e w9 ⟨rfl, hw9⟩); subst hw9))
          | (go_at_call 16; go_must (with_reducible refine (C16 _).mono ?_; (rintro e w10 ⟨rfl, hb10⟩)))
          | (go_at_call 17; go_must (with_reducible refine (C17 _).mono ?_; (rintro e w11 ⟨rfl, hb11⟩))))
        go_ret
        exact ⟨rfl, chain hb1 (chain hb2 (chain hb3 (chain hb4 (chain hb5 (chain hb6 (chain hb7 (chain hb10 hb11)))))))⟩
      | true =>
        obtain ⟨e1, e2⟩ := HRT.out hv
        rw [e1, e2, bs_self] at C18
        rw [hv] at C14 C15
        clear HRT e1 e2
        go_enter Try.func3, Try.ntmps3
        go_wp2_with (first
          | (go_at_call 7; go_must (with_reducible refine AL.mono ?_; (rintro e w1 ⟨rfl, hb1⟩)))
          | (go_at_call 8; go_must (with_reducible refine (C8 _).mono ?_; (rintro e w2 ⟨rfl, hb2⟩)))
          | (go_at_call 9; go_must (with_reducible refine (C9 _).mono ?_; (rintro e w3 ⟨rfl, hb3⟩)))
          | (go_at_call 10; go_must (with_reducible refine (C10 _).mono ?_; (rintro e w4 ⟨rfl, hb4⟩)))
          | (go_at_call 11; go_must (with_reducible refine (C11 _).mono ?_; (rintro e w5 ⟨rfl, hb5⟩)))
          | (go_at_call 12; go_must (with_reducible refine (C12 _).mono ?_; (rintro e w6 ⟨rfl, hb6⟩)))
          | (go_at_call 13; go_must (with_reducible refine (C13 _).mono ?_; (rintro e w7 ⟨rfl, hb7⟩)))
          | (go_at_call 14; go_must (with_reducible refine (C14 _).mono ?_; (rintro e w8 ⟨rfl, hw8⟩); subst hw8))
          | (go_at_call 15; go_must (with_reducible refine (C15 _).mono ?_; (rintro e w9 ⟨rfl, hw9⟩); subst hw9))
          | (go_at_call 16; go_must (with_reducible refine (C16 _).mono ?_; (rintro e w10 ⟨rfl, hb10⟩)))
          | (go_at_call 17; go_must (with_reducible refine (C17 _).mono ?_; (rintro e w11 ⟨rfl, hb11⟩); refine Hid.out ?_)))
        refine Lib.hid ?_
        go_wp2_with (first
          | (go_at_call 16; go_must (with_reducible refine (C16 _).mono ?_; (rintro e w12 ⟨rfl, hb12⟩)))
          | (go_at_call 8; go_must (with_reducible refine (C18 _).mono ?_; (rintro e w13 ⟨rfl, hb13⟩))))
        go_ret
        exact ⟨rfl, chain hb1 (chain hb2 (chain hb3 (chain hb4 (chain hb5 (chain hb6 (chain hb7 (chain hb10 (chain hb11 (chain hb12 hb13)))))))))⟩
    · have h2' : (1000 : Int) < (s.size : Int) := by omega
      go_enter Try.func3, Try.ntmps3
      go_wp2_with (go_at_call 7; go_must (with_reducible refine AL.mono ?_; (rintro e w1 ⟨rfl, hb1⟩)))
      go_ret
      exact ⟨rfl, hb1⟩
  · have h1' : (1000 : Int) < (id.size : Int) := by omega
    go_enter Try.func3, Try.ntmps3
    go_wp2_with (go_at_call 7; go_must (with_reducible refine AL.mono ?_; (rintro e w1 ⟨rfl, hb1⟩)))
    go_ret
    exact ⟨rfl, hb1⟩
theorem identTells.walk (id s : ByteArray) (k : Int) (W : World) (h1 : id.size ≤ maxLen) (_ : s.size ≤ maxLen) (_ : -9223372036854775808 ≤ k ∧ k ≤ 9223372036854775807) : Calls Try.prog 3 #[.string id, .string s, .int .i64 k] W fun e w' => e = .returned (.bool true) ∧ Below W.heap.size W w' := tells_any id s k h1 W
end Go.Proofs.Ytbnefomabbepbaa
