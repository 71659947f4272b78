/- Next, and what it should be. -/
import Derived.Test.YtnkfdpnommjlcaaGreatDoorRef
import Derived.Deep.QuietTactic
import Derived.BigQuiet
namespace Go.Proofs.YtnkfdpnommjlcaaGreatDoor
open Go.RowKit Go.ChangeShapes Go.WideShapes Go.ChangeAt Go.Deep

/-- Where a task goes on: s is the place behind. -/
def nextL (op n s : Int) : List Int := if op < 1 ∨ 17 < op then [] else if op = 14 then [n] else if op = 15 ∧ n ≠ s then [s, n] else [s]

theorem box0 {w w1 : World} {x y : Value} {t : TypeId} (h : Below (w.alloc (.cells #[x, y] t)).heap.size (w.alloc (.cells #[x, y] t)) w1) : w1.cell? ⟨w.heap.size, 0, none⟩ = some x :=
  keep_cell (by rw [World.cell?_alloc_at _ _ _ _ rfl]; rfl) h
theorem box1 {w w1 : World} {x y : Value} {t : TypeId} (h : Below (w.alloc (.cells #[x, y] t)).heap.size (w.alloc (.cells #[x, y] t)) w1) : w1.cell? ⟨w.heap.size, 1, none⟩ = some y :=
  keep_cell (by rw [World.cell?_alloc_at _ _ _ _ rfl]; rfl) h

/-- A row of numbers of one's own. -/
def Own (w w' : World) (v : Value) (l : List Int) : Prop := w'.ownsRow w.heap.size 3 1 v l.length (iV l) ∧ Below w.heap.size w w'
theorem own_none {w w' : World} (h : Below w.heap.size w w') : Own w w' (.slice none 0 0) [] := ⟨World.ownsRow_nil _ _ _ _, h⟩
theorem own_one {w w1 : World} (h : Below w.heap.size w w1) (x : Int) : Own w (w1.alloc (.cells #[.int .i64 x] 3)) (.slice (some ⟨w1.heap.size, 0, none⟩) 1 1) [x] :=
  ⟨World.ownsRow_lit w1 #[.int .i64 x] 1 h.size (by unfold maxLen; omega) rfl, h.alloc h.size _⟩
theorem own_two {w w1 : World} (h : Below w.heap.size w w1) (x y : Int) : Own w (w1.alloc (.cells #[.int .i64 x, .int .i64 y] 3)) (.slice (some ⟨w1.heap.size, 0, none⟩) 2 2) [x, y] :=
  ⟨World.ownsRow_lit w1 #[.int .i64 x, .int .i64 y] 2 h.size (by unfold maxLen; omega) rfl, h.alloc h.size _⟩

theorem own_one_at {w w1 : World} {g : Nat} (h : Below w.heap.size w w1) (hg : g = w1.heap.size) (x : Int) : Own w (w1.alloc (.cells #[.int .i64 x] 3)) (.slice (some ⟨g, 0, none⟩) 1 1) [x] := by subst hg; exact own_one h x
theorem own_two_at {w w1 : World} {g : Nat} (h : Below w.heap.size w w1) (hg : g = w1.heap.size) (x y : Int) : Own w (w1.alloc (.cells #[.int .i64 x, .int .i64 y] 3)) (.slice (some ⟨g, 0, none⟩) 2 2) [x, y] := by subst hg; exact own_two h x y
theorem below_drewN {B : Nat} {a w : World} (h : Below B a w) (n : Nat) : Below B a (w.drewN n) := by
  induction n with
  | zero => exact h
  | succ n ih => exact ih.drew
theorem word_yes (op : Int) (h : 1 ≤ op ∧ op ≤ 19) : (kindOf op).word.toList.isEmpty = false :=
  kind_fin (p := fun op k => 1 ≤ op ∧ op ≤ 19 → k.word.toList.isEmpty = false) op (by decide +kernel) (fun h0 h1 => absurd h1 h0) h

set_option maxRecDepth 100000 in
set_option maxHeartbeats 1000000 in
theorem next_any (op n p : Int) (w : World) (hT : Tab w) : Calls Tryz.prog 91 #[.agg #[.int .i64 op, .int .i64 n], .int .i64 p] w fun e w' => ∃ v, e = .returned v ∧ Own w w' v (nextL op n (wrap64 (p + 1))) := by
  have hb : Below w.heap.size w (w.alloc (.cells #[.int .i64 op, .int .i64 n] 55)) := (Below.refl _ _).alloc (Nat.le_refl _) _
  have C := name_any op (w.alloc (.cells #[.int .i64 op, .int .i64 n] 55)) (hT.below hb)
  by_cases h : 1 ≤ op ∧ op ≤ 19
  · have hw := word_yes op h
    generalize (kindOf op).word = k at C hw
    by_cases h18 : 17 < op
    · rw [show nextL op n (wrap64 (p + 1)) = [] from if_pos (.inr h18)]
      obtain rfl | rfl : op = 18 ∨ op = 19 := by omega
      all_goals
        go_enter Tryz.func91, Tryz.ntmps91
        go_wp2_with (go_at_call 99; go_must (refine C.mono ?_; rintro e w1 ⟨rfl, hb1⟩; have hi0 := box0 hb1; have hi1 := box1 hb1; have hbl := below_box hb1; have hsz := hbl.size))
        go_ret
        exact ⟨_, rfl, own_none hbl⟩
    · by_cases h14 : op = 14
      · subst h14
        rw [show nextL 14 n (wrap64 (p + 1)) = [n] from rfl]
        go_enter Tryz.func91, Tryz.ntmps91
        go_wp2_with (go_at_call 99; go_must (refine C.mono ?_; rintro e w1 ⟨rfl, hb1⟩; have hi0 := box0 hb1; have hi1 := box1 hb1; have hbl := below_box hb1; have hsz := hbl.size))
        go_ret
        exact ⟨_, rfl, own_one hbl _⟩
      · by_cases h15 : op = 15
        · subst h15
          by_cases hn : n = wrap64 (p + 1)
          · rw [show nextL 15 n (wrap64 (p + 1)) = [wrap64 (p + 1)] from by simp [nextL, hn]]
            have hd : (n != wrap64 (p + 1)) = false := by simp [hn]
            clear hn
            go_enter Tryz.func91, Tryz.ntmps91
            go_wp2_with (go_at_call 99; go_must (refine C.mono ?_; rintro e w1 ⟨rfl, hb1⟩; have hi0 := box0 hb1; have hi1 := box1 hb1; have hbl := below_box hb1; have hsz := hbl.size))
            go_ret
            exact ⟨_, rfl, own_one hbl _⟩
          · rw [show nextL 15 n (wrap64 (p + 1)) = [wrap64 (p + 1), n] from by simp [nextL, hn]]
            have hd : (n != wrap64 (p + 1)) = true := by simp [hn]
            clear hn
            go_enter Tryz.func91, Tryz.ntmps91
            go_wp2_with (go_at_call 99; go_must (refine C.mono ?_; rintro e w1 ⟨rfl, hb1⟩; have hi0 := box0 hb1; have hi1 := box1 hb1; have hbl := below_box hb1; have hsz := hbl.size))
            go_ret
            exact ⟨_, rfl, own_two hbl _ _⟩
        · rw [show nextL op n (wrap64 (p + 1)) = [wrap64 (p + 1)] from by unfold nextL; rw [if_neg (by omega), if_neg h14, if_neg (by omega)]]
          go_enter Tryz.func91, Tryz.ntmps91
          go_wp2_with (go_at_call 99; go_must (refine C.mono ?_; rintro e w1 ⟨rfl, hb1⟩; have hi0 := box0 hb1; have hi1 := box1 hb1; have hbl := below_box hb1; have hsz := hbl.size))
          go_ret
          exact ⟨_, rfl, own_one hbl _⟩
  · rw [kind_no h] at C
    have hk : noKind.word.toList.isEmpty = true := by decide +kernel
    rw [show nextL op n (wrap64 (p + 1)) = [] from if_pos (by omega)]
    generalize noKind.word = k at C hk
    go_enter Tryz.func91, Tryz.ntmps91
    go_wp2_with (go_at_call 99; go_must (refine C.mono ?_; rintro e w1 ⟨rfl, hb1⟩; have hi0 := box0 hb1; have hi1 := box1 hb1; have hbl := below_box hb1; have hsz := hbl.size))
    go_ret
    exact ⟨_, rfl, own_none hbl⟩

set_option maxRecDepth 100000 in
set_option maxHeartbeats 1000000 in
theorem refNext_any (op n p : Int) (w : World) : Calls Tryz.prog 56 #[.agg #[.int .i64 op, .int .i64 n], .int .i64 p] w fun e w' => ∃ v, e = .returned v ∧ Own w w' v (nextL op n (wrap64 (p + 1))) := by
  have hbl : Below w.heap.size w (w.alloc (.cells #[.int .i64 op, .int .i64 n] 55)) := (Below.refl _ _).alloc (Nat.le_refl _) _
  by_cases h : op < 1
  · rw [show nextL op n (wrap64 (p + 1)) = [] from if_pos (.inl h)]
    go_enter Tryz.func56, Tryz.ntmps56
    go_wp2
    go_ret
    exact ⟨_, rfl, own_none hbl⟩
  · by_cases h17 : 17 < op
    · rw [show nextL op n (wrap64 (p + 1)) = [] from if_pos (.inr h17)]
      go_enter Tryz.func56, Tryz.ntmps56
      go_wp2
      go_ret
      exact ⟨_, rfl, own_none hbl⟩
    · by_cases h14 : op = 14
      · subst h14
        rw [show nextL 14 n (wrap64 (p + 1)) = [n] from rfl]
        go_enter Tryz.func56, Tryz.ntmps56
        go_wp2
        go_ret
        exact ⟨_, rfl, own_one_at hbl (by simp) _⟩
      · by_cases h15 : op = 15
        · subst h15
          by_cases hn : n = wrap64 (p + 1)
          · rw [show nextL 15 n (wrap64 (p + 1)) = [wrap64 (p + 1)] from by simp [nextL, hn]]
            have hd : (n != wrap64 (p + 1)) = false := by simp [hn]
            clear hn
            go_enter Tryz.func56, Tryz.ntmps56
            go_wp2
            go_ret
            exact ⟨_, rfl, own_one_at hbl (by simp) _⟩
          · rw [show nextL 15 n (wrap64 (p + 1)) = [wrap64 (p + 1), n] from by simp [nextL, hn]]
            have hd : (n != wrap64 (p + 1)) = true := by simp [hn]
            clear hn
            go_enter Tryz.func56, Tryz.ntmps56
            go_wp2
            go_ret
            exact ⟨_, rfl, own_two_at hbl (by simp) _ _⟩
        · rw [show nextL op n (wrap64 (p + 1)) = [wrap64 (p + 1)] from by unfold nextL; rw [if_neg (by omega), if_neg h14, if_neg (by omega)]]
          go_enter Tryz.func56, Tryz.ntmps56
          go_wp2
          go_ret
          exact ⟨_, rfl, own_one_at hbl (by simp) _⟩

set_option maxRecDepth 100000 in
set_option maxHeartbeats 1000000 in
theorem same_any (a1 a2 : Option Addr) (c1 c2 l1 l2 : Nat) (x y : List Int) (w : World) (h1 : x.length = l1) (h2 : y.length = l2) (r1 : Reads w a1 (iV x)) (r2 : Reads w a2 (iV y)) (hm : l1 ≤ 9223372036854775807) (hm2 : l2 ≤ 9223372036854775807) :
    Calls Tryz.prog 34 #[.slice a1 l1 c1, .slice a2 l2 c2] w fun e w' => e = .returned (.bool (decide (x = y))) ∧ Below w.heap.size w w' := by
  by_cases hl : l1 = l2
  · subst hl
    go_enter Tryz.func34, Tryz.ntmps34
    go_wp2
    go_loopw [5] (fun i wr => Below w.heap.size w wr ∧ ∃ k : Nat, k ≤ l1 ∧ i = .int .i64 (k : Nat) ∧ Hid (x.take k = y.take k)) (fun i _ => l1 - (intOf i).toNat)
    case atStart => exact ⟨Below.refl _ _, 0, Nat.zero_le _, rfl, rfl⟩
    case round =>
      obtain ⟨hbw, k, hk, rfl, ht⟩ := hrel
      by_cases hlt : k < l1
      · obtain ⟨b1, o1, rfl, q1⟩ := reads_at (r1.below hbw) (show k < x.length by omega)
        obtain ⟨b2, o2, rfl, q2⟩ := reads_at (r2.below hbw) (show k < y.length by omega)
        have d1 := q1.out k (.int .i64 (x[k]'(by omega))) (by simp [iV, show k < x.length by omega])
        have d2 := q2.out k (.int .i64 (y[k]'(by omega))) (by simp [iV, show k < y.length by omega])
        have e1 := hide (List.take_succ_eq_append_getElem (show k < x.length by omega))
        have e2 := hide (List.take_succ_eq_append_getElem (show k < y.length by omega))
        clear q1 q2
        generalize x[k]'(by omega) = u1 at d1 e1
        generalize y[k]'(by omega) = u2 at d2 e2
        have hki : (k : Int) < (l1 : Int) := by omega
        by_cases hu : u1 = u2
        · have hd : (u1 != u2) = false := by simp [hu]
          have HT := hide (show x.take (k + 1) = y.take (k + 1) by rw [e1.out, e2.out, ht.out, hu])
          clear hu e1 e2 ht
          go_wp2
          go_quiet (fail)
          go_wp2
          go_roundw
          case rel => exact ⟨below_drewN hbw _, k + 1, by omega, by go_num, HT⟩
          case measure => simp [intOf]; omega
        · have hd : (u1 != u2) = true := by simp [hu]
          have HN := hide (show ¬ x = y from fun h => hu (by
            have := e1.out
            rw [h, e2.out] at this
            simpa using (List.append_inj' this rfl).2.symm))
          clear hu e1 e2 ht
          go_wp2
          go_quiet (fail)
          go_wp2
          go_ret
          exact ⟨ret_b (by simp [HN.out]), below_drewN hbw _⟩
      · have hx : x = y := by
          have := ht.out
          rwa [List.take_of_length_le (by omega), List.take_of_length_le (by omega)] at this
        have HX := hide hx
        clear hx
        go_wp2
        go_ret
        exact ⟨ret_b (by simp [HX.out]), hbw⟩
  · have e : decide (x = y) = false := decide_eq_false (fun h => hl (by rw [← h1, ← h2, h]))
    rw [e]
    go_enter Tryz.func34, Tryz.ntmps34
    go_wp2
    go_ret
    exact ⟨rfl, Below.refl _ _⟩
end Go.Proofs.YtnkfdpnommjlcaaGreatDoor
