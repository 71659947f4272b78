/- AsmWrong's walk, index by index. -/
import Derived.Test.YtfnloomcianbiabDoorWrongs
import Derived.Test.YtfnloomcianbiabDoorAlive
namespace Go.Proofs.YtfnloomcianbiabDoor
open Go.RowKit Go.ChangeShapes Go.WideShapes Go.ChangeAt Go.Deep

theorem wrong_step {w1 : World} {X : Obj} {cs : Array Value} {t : TypeId} {args : Array Value} {Q : Ending → World → Prop} (h : ∀ w2, w2.heap[w1.heap.size + 1]? = some (.cells cs t (0, 0)) → Below w1.heap.size w1 w2 → Calls Tryd.prog 5 args w2 Q) : Calls Tryd.prog 5 args ((w1.alloc X).alloc (.cells cs t)) Q := by
  refine h _ ?_ (((Below.refl _ _).alloc (Nat.le_refl _) _).alloc (by simp) _)
  have := heap_alloc_new (w1.alloc X) (.cells cs t)
  simpa using this

set_option maxRecDepth 100000 in
set_option maxHeartbeats 1000000 in
theorem wrong_at0 (w : World) (hE : Env w) : Calls Tryd.prog 3 #[.int .i64 0] w fun e w' => e = .returned (.bool true) ∧ Below w.heap.size w w' := by
  have AL := alive_any w hE
  have R := fun w hE => read_no (s := ⟨#[]⟩) (by decide) wrong0 w hE
  go_enter Tryd.func3, Tryd.ntmps3
  go_wp2_with (first
    | (go_at_call 4; go_must (refine AL.mono ?_; rintro e w1 ⟨rfl, hb1⟩))
    | (go_at_call 5; refine Hid.out ?_))
  refine Lib.hid ?_
  clear AL
  refine wrong_step fun w2 hc hb2 => ?_
  have hE2 := (hE.below hb1).below hb2
  refine (R w2 hE2).mono ?_
  rintro e w3 ⟨rfl, hb3⟩
  have hc3 := (hb3.block _ (lt_row hc)).trans hc
  have c0 := cell_row (i := 0) hc3 rfl
  have hcl := lt_row hc3
  have hbe : Below w.heap.size w w3 := (hb1.trans (hb2.mono hb1.size)).trans (hb3.mono (Nat.le_trans hb1.size hb2.size))
  clear R hc hc3
  go_wp2_with (go_at_call 6; go_must (refine (num_any _ _).mono ?_; rintro e wz ⟨rfl, hwz⟩; replace hwz := hwz.symm; subst hwz))
  go_ret
  exact ⟨rfl, hbe.trans ((alloc_below w3 _).mono hbe.size)⟩

set_option maxRecDepth 100000 in
set_option maxHeartbeats 1000000 in
theorem wrong_at1 (w : World) (hE : Env w) : Calls Tryd.prog 3 #[.int .i64 1] w fun e w' => e = .returned (.bool true) ∧ Below w.heap.size w w' := by
  have AL := alive_any w hE
  have R := fun w hE => read_no (s := ⟨#[106, 111, 98, 32, 49, 10]⟩) (by decide) wrong1 w hE
  go_enter Tryd.func3, Tryd.ntmps3
  go_wp2_with (first
    | (go_at_call 4; go_must (refine AL.mono ?_; rintro e w1 ⟨rfl, hb1⟩))
    | (go_at_call 5; refine Hid.out ?_))
  refine Lib.hid ?_
  clear AL
  refine wrong_step fun w2 hc hb2 => ?_
  have hE2 := (hE.below hb1).below hb2
  refine (R w2 hE2).mono ?_
  rintro e w3 ⟨rfl, hb3⟩
  have hc3 := (hb3.block _ (lt_row hc)).trans hc
  have c0 := cell_row (i := 1) hc3 rfl
  have hcl := lt_row hc3
  have hbe : Below w.heap.size w w3 := (hb1.trans (hb2.mono hb1.size)).trans (hb3.mono (Nat.le_trans hb1.size hb2.size))
  clear R hc hc3
  go_wp2_with (go_at_call 6; go_must (refine (num_any _ _).mono ?_; rintro e wz ⟨rfl, hwz⟩; replace hwz := hwz.symm; subst hwz))
  go_ret
  exact ⟨rfl, hbe.trans ((alloc_below w3 _).mono hbe.size)⟩

set_option maxRecDepth 100000 in
set_option maxHeartbeats 1000000 in
theorem wrong_at2 (w : World) (hE : Env w) : Calls Tryd.prog 3 #[.int .i64 2] w fun e w' => e = .returned (.bool true) ∧ Below w.heap.size w w' := by
  have AL := alive_any w hE
  have R := fun w hE => read_no (s := ⟨#[106, 111, 98, 32, 49, 32, 48, 49, 10]⟩) (by decide) wrong2 w hE
  go_enter Tryd.func3, Tryd.ntmps3
  go_wp2_with (first
    | (go_at_call 4; go_must (refine AL.mono ?_; rintro e w1 ⟨rfl, hb1⟩))
    | (go_at_call 5; refine Hid.out ?_))
  refine Lib.hid ?_
  clear AL
  refine wrong_step fun w2 hc hb2 => ?_
  have hE2 := (hE.below hb1).below hb2
  refine (R w2 hE2).mono ?_
  rintro e w3 ⟨rfl, hb3⟩
  have hc3 := (hb3.block _ (lt_row hc)).trans hc
  have c0 := cell_row (i := 2) hc3 rfl
  have hcl := lt_row hc3
  have hbe : Below w.heap.size w w3 := (hb1.trans (hb2.mono hb1.size)).trans (hb3.mono (Nat.le_trans hb1.size hb2.size))
  clear R hc hc3
  go_wp2_with (go_at_call 6; go_must (refine (num_any _ _).mono ?_; rintro e wz ⟨rfl, hwz⟩; replace hwz := hwz.symm; subst hwz))
  go_ret
  exact ⟨rfl, hbe.trans ((alloc_below w3 _).mono hbe.size)⟩

set_option maxRecDepth 100000 in
set_option maxHeartbeats 1000000 in
theorem wrong_at3 (w : World) (hE : Env w) : Calls Tryd.prog 3 #[.int .i64 3] w fun e w' => e = .returned (.bool true) ∧ Below w.heap.size w w' := by
  have AL := alive_any w hE
  have R := fun w hE => read_no (s := ⟨#[106, 111, 98, 32, 49, 32, 49, 10, 109, 97, 105, 110, 10]⟩) (by decide) wrong3 w hE
  go_enter Tryd.func3, Tryd.ntmps3
  go_wp2_with (first
    | (go_at_call 4; go_must (refine AL.mono ?_; rintro e w1 ⟨rfl, hb1⟩))
    | (go_at_call 5; refine Hid.out ?_))
  refine Lib.hid ?_
  clear AL
  refine wrong_step fun w2 hc hb2 => ?_
  have hE2 := (hE.below hb1).below hb2
  refine (R w2 hE2).mono ?_
  rintro e w3 ⟨rfl, hb3⟩
  have hc3 := (hb3.block _ (lt_row hc)).trans hc
  have c0 := cell_row (i := 3) hc3 rfl
  have hcl := lt_row hc3
  have hbe : Below w.heap.size w w3 := (hb1.trans (hb2.mono hb1.size)).trans (hb3.mono (Nat.le_trans hb1.size hb2.size))
  clear R hc hc3
  go_wp2_with (go_at_call 6; go_must (refine (num_any _ _).mono ?_; rintro e wz ⟨rfl, hwz⟩; replace hwz := hwz.symm; subst hwz))
  go_ret
  exact ⟨rfl, hbe.trans ((alloc_below w3 _).mono hbe.size)⟩

set_option maxRecDepth 100000 in
set_option maxHeartbeats 1000000 in
theorem wrong_at4 (w : World) (hE : Env w) : Calls Tryd.prog 3 #[.int .i64 4] w fun e w' => e = .returned (.bool true) ∧ Below w.heap.size w w' := by
  have AL := alive_any w hE
  have R := fun w hE => read_no (s := ⟨#[106, 111, 98, 32, 49, 32, 49, 10, 109, 97, 105, 110, 32, 70, 10]⟩) (by decide) wrong4 w hE
  go_enter Tryd.func3, Tryd.ntmps3
  go_wp2_with (first
    | (go_at_call 4; go_must (refine AL.mono ?_; rintro e w1 ⟨rfl, hb1⟩))
    | (go_at_call 5; refine Hid.out ?_))
  refine Lib.hid ?_
  clear AL
  refine wrong_step fun w2 hc hb2 => ?_
  have hE2 := (hE.below hb1).below hb2
  refine (R w2 hE2).mono ?_
  rintro e w3 ⟨rfl, hb3⟩
  have hc3 := (hb3.block _ (lt_row hc)).trans hc
  have c0 := cell_row (i := 4) hc3 rfl
  have hcl := lt_row hc3
  have hbe : Below w.heap.size w w3 := (hb1.trans (hb2.mono hb1.size)).trans (hb3.mono (Nat.le_trans hb1.size hb2.size))
  clear R hc hc3
  go_wp2_with (go_at_call 6; go_must (refine (num_any _ _).mono ?_; rintro e wz ⟨rfl, hwz⟩; replace hwz := hwz.symm; subst hwz))
  go_ret
  exact ⟨rfl, hbe.trans ((alloc_below w3 _).mono hbe.size)⟩

set_option maxRecDepth 100000 in
set_option maxHeartbeats 1000000 in
theorem wrong_at5 (w : World) (hE : Env w) : Calls Tryd.prog 3 #[.int .i64 5] w fun e w' => e = .returned (.bool true) ∧ Below w.heap.size w w' := by
  have AL := alive_any w hE
  have R := fun w hE => read_no (s := ⟨#[106, 111, 98, 32, 49, 32, 49, 10, 109, 97, 105, 110, 32, 102, 32, 45, 48, 10]⟩) (by decide) wrong5 w hE
  go_enter Tryd.func3, Tryd.ntmps3
  go_wp2_with (first
    | (go_at_call 4; go_must (refine AL.mono ?_; rintro e w1 ⟨rfl, hb1⟩))
    | (go_at_call 5; refine Hid.out ?_))
  refine Lib.hid ?_
  clear AL
  refine wrong_step fun w2 hc hb2 => ?_
  have hE2 := (hE.below hb1).below hb2
  refine (R w2 hE2).mono ?_
  rintro e w3 ⟨rfl, hb3⟩
  have hc3 := (hb3.block _ (lt_row hc)).trans hc
  have c0 := cell_row (i := 5) hc3 rfl
  have hcl := lt_row hc3
  have hbe : Below w.heap.size w w3 := (hb1.trans (hb2.mono hb1.size)).trans (hb3.mono (Nat.le_trans hb1.size hb2.size))
  clear R hc hc3
  go_wp2_with (go_at_call 6; go_must (refine (num_any _ _).mono ?_; rintro e wz ⟨rfl, hwz⟩; replace hwz := hwz.symm; subst hwz))
  go_ret
  exact ⟨rfl, hbe.trans ((alloc_below w3 _).mono hbe.size)⟩

set_option maxRecDepth 100000 in
set_option maxHeartbeats 1000000 in
theorem wrong_at6 (w : World) (hE : Env w) : Calls Tryd.prog 3 #[.int .i64 6] w fun e w' => e = .returned (.bool true) ∧ Below w.heap.size w w' := by
  have AL := alive_any w hE
  have R := fun w hE => read_no (s := ⟨#[106, 111, 98, 32, 49, 32, 49, 10, 109, 97, 105, 110, 32, 102, 10]⟩) (by decide) wrong6 w hE
  go_enter Tryd.func3, Tryd.ntmps3
  go_wp2_with (first
    | (go_at_call 4; go_must (refine AL.mono ?_; rintro e w1 ⟨rfl, hb1⟩))
    | (go_at_call 5; refine Hid.out ?_))
  refine Lib.hid ?_
  clear AL
  refine wrong_step fun w2 hc hb2 => ?_
  have hE2 := (hE.below hb1).below hb2
  refine (R w2 hE2).mono ?_
  rintro e w3 ⟨rfl, hb3⟩
  have hc3 := (hb3.block _ (lt_row hc)).trans hc
  have c0 := cell_row (i := 6) hc3 rfl
  have hcl := lt_row hc3
  have hbe : Below w.heap.size w w3 := (hb1.trans (hb2.mono hb1.size)).trans (hb3.mono (Nat.le_trans hb1.size hb2.size))
  clear R hc hc3
  go_wp2_with (go_at_call 6; go_must (refine (num_any _ _).mono ?_; rintro e wz ⟨rfl, hwz⟩; replace hwz := hwz.symm; subst hwz))
  go_ret
  exact ⟨rfl, hbe.trans ((alloc_below w3 _).mono hbe.size)⟩

set_option maxRecDepth 100000 in
set_option maxHeartbeats 1000000 in
theorem wrong_at7 (w : World) (hE : Env w) : Calls Tryd.prog 3 #[.int .i64 7] w fun e w' => e = .returned (.bool true) ∧ Below w.heap.size w w' := by
  have AL := alive_any w hE
  have R := fun w hE => read_no (s := ⟨#[106, 111, 98, 32, 49, 32, 49, 10, 109, 97, 105, 110, 32, 102, 10, 101, 110, 100, 10]⟩) (by decide) wrong7 w hE
  go_enter Tryd.func3, Tryd.ntmps3
  go_wp2_with (first
    | (go_at_call 4; go_must (refine AL.mono ?_; rintro e w1 ⟨rfl, hb1⟩))
    | (go_at_call 5; refine Hid.out ?_))
  refine Lib.hid ?_
  clear AL
  refine wrong_step fun w2 hc hb2 => ?_
  have hE2 := (hE.below hb1).below hb2
  refine (R w2 hE2).mono ?_
  rintro e w3 ⟨rfl, hb3⟩
  have hc3 := (hb3.block _ (lt_row hc)).trans hc
  have c0 := cell_row (i := 7) hc3 rfl
  have hcl := lt_row hc3
  have hbe : Below w.heap.size w w3 := (hb1.trans (hb2.mono hb1.size)).trans (hb3.mono (Nat.le_trans hb1.size hb2.size))
  clear R hc hc3
  go_wp2_with (go_at_call 6; go_must (refine (num_any _ _).mono ?_; rintro e wz ⟨rfl, hwz⟩; replace hwz := hwz.symm; subst hwz))
  go_ret
  exact ⟨rfl, hbe.trans ((alloc_below w3 _).mono hbe.size)⟩

set_option maxRecDepth 100000 in
set_option maxHeartbeats 1000000 in
theorem wrong_at8 (w : World) (hE : Env w) : Calls Tryd.prog 3 #[.int .i64 8] w fun e w' => e = .returned (.bool true) ∧ Below w.heap.size w w' := by
  have AL := alive_any w hE
  have R := fun w hE => read_no (s := ⟨#[106, 111, 98, 32, 49, 32, 49, 10, 109, 97, 105, 110, 32, 102, 10, 32, 32, 112, 111, 112, 10, 101, 110, 100, 10]⟩) (by decide) wrong8 w hE
  go_enter Tryd.func3, Tryd.ntmps3
  go_wp2_with (first
    | (go_at_call 4; go_must (refine AL.mono ?_; rintro e w1 ⟨rfl, hb1⟩))
    | (go_at_call 5; refine Hid.out ?_))
  refine Lib.hid ?_
  clear AL
  refine wrong_step fun w2 hc hb2 => ?_
  have hE2 := (hE.below hb1).below hb2
  refine (R w2 hE2).mono ?_
  rintro e w3 ⟨rfl, hb3⟩
  have hc3 := (hb3.block _ (lt_row hc)).trans hc
  have c0 := cell_row (i := 8) hc3 rfl
  have hcl := lt_row hc3
  have hbe : Below w.heap.size w w3 := (hb1.trans (hb2.mono hb1.size)).trans (hb3.mono (Nat.le_trans hb1.size hb2.size))
  clear R hc hc3
  go_wp2_with (go_at_call 6; go_must (refine (num_any _ _).mono ?_; rintro e wz ⟨rfl, hwz⟩; replace hwz := hwz.symm; subst hwz))
  go_ret
  exact ⟨rfl, hbe.trans ((alloc_below w3 _).mono hbe.size)⟩

set_option maxRecDepth 100000 in
set_option maxHeartbeats 1000000 in
theorem wrong_at9 (w : World) (hE : Env w) : Calls Tryd.prog 3 #[.int .i64 9] w fun e w' => e = .returned (.bool true) ∧ Below w.heap.size w w' := by
  have AL := alive_any w hE
  have R := fun w hE => read_no (s := ⟨#[106, 111, 98, 32, 49, 32, 49, 10, 109, 97, 105, 110, 32, 102, 10, 102, 117, 110, 99, 32, 102, 32, 48, 10, 101, 110, 100, 10]⟩) (by decide) wrong9 w hE
  go_enter Tryd.func3, Tryd.ntmps3
  go_wp2_with (first
    | (go_at_call 4; go_must (refine AL.mono ?_; rintro e w1 ⟨rfl, hb1⟩))
    | (go_at_call 5; refine Hid.out ?_))
  refine Lib.hid ?_
  clear AL
  refine wrong_step fun w2 hc hb2 => ?_
  have hE2 := (hE.below hb1).below hb2
  refine (R w2 hE2).mono ?_
  rintro e w3 ⟨rfl, hb3⟩
  have hc3 := (hb3.block _ (lt_row hc)).trans hc
  have c0 := cell_row (i := 9) hc3 rfl
  have hcl := lt_row hc3
  have hbe : Below w.heap.size w w3 := (hb1.trans (hb2.mono hb1.size)).trans (hb3.mono (Nat.le_trans hb1.size hb2.size))
  clear R hc hc3
  go_wp2_with (go_at_call 6; go_must (refine (num_any _ _).mono ?_; rintro e wz ⟨rfl, hwz⟩; replace hwz := hwz.symm; subst hwz))
  go_ret
  exact ⟨rfl, hbe.trans ((alloc_below w3 _).mono hbe.size)⟩

set_option maxRecDepth 100000 in
set_option maxHeartbeats 1000000 in
theorem wrong_at10 (w : World) (hE : Env w) : Calls Tryd.prog 3 #[.int .i64 10] w fun e w' => e = .returned (.bool true) ∧ Below w.heap.size w w' := by
  have AL := alive_any w hE
  have R := fun w hE => read_no (s := ⟨#[106, 111, 98, 32, 49, 32, 49, 10, 109, 97, 105, 110, 32, 102, 10, 102, 117, 110, 99, 32, 102, 32, 48, 32, 48, 10, 32, 112, 111, 112, 10, 101, 110, 100, 10]⟩) (by decide) wrong10 w hE
  go_enter Tryd.func3, Tryd.ntmps3
  go_wp2_with (first
    | (go_at_call 4; go_must (refine AL.mono ?_; rintro e w1 ⟨rfl, hb1⟩))
    | (go_at_call 5; refine Hid.out ?_))
  refine Lib.hid ?_
  clear AL
  refine wrong_step fun w2 hc hb2 => ?_
  have hE2 := (hE.below hb1).below hb2
  refine (R w2 hE2).mono ?_
  rintro e w3 ⟨rfl, hb3⟩
  have hc3 := (hb3.block _ (lt_row hc)).trans hc
  have c0 := cell_row (i := 10) hc3 rfl
  have hcl := lt_row hc3
  have hbe : Below w.heap.size w w3 := (hb1.trans (hb2.mono hb1.size)).trans (hb3.mono (Nat.le_trans hb1.size hb2.size))
  clear R hc hc3
  go_wp2_with (go_at_call 6; go_must (refine (num_any _ _).mono ?_; rintro e wz ⟨rfl, hwz⟩; replace hwz := hwz.symm; subst hwz))
  go_ret
  exact ⟨rfl, hbe.trans ((alloc_below w3 _).mono hbe.size)⟩

set_option maxRecDepth 100000 in
set_option maxHeartbeats 1000000 in
theorem wrong_at11 (w : World) (hE : Env w) : Calls Tryd.prog 3 #[.int .i64 11] w fun e w' => e = .returned (.bool true) ∧ Below w.heap.size w w' := by
  have AL := alive_any w hE
  have R := fun w hE => read_no (s := ⟨#[106, 111, 98, 32, 49, 32, 49, 10, 109, 97, 105, 110, 32, 102, 10, 102, 117, 110, 99, 32, 102, 32, 48, 32, 48, 10, 32, 32, 112, 111, 112, 32, 49, 10, 101, 110, 100, 10]⟩) (by decide) wrong11 w hE
  go_enter Tryd.func3, Tryd.ntmps3
  go_wp2_with (first
    | (go_at_call 4; go_must (refine AL.mono ?_; rintro e w1 ⟨rfl, hb1⟩))
    | (go_at_call 5; refine Hid.out ?_))
  refine Lib.hid ?_
  clear AL
  refine wrong_step fun w2 hc hb2 => ?_
  have hE2 := (hE.below hb1).below hb2
  refine (R w2 hE2).mono ?_
  rintro e w3 ⟨rfl, hb3⟩
  have hc3 := (hb3.block _ (lt_row hc)).trans hc
  have c0 := cell_row (i := 11) hc3 rfl
  have hcl := lt_row hc3
  have hbe : Below w.heap.size w w3 := (hb1.trans (hb2.mono hb1.size)).trans (hb3.mono (Nat.le_trans hb1.size hb2.size))
  clear R hc hc3
  go_wp2_with (go_at_call 6; go_must (refine (num_any _ _).mono ?_; rintro e wz ⟨rfl, hwz⟩; replace hwz := hwz.symm; subst hwz))
  go_ret
  exact ⟨rfl, hbe.trans ((alloc_below w3 _).mono hbe.size)⟩

set_option maxRecDepth 100000 in
set_option maxHeartbeats 1000000 in
theorem wrong_at12 (w : World) (hE : Env w) : Calls Tryd.prog 3 #[.int .i64 12] w fun e w' => e = .returned (.bool true) ∧ Below w.heap.size w w' := by
  have AL := alive_any w hE
  have R := fun w hE => read_no (s := ⟨#[106, 111, 98, 32, 49, 32, 49, 10, 109, 97, 105, 110, 32, 102, 10, 102, 117, 110, 99, 32, 102, 32, 48, 32, 48, 10, 32, 32, 112, 117, 115, 104, 10, 101, 110, 100, 10]⟩) (by decide) wrong12 w hE
  go_enter Tryd.func3, Tryd.ntmps3
  go_wp2_with (first
    | (go_at_call 4; go_must (refine AL.mono ?_; rintro e w1 ⟨rfl, hb1⟩))
    | (go_at_call 5; refine Hid.out ?_))
  refine Lib.hid ?_
  clear AL
  refine wrong_step fun w2 hc hb2 => ?_
  have hE2 := (hE.below hb1).below hb2
  refine (R w2 hE2).mono ?_
  rintro e w3 ⟨rfl, hb3⟩
  have hc3 := (hb3.block _ (lt_row hc)).trans hc
  have c0 := cell_row (i := 12) hc3 rfl
  have hcl := lt_row hc3
  have hbe : Below w.heap.size w w3 := (hb1.trans (hb2.mono hb1.size)).trans (hb3.mono (Nat.le_trans hb1.size hb2.size))
  clear R hc hc3
  go_wp2_with (go_at_call 6; go_must (refine (num_any _ _).mono ?_; rintro e wz ⟨rfl, hwz⟩; replace hwz := hwz.symm; subst hwz))
  go_ret
  exact ⟨rfl, hbe.trans ((alloc_below w3 _).mono hbe.size)⟩

set_option maxRecDepth 100000 in
set_option maxHeartbeats 1000000 in
theorem wrong_at13 (w : World) (hE : Env w) : Calls Tryd.prog 3 #[.int .i64 13] w fun e w' => e = .returned (.bool true) ∧ Below w.heap.size w w' := by
  have AL := alive_any w hE
  have R := fun w hE => read_no (s := ⟨#[106, 111, 98, 32, 49, 32, 49, 10, 109, 97, 105, 110, 32, 102, 10, 102, 117, 110, 99, 32, 102, 32, 48, 32, 48, 10, 101, 110, 100]⟩) (by decide) wrong13 w hE
  go_enter Tryd.func3, Tryd.ntmps3
  go_wp2_with (first
    | (go_at_call 4; go_must (refine AL.mono ?_; rintro e w1 ⟨rfl, hb1⟩))
    | (go_at_call 5; refine Hid.out ?_))
  refine Lib.hid ?_
  clear AL
  refine wrong_step fun w2 hc hb2 => ?_
  have hE2 := (hE.below hb1).below hb2
  refine (R w2 hE2).mono ?_
  rintro e w3 ⟨rfl, hb3⟩
  have hc3 := (hb3.block _ (lt_row hc)).trans hc
  have c0 := cell_row (i := 13) hc3 rfl
  have hcl := lt_row hc3
  have hbe : Below w.heap.size w w3 := (hb1.trans (hb2.mono hb1.size)).trans (hb3.mono (Nat.le_trans hb1.size hb2.size))
  clear R hc hc3
  go_wp2_with (go_at_call 6; go_must (refine (num_any _ _).mono ?_; rintro e wz ⟨rfl, hwz⟩; replace hwz := hwz.symm; subst hwz))
  go_ret
  exact ⟨rfl, hbe.trans ((alloc_below w3 _).mono hbe.size)⟩

set_option maxRecDepth 100000 in
set_option maxHeartbeats 1000000 in
theorem wrong_at14 (w : World) (hE : Env w) : Calls Tryd.prog 3 #[.int .i64 14] w fun e w' => e = .returned (.bool true) ∧ Below w.heap.size w w' := by
  have AL := alive_any w hE
  have R := fun w hE => read_no (s := ⟨#[106, 111, 98, 32, 49, 32, 49, 10, 109, 97, 105, 110, 32, 102, 10, 102, 117, 110, 99, 32, 102, 32, 48, 32, 48, 10, 101, 110, 100, 10, 10]⟩) (by decide) wrong14 w hE
  go_enter Tryd.func3, Tryd.ntmps3
  go_wp2_with (first
    | (go_at_call 4; go_must (refine AL.mono ?_; rintro e w1 ⟨rfl, hb1⟩))
    | (go_at_call 5; refine Hid.out ?_))
  refine Lib.hid ?_
  clear AL
  refine wrong_step fun w2 hc hb2 => ?_
  have hE2 := (hE.below hb1).below hb2
  refine (R w2 hE2).mono ?_
  rintro e w3 ⟨rfl, hb3⟩
  have hc3 := (hb3.block _ (lt_row hc)).trans hc
  have c0 := cell_row (i := 14) hc3 rfl
  have hcl := lt_row hc3
  have hbe : Below w.heap.size w w3 := (hb1.trans (hb2.mono hb1.size)).trans (hb3.mono (Nat.le_trans hb1.size hb2.size))
  clear R hc hc3
  go_wp2_with (go_at_call 6; go_must (refine (num_any _ _).mono ?_; rintro e wz ⟨rfl, hwz⟩; replace hwz := hwz.symm; subst hwz))
  go_ret
  exact ⟨rfl, hbe.trans ((alloc_below w3 _).mono hbe.size)⟩

set_option maxRecDepth 100000 in
set_option maxHeartbeats 1000000 in
theorem wrong_at15 (w : World) (hE : Env w) : Calls Tryd.prog 3 #[.int .i64 15] w fun e w' => e = .returned (.bool true) ∧ Below w.heap.size w w' := by
  have AL := alive_any w hE
  have R := fun w hE => read_no (s := ⟨#[106, 111, 98, 32, 49, 32, 49, 10, 109, 97, 105, 110, 32, 102, 10, 102, 117, 110, 99, 32, 102, 32, 48, 32, 48, 10, 102, 117, 110, 99, 32, 102, 32, 48, 32, 48, 10, 101, 110, 100, 10]⟩) (by decide) wrong15 w hE
  go_enter Tryd.func3, Tryd.ntmps3
  go_wp2_with (first
    | (go_at_call 4; go_must (refine AL.mono ?_; rintro e w1 ⟨rfl, hb1⟩))
    | (go_at_call 5; refine Hid.out ?_))
  refine Lib.hid ?_
  clear AL
  refine wrong_step fun w2 hc hb2 => ?_
  have hE2 := (hE.below hb1).below hb2
  refine (R w2 hE2).mono ?_
  rintro e w3 ⟨rfl, hb3⟩
  have hc3 := (hb3.block _ (lt_row hc)).trans hc
  have c0 := cell_row (i := 15) hc3 rfl
  have hcl := lt_row hc3
  have hbe : Below w.heap.size w w3 := (hb1.trans (hb2.mono hb1.size)).trans (hb3.mono (Nat.le_trans hb1.size hb2.size))
  clear R hc hc3
  go_wp2_with (go_at_call 6; go_must (refine (num_any _ _).mono ?_; rintro e wz ⟨rfl, hwz⟩; replace hwz := hwz.symm; subst hwz))
  go_ret
  exact ⟨rfl, hbe.trans ((alloc_below w3 _).mono hbe.size)⟩

set_option maxRecDepth 100000 in
set_option maxHeartbeats 1000000 in
theorem wrong_at16 (w : World) (hE : Env w) : Calls Tryd.prog 3 #[.int .i64 16] w fun e w' => e = .returned (.bool true) ∧ Below w.heap.size w w' := by
  have AL := alive_any w hE
  have R := fun w hE => read_no (s := ⟨#[101, 110, 100, 10]⟩) (by decide) wrong16 w hE
  go_enter Tryd.func3, Tryd.ntmps3
  go_wp2_with (first
    | (go_at_call 4; go_must (refine AL.mono ?_; rintro e w1 ⟨rfl, hb1⟩))
    | (go_at_call 5; refine Hid.out ?_))
  refine Lib.hid ?_
  clear AL
  refine wrong_step fun w2 hc hb2 => ?_
  have hE2 := (hE.below hb1).below hb2
  refine (R w2 hE2).mono ?_
  rintro e w3 ⟨rfl, hb3⟩
  have hc3 := (hb3.block _ (lt_row hc)).trans hc
  have c0 := cell_row (i := 16) hc3 rfl
  have hcl := lt_row hc3
  have hbe : Below w.heap.size w w3 := (hb1.trans (hb2.mono hb1.size)).trans (hb3.mono (Nat.le_trans hb1.size hb2.size))
  clear R hc hc3
  go_wp2_with (go_at_call 6; go_must (refine (num_any _ _).mono ?_; rintro e wz ⟨rfl, hwz⟩; replace hwz := hwz.symm; subst hwz))
  go_ret
  exact ⟨rfl, hbe.trans ((alloc_below w3 _).mono hbe.size)⟩

set_option maxRecDepth 100000 in
set_option maxHeartbeats 1000000 in
theorem wrong_at17 (w : World) (hE : Env w) : Calls Tryd.prog 3 #[.int .i64 17] w fun e w' => e = .returned (.bool true) ∧ Below w.heap.size w w' := by
  have AL := alive_any w hE
  have R := fun w hE => read_no (s := ⟨#[106, 111, 98, 32, 49, 32, 49, 10, 101, 110, 100, 10]⟩) (by decide) wrong17 w hE
  go_enter Tryd.func3, Tryd.ntmps3
  go_wp2_with (first
    | (go_at_call 4; go_must (refine AL.mono ?_; rintro e w1 ⟨rfl, hb1⟩))
    | (go_at_call 5; refine Hid.out ?_))
  refine Lib.hid ?_
  clear AL
  refine wrong_step fun w2 hc hb2 => ?_
  have hE2 := (hE.below hb1).below hb2
  refine (R w2 hE2).mono ?_
  rintro e w3 ⟨rfl, hb3⟩
  have hc3 := (hb3.block _ (lt_row hc)).trans hc
  have c0 := cell_row (i := 17) hc3 rfl
  have hcl := lt_row hc3
  have hbe : Below w.heap.size w w3 := (hb1.trans (hb2.mono hb1.size)).trans (hb3.mono (Nat.le_trans hb1.size hb2.size))
  clear R hc hc3
  go_wp2_with (go_at_call 6; go_must (refine (num_any _ _).mono ?_; rintro e wz ⟨rfl, hwz⟩; replace hwz := hwz.symm; subst hwz))
  go_ret
  exact ⟨rfl, hbe.trans ((alloc_below w3 _).mono hbe.size)⟩

set_option maxRecDepth 100000 in
set_option maxHeartbeats 1000000 in
theorem wrong_at18 (w : World) (hE : Env w) : Calls Tryd.prog 3 #[.int .i64 18] w fun e w' => e = .returned (.bool true) ∧ Below w.heap.size w w' := by
  have AL := alive_any w hE
  have R := fun w hE => read_no (s := ⟨#[106, 111, 98, 32, 49, 32, 49, 32, 10, 109, 97, 105, 110, 32, 102, 10, 102, 117, 110, 99, 32, 102, 32, 48, 32, 48, 10, 101, 110, 100, 10]⟩) (by decide) wrong18 w hE
  go_enter Tryd.func3, Tryd.ntmps3
  go_wp2_with (first
    | (go_at_call 4; go_must (refine AL.mono ?_; rintro e w1 ⟨rfl, hb1⟩))
    | (go_at_call 5; refine Hid.out ?_))
  refine Lib.hid ?_
  clear AL
  refine wrong_step fun w2 hc hb2 => ?_
  have hE2 := (hE.below hb1).below hb2
  refine (R w2 hE2).mono ?_
  rintro e w3 ⟨rfl, hb3⟩
  have hc3 := (hb3.block _ (lt_row hc)).trans hc
  have c0 := cell_row (i := 18) hc3 rfl
  have hcl := lt_row hc3
  have hbe : Below w.heap.size w w3 := (hb1.trans (hb2.mono hb1.size)).trans (hb3.mono (Nat.le_trans hb1.size hb2.size))
  clear R hc hc3
  go_wp2_with (go_at_call 6; go_must (refine (num_any _ _).mono ?_; rintro e wz ⟨rfl, hwz⟩; replace hwz := hwz.symm; subst hwz))
  go_ret
  exact ⟨rfl, hbe.trans ((alloc_below w3 _).mono hbe.size)⟩

set_option maxRecDepth 100000 in
set_option maxHeartbeats 1000000 in
theorem wrong_any (n : Int) (w : World) (hE : Env w) : Calls Tryd.prog 3 #[.int .i64 n] w fun e w' => e = .returned (.bool true) ∧ Below w.heap.size w w' := by
  by_cases hout : 0 ≤ n ∧ n < 19
  · have hn : n = 0 ∨ n = 1 ∨ n = 2 ∨ n = 3 ∨ n = 4 ∨ n = 5 ∨ n = 6 ∨ n = 7 ∨ n = 8 ∨ n = 9 ∨ n = 10 ∨ n = 11 ∨ n = 12 ∨ n = 13 ∨ n = 14 ∨ n = 15 ∨ n = 16 ∨ n = 17 ∨ n = 18 := by omega
    rcases hn with rfl | rfl | rfl | rfl | rfl | rfl | rfl | rfl | rfl | rfl | rfl | rfl | rfl | rfl | rfl | rfl | rfl | rfl | rfl
    · exact wrong_at0 w hE
    · exact wrong_at1 w hE
    · exact wrong_at2 w hE
    · exact wrong_at3 w hE
    · exact wrong_at4 w hE
    · exact wrong_at5 w hE
    · exact wrong_at6 w hE
    · exact wrong_at7 w hE
    · exact wrong_at8 w hE
    · exact wrong_at9 w hE
    · exact wrong_at10 w hE
    · exact wrong_at11 w hE
    · exact wrong_at12 w hE
    · exact wrong_at13 w hE
    · exact wrong_at14 w hE
    · exact wrong_at15 w hE
    · exact wrong_at16 w hE
    · exact wrong_at17 w hE
    · exact wrong_at18 w hE
  · have AL := alive_any w hE
    have q1 : n < 0 ∨ ¬ n < 0 := by omega
    rcases q1 with q1 | q1
    · go_enter Tryd.func3, Tryd.ntmps3
      go_wp2_with (go_at_call 4; go_must (refine AL.mono ?_; rintro e w1 ⟨rfl, hb1⟩))
      go_ret
      exact ⟨rfl, (hb1.trans ((alloc_below w1 _).mono hb1.size)).trans ((alloc_below (w1.alloc _) _).mono (by simp; have := hb1.size; omega))⟩
    · have q2 : 19 ≤ n := by omega
      go_enter Tryd.func3, Tryd.ntmps3
      go_wp2_with (go_at_call 4; go_must (refine AL.mono ?_; rintro e w1 ⟨rfl, hb1⟩))
      go_ret
      exact ⟨rfl, (hb1.trans ((alloc_below w1 _).mono hb1.size)).trans ((alloc_below (w1.alloc _) _).mono (by simp; have := hb1.size; omega))⟩
end Go.Proofs.YtfnloomcianbiabDoor
