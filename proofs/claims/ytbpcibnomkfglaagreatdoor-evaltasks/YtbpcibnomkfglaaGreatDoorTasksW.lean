/- EvalTasks: its walk. -/
import Derived.Test.YtbpcibnomkfglaaGreatDoorTasksP
namespace Go.Proofs.YtbpcibnomkfglaaGreatDoor
open Go.RowKit Go.ChangeShapes Go.WideShapes Go.ChangeAt Go.Deep

set_option linter.unusedSimpArgs false in
set_option maxRecDepth 100000 in
set_option maxHeartbeats 16000000 in
theorem tasks_any (n k : Int) (w : World) (hE : Env w) : Calls Tryz.prog 5 #[.int .i64 n, .int .i64 k] w fun r w' => r = .returned (.bool true) ∧ Below w.heap.size w w' := by
  have CA := alive_any w hE
  by_cases g0 : n < 0
  · go_enter Tryz.func5, Tryz.ntmps5
    go_wp2_with (go_at_call 10; go_must (with_reducible refine CA.mono ?_; (rintro e w1 ⟨rfl, hb1⟩)))
    go_ret
    exact ⟨rfl, hb1⟩
  by_cases g1 : 14 < n
  · go_enter Tryz.func5, Tryz.ntmps5
    go_wp2_with (go_at_call 10; go_must (with_reducible refine CA.mono ?_; (rintro e w1 ⟨rfl, hb1⟩)))
    go_ret
    exact ⟨rfl, hb1⟩
  by_cases g2 : k < 1
  · go_enter Tryz.func5, Tryz.ntmps5
    go_wp2_with (go_at_call 10; go_must (with_reducible refine CA.mono ?_; (rintro e w1 ⟨rfl, hb1⟩)))
    go_ret
    exact ⟨rfl, hb1⟩
  by_cases g3 : 40 < k
  · go_enter Tryz.func5, Tryz.ntmps5
    go_wp2_with (go_at_call 10; go_must (with_reducible refine CA.mono ?_; (rintro e w1 ⟨rfl, hb1⟩)))
    go_ret
    exact ⟨rfl, hb1⟩
  obtain ⟨m, rfl⟩ : ∃ m : Nat, n = (m : Int) := ⟨n.toNat, by omega⟩
  obtain ⟨t, rfl⟩ : ∃ t : Nat, k = (t : Int) := ⟨k.toNat, by omega⟩
  have hm : m ≤ 14 := by omega
  have ht1 : 1 ≤ t := by omega
  have ht2 : t ≤ 40 := by omega
  obtain ⟨E, ov, r, hq, hall⟩ := tasks_ev m hm t ht1 ht2
  obtain ⟨r1, r2⟩ := r
  have HQ := hide hq
  have HALL := hide hall
  have HC := hide (tree_check m hm t ht1 (by omega))
  have TN := num_any
  have C12 := fun (W : World) => tree_any m hm 1 W
  unfold TreePost at C12
  clear hq hall
  go_enter Tryz.func5, Tryz.ntmps5
  go_wp2_with (first
    | (go_at_call 10; go_must (with_reducible refine CA.mono ?_; (rintro e w1 ⟨rfl, hb1⟩)))
    | (go_at_call 12; go_must (with_reducible refine (C12 _).mono ?_; (rintro e w2 ⟨h, b, a, cap, rfl, hrow, hr, hra, hb2⟩); refine Hid.out ?_)))
  refine Lib.hid ?_
  have hb12 := chain hb1 hb2
  have hbJ := alloc_below w2 (.cells #[.slice (some ⟨h, 0, none⟩) 1 1, .int .i64 0, .slice (some ⟨b, 0, none⟩) 1 1, .int .i64 1000, .int .i64 500] 30)
  have hjJ := heap_alloc_new w2 (.cells #[.slice (some ⟨h, 0, none⟩) 1 1, .int .i64 0, .slice (some ⟨b, 0, none⟩) 1 1, .int .i64 1000, .int .i64 500] 30)
  clear C12 CA hb1 hb2
  go_upto_region 5 with fail
  generalize w2.alloc (.cells #[.slice (some ⟨h, 0, none⟩) 1 1, .int .i64 0, .slice (some ⟨b, 0, none⟩) 1 1, .int .i64 1000, .int .i64 500] 30) = w3 at *
  have hrow3 := heap_row hrow hbJ
  have hr3 := hr.below hbJ
  have hra3 := hra.below hbJ
  have hb13 := chain hb12 hbJ
  have hjw : w.heap.size ≤ w2.heap.size := hb12.size
  have hlt2 : h < w2.heap.size := lt_row hrow
  have hra2 := hra
  have hr2 := hr
  clear hbJ hb12 hrow
  generalize hjb : w2.heap.size = jb at *
  have j4 := cell_row (i := 4) (cs := [.slice (some ⟨h, 0, none⟩) 1 1, .int .i64 0, .slice (some ⟨b, 0, none⟩) 1 1, .int .i64 1000, .int .i64 500]) hjJ rfl
  have f4 := frozen_row (i := 4) (cs := [.slice (some ⟨h, 0, none⟩) 1 1, .int .i64 0, .slice (some ⟨b, 0, none⟩) 1 1, .int .i64 1000, .int .i64 500]) hjJ
  go_upto_region 6 with fail
  have hEl := Else.cell jb 4 w3 (.int .i64 (t : Int))
  have hj4 : (w3.setCell ⟨jb, 4, none⟩ (.int .i64 (t : Int))).heap[jb]? = some (.cells [.slice (some ⟨h, 0, none⟩) 1 1, .int .i64 0, .slice (some ⟨b, 0, none⟩) 1 1, .int .i64 1000, .int .i64 (t : Int)].toArray 30 (0, 0)) := heap_setCell_same w3 jb 4 _ 30 _ hjJ
  have hrow4 := (hEl h (by omega)).trans hrow3
  have hr4 : Reads (w3.setCell ⟨jb, 4, none⟩ (.int .i64 (t : Int))) a (insV (treeC m)) := reads_setCells (vs := [.int .i64 (t : Int)]) hr3 (fun x hx => by
    rcases hr2 with q | ⟨b', off, q, q2⟩
    · simp [treeC, insV] at q
    · rw [q] at hx; cases hx
      have := cell_some_lt (q2 0 (.int .i64 5) (by simp [treeC, insV]))
      show b' ≠ jb
      have h' : b' < w2.heap.size := this
      omega) 4
  have hra4 : Reads (w3.setCell ⟨jb, 4, none⟩ (.int .i64 (t : Int))) (some ⟨b, 0, none⟩) (iV [1]) := reads_setCells (vs := [.int .i64 (t : Int)]) hra3 (fun x hx => by
    rcases hra2 with q | ⟨b', off, q, q2⟩
    · cases q
    · cases q; cases hx
      have := cell_some_lt (q2 0 (.int .i64 1) rfl)
      show b ≠ jb
      have h' : b < w2.heap.size := this
      omega) 4
  have hb14 : Below w.heap.size w (w3.setCell ⟨jb, 4, none⟩ (.int .i64 (t : Int))) := hb13.setCell (p := ⟨jb, 4, none⟩) (by show w.heap.size ≤ jb; omega) _
  clear hEl hrow3 hr3 hra3 hb13 j4 f4 hjJ hr hra hr2 hra2
  generalize w3.setCell ⟨jb, 4, none⟩ (.int .i64 (t : Int)) = w4 at *
  have C11 : Calls Tryz.prog 11 #[.agg #[.slice (some ⟨h, 0, none⟩) 1 1, .int .i64 0, .slice (some ⟨b, 0, none⟩) 1 1, .int .i64 1000, .int .i64 (t : Int)]] w4 (EvalPost w4 (E, ov, r1, r2)) := eval_gen 1 1 1000 (t : Int) (some ⟨b, 0, none⟩) 1 1 [1] hrow4 (treeC_len m) hr4 rfl hra4 (fun h => by cases h) (hE.below hb14) (by omega) HC.out 1001 1001 3 _ HQ.out
  have a0 := cell_row (i := 0) hj4 rfl
  have a1 := cell_row (i := 1) hj4 rfl
  have a2 := cell_row (i := 2) hj4 rfl
  have a3 := cell_row (i := 3) hj4 rfl
  have a4 := cell_row (i := 4) hj4 rfl
  have wr : IntKind.i64.wrap ((m : Int) + 1) = (m : Int) + 1 := wrapi (by omega)
  have HB := hide hb14
  clear hrow4 hr4 hra4 hj4 hb14 hE
  by_cases hlt : t < m + 1
  · have hall := HALL.out
    rw [if_pos hlt] at hall
    subst hall
    have C := C11.mono fun e w' h => h.no
    unfold EvNo at C
    have k1 : (t : Int) < (m : Int) + 1 := by omega
    clear C11 hlt HALL HQ
    go_wp2_with (first
      | (go_at_call 11; go_must (with_reducible refine C.mono ?_; (rintro e w5 ⟨rfl, hb5⟩)))
      | (go_at_call 13; go_must (with_reducible refine (TN _ _).mono ?_; (rintro e wz ⟨rfl, hwz⟩; replace hwz := hwz.symm; subst hwz))))
    go_ret
    exact ⟨rfl, chain HB.out hb5⟩
  · have hall := HALL.out
    rw [if_neg hlt] at hall
    obtain ⟨rfl, hl⟩ := hall
    have hne : E ≠ [] := by rintro rfl; simp at hl
    have C := C11.mono fun e w' h => h.ok hne
    unfold EvOk at C
    rw [hl] at C
    have k1 : ¬ (t : Int) < (m : Int) + 1 := by omega
    have hle : (((m + 1 : Nat) : Int) == (m : Int) + 1) = true := by simp
    clear C11 hlt HALL HQ hl
    go_wp2_with (first
      | (go_at_call 11; go_must (with_reducible refine C.mono ?_; (rintro e w5 ⟨eg, ec, rfl, hat, hb5⟩)))
      | (go_at_call 13; go_must (with_reducible refine (TN _ _).mono ?_; (rintro e wz ⟨rfl, hwz⟩; replace hwz := hwz.symm; subst hwz))))
    go_ret
    exact ⟨rfl, chain HB.out hb5⟩
end Go.Proofs.YtbpcibnomkfglaaGreatDoor
