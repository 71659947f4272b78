/- The checks of trees; EvalTasks' evaluations. -/
import Derived.Test.YtbpcibnomkfglaaGreatDoorTreeW
namespace Go.Proofs.YtbpcibnomkfglaaGreatDoor
open Go.RowKit Go.ChangeShapes Go.WideShapes Go.ChangeAt Go.Deep

def treeFn (n : Nat) : Fun := ⟨fnm, 1, 1, treeC n⟩
theorem treeF_0 : (funcErr [treeFn 0] 0 (treeFn 0)).2 = 0 := by kernel_rfl
theorem treeF_1 : (funcErr [treeFn 1] 0 (treeFn 1)).2 = 0 := by kernel_rfl
theorem treeF_2 : (funcErr [treeFn 2] 0 (treeFn 2)).2 = 0 := by kernel_rfl
theorem treeF_3 : (funcErr [treeFn 3] 0 (treeFn 3)).2 = 0 := by kernel_rfl
theorem treeF_4 : (funcErr [treeFn 4] 0 (treeFn 4)).2 = 0 := by kernel_rfl
theorem treeF_5 : (funcErr [treeFn 5] 0 (treeFn 5)).2 = 0 := by kernel_rfl
theorem treeF_6 : (funcErr [treeFn 6] 0 (treeFn 6)).2 = 0 := by kernel_rfl
theorem treeF_7 : (funcErr [treeFn 7] 0 (treeFn 7)).2 = 0 := by kernel_rfl
theorem treeF_8 : (funcErr [treeFn 8] 0 (treeFn 8)).2 = 0 := by kernel_rfl
theorem treeF_9 : (funcErr [treeFn 9] 0 (treeFn 9)).2 = 0 := by kernel_rfl
theorem treeF_10 : (funcErr [treeFn 10] 0 (treeFn 10)).2 = 0 := by kernel_rfl
theorem treeF_11 : (funcErr [treeFn 11] 0 (treeFn 11)).2 = 0 := by kernel_rfl
theorem treeF_12 : (funcErr [treeFn 12] 0 (treeFn 12)).2 = 0 := by kernel_rfl
theorem treeF_13 : (funcErr [treeFn 13] 0 (treeFn 13)).2 = 0 := by kernel_rfl
theorem treeF_14 : (funcErr [treeFn 14] 0 (treeFn 14)).2 = 0 := by kernel_rfl
theorem treeF_all (n : Nat) (h : n ≤ 14) : (funcErr [treeFn n] 0 (treeFn n)).2 = 0 :=
  match n, h with
  | 0, _ => treeF_0
  | 1, _ => treeF_1
  | 2, _ => treeF_2
  | 3, _ => treeF_3
  | 4, _ => treeF_4
  | 5, _ => treeF_5
  | 6, _ => treeF_6
  | 7, _ => treeF_7
  | 8, _ => treeF_8
  | 9, _ => treeF_9
  | 10, _ => treeF_10
  | 11, _ => treeF_11
  | 12, _ => treeF_12
  | 13, _ => treeF_13
  | 14, _ => treeF_14
  | n + 15, h => absurd h (by omega)
theorem tree_check (n : Nat) (h : n ≤ 14) (t : Nat) (h1 : 1 ≤ t) (h2 : t ≤ 500) : (checkL [treeFn n] 0 1 1000 (t : Int)).2.2 = 0 := check_gen (by decide) (by omega) rfl (treeF_all n h)
def tasksB (wide t : Nat) : Bool := match doE [treeFn wide] 1000 (t : Int) 1001 1001 3 [] [] 0 [1] with
  | some (E, ov, _) => if t < wide + 1 then ov else !ov && E.length == wide + 1
  | none => false
theorem tasks_0 : ((List.range 40).all fun i => tasksB 0 (i + 1)) = true := by kernel_rfl
theorem tasks_1 : ((List.range 40).all fun i => tasksB 1 (i + 1)) = true := by kernel_rfl
theorem tasks_2 : ((List.range 40).all fun i => tasksB 2 (i + 1)) = true := by kernel_rfl
theorem tasks_3 : ((List.range 40).all fun i => tasksB 3 (i + 1)) = true := by kernel_rfl
theorem tasks_4 : ((List.range 40).all fun i => tasksB 4 (i + 1)) = true := by kernel_rfl
theorem tasks_5 : ((List.range 40).all fun i => tasksB 5 (i + 1)) = true := by kernel_rfl
theorem tasks_6 : ((List.range 40).all fun i => tasksB 6 (i + 1)) = true := by kernel_rfl
theorem tasks_7 : ((List.range 40).all fun i => tasksB 7 (i + 1)) = true := by kernel_rfl
theorem tasks_8 : ((List.range 40).all fun i => tasksB 8 (i + 1)) = true := by kernel_rfl
theorem tasks_9 : ((List.range 40).all fun i => tasksB 9 (i + 1)) = true := by kernel_rfl
theorem tasks_10 : ((List.range 40).all fun i => tasksB 10 (i + 1)) = true := by kernel_rfl
theorem tasks_11 : ((List.range 40).all fun i => tasksB 11 (i + 1)) = true := by kernel_rfl
theorem tasks_12 : ((List.range 40).all fun i => tasksB 12 (i + 1)) = true := by kernel_rfl
theorem tasks_13 : ((List.range 40).all fun i => tasksB 13 (i + 1)) = true := by kernel_rfl
theorem tasks_14 : ((List.range 40).all fun i => tasksB 14 (i + 1)) = true := by kernel_rfl
theorem tasks_all (n : Nat) (h : n ≤ 14) : ((List.range 40).all fun i => tasksB n (i + 1)) = true :=
  match n, h with
  | 0, _ => tasks_0
  | 1, _ => tasks_1
  | 2, _ => tasks_2
  | 3, _ => tasks_3
  | 4, _ => tasks_4
  | 5, _ => tasks_5
  | 6, _ => tasks_6
  | 7, _ => tasks_7
  | 8, _ => tasks_8
  | 9, _ => tasks_9
  | 10, _ => tasks_10
  | 11, _ => tasks_11
  | 12, _ => tasks_12
  | 13, _ => tasks_13
  | 14, _ => tasks_14
  | n + 15, h => absurd h (by omega)
theorem tasks_ev (n : Nat) (h : n ≤ 14) (t : Nat) (h1 : 1 ≤ t) (h2 : t ≤ 40) : ∃ E ov r, doE [treeFn n] 1000 (t : Int) 1001 1001 3 [] [] 0 [1] = some (E, ov, r) ∧ (if t < n + 1 then ov = true else ov = false ∧ E.length = n + 1) := by
  have hb := List.all_eq_true.1 (tasks_all n h) (t - 1) (List.mem_range.2 (by omega))
  rw [show t - 1 + 1 = t by omega] at hb
  unfold tasksB at hb
  split at hb
  · rename_i E ov r hq
    refine ⟨E, ov, r, hq, ?_⟩
    split at hb
    · rename_i hl
      rw [if_pos hl]
      exact hb
    · rename_i hl
      rw [if_neg hl]
      simpa using hb
  · cases hb
end Go.Proofs.YtbpcibnomkfglaaGreatDoor
