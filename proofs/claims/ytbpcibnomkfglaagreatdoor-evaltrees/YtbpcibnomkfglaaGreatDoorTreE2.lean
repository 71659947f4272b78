/- EvalTrees: its evaluations (2). -/
import Derived.Test.YtbpcibnomkfglaaGreatDoorTreesP
namespace Go.Proofs.YtbpcibnomkfglaaGreatDoor

theorem trees_0_2 : treesB 0 2 = true := by kernel_rfl
theorem trees_0_5 : treesB 0 5 = true := by kernel_rfl
theorem trees_1_1 : treesB 1 1 = true := by kernel_rfl
theorem trees_1_2 : treesB 1 2 = true := by kernel_rfl
theorem trees_1_5 : treesB 1 5 = true := by kernel_rfl
theorem trees_1_6 : treesB 1 6 = true := by kernel_rfl
theorem trees_2_4 : treesB 2 4 = true := by kernel_rfl
theorem trees_2_5 : treesB 2 5 = true := by kernel_rfl
theorem trees_2_6 : treesB 2 6 = true := by kernel_rfl
theorem trees_3_0 : treesB 3 0 = true := by kernel_rfl
theorem trees_4_2 : treesB 4 2 = true := by kernel_rfl
theorem trees_4_4 : treesB 4 4 = true := by kernel_rfl
theorem trees_4_5 : treesB 4 5 = true := by kernel_rfl
theorem trees_5_1 : treesB 5 1 = true := by kernel_rfl
theorem trees_5_6 : treesB 5 6 = true := by kernel_rfl
theorem trees_6_2 : treesB 6 2 = true := by kernel_rfl
end Go.Proofs.YtbpcibnomkfglaaGreatDoor
