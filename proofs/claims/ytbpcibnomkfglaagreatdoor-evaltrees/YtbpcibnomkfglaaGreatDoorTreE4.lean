/- EvalTrees: its evaluations (4). -/
import Derived.Test.YtbpcibnomkfglaaGreatDoorTreesP
namespace Go.Proofs.YtbpcibnomkfglaaGreatDoor

theorem trees_0_0 : treesB 0 0 = true := by kernel_rfl
theorem trees_0_3 : treesB 0 3 = true := by kernel_rfl
theorem trees_0_6 : treesB 0 6 = true := by kernel_rfl
theorem trees_1_3 : treesB 1 3 = true := by kernel_rfl
theorem trees_1_4 : treesB 1 4 = true := by kernel_rfl
theorem trees_2_0 : treesB 2 0 = true := by kernel_rfl
theorem trees_2_2 : treesB 2 2 = true := by kernel_rfl
theorem trees_3_2 : treesB 3 2 = true := by kernel_rfl
theorem trees_3_5 : treesB 3 5 = true := by kernel_rfl
theorem trees_5_0 : treesB 5 0 = true := by kernel_rfl
theorem trees_5_2 : treesB 5 2 = true := by kernel_rfl
theorem trees_5_3 : treesB 5 3 = true := by kernel_rfl
theorem trees_5_4 : treesB 5 4 = true := by kernel_rfl
theorem trees_6_1 : treesB 6 1 = true := by kernel_rfl
theorem trees_6_5 : treesB 6 5 = true := by kernel_rfl
end Go.Proofs.YtbpcibnomkfglaaGreatDoor
