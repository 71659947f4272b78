/- EvalTrees: its evaluations (3). -/
import Derived.Test.YtbpcibnomkfglaaGreatDoorTreesP
namespace Go.Proofs.YtbpcibnomkfglaaGreatDoor

theorem trees_0_1 : treesB 0 1 = true := by kernel_rfl
theorem trees_0_4 : treesB 0 4 = true := by kernel_rfl
theorem trees_1_0 : treesB 1 0 = true := by kernel_rfl
theorem trees_2_1 : treesB 2 1 = true := by kernel_rfl
theorem trees_2_3 : treesB 2 3 = true := by kernel_rfl
theorem trees_3_1 : treesB 3 1 = true := by kernel_rfl
theorem trees_3_3 : treesB 3 3 = true := by kernel_rfl
theorem trees_3_4 : treesB 3 4 = true := by kernel_rfl
theorem trees_4_0 : treesB 4 0 = true := by kernel_rfl
theorem trees_4_1 : treesB 4 1 = true := by kernel_rfl
theorem trees_4_3 : treesB 4 3 = true := by kernel_rfl
theorem trees_4_6 : treesB 4 6 = true := by kernel_rfl
theorem trees_6_0 : treesB 6 0 = true := by kernel_rfl
theorem trees_6_3 : treesB 6 3 = true := by kernel_rfl
theorem trees_6_4 : treesB 6 4 = true := by kernel_rfl
end Go.Proofs.YtbpcibnomkfglaaGreatDoor
