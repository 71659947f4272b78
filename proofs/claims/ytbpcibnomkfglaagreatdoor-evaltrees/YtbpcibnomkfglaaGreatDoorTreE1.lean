/- EvalTrees: its evaluations (1). -/
import Derived.Test.YtbpcibnomkfglaaGreatDoorTreesP
namespace Go.Proofs.YtbpcibnomkfglaaGreatDoor

theorem trees_3_6 : treesB 3 6 = true := by kernel_rfl
theorem trees_5_5 : treesB 5 5 = true := by kernel_rfl
theorem trees_6_6 : treesB 6 6 = true := by kernel_rfl
end Go.Proofs.YtbpcibnomkfglaaGreatDoor
