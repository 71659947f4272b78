/- The nineteen texts that are none (for AsmWrong): by the kernel's own reckoning. -/
import Derived.Test.YtfnloomcianbiabDoorReadW
import Derived.Test.YtfnloomcianbiabDoorLine
namespace Go.Proofs.YtfnloomcianbiabDoor
open Go.RowKit Go.ChangeShapes Go.WideShapes Go.ChangeAt Go.Deep

theorem wrong0 : readL (bs []) = .error 1 := by kernel_rfl
theorem wrong1 : readL (bs [106, 111, 98, 32, 49, 10]) = .error 1 := by kernel_rfl
theorem wrong2 : readL (bs [106, 111, 98, 32, 49, 32, 48, 49, 10]) = .error 1 := by kernel_rfl
theorem wrong3 : readL (bs [106, 111, 98, 32, 49, 32, 49, 10, 109, 97, 105, 110, 10]) = .error 2 := by kernel_rfl
theorem wrong4 : readL (bs [106, 111, 98, 32, 49, 32, 49, 10, 109, 97, 105, 110, 32, 70, 10]) = .error 2 := by kernel_rfl
theorem wrong5 : readL (bs [106, 111, 98, 32, 49, 32, 49, 10, 109, 97, 105, 110, 32, 102, 32, 45, 48, 10]) = .error 2 := by kernel_rfl
theorem wrong6 : readL (bs [106, 111, 98, 32, 49, 32, 49, 10, 109, 97, 105, 110, 32, 102, 10]) = .error 3 := by kernel_rfl
theorem wrong7 : readL (bs [106, 111, 98, 32, 49, 32, 49, 10, 109, 97, 105, 110, 32, 102, 10, 101, 110, 100, 10]) = .error 2 := by kernel_rfl
theorem wrong8 : readL (bs [106, 111, 98, 32, 49, 32, 49, 10, 109, 97, 105, 110, 32, 102, 10, 32, 32, 112, 111, 112, 10, 101, 110, 100, 10]) = .error 3 := by kernel_rfl
theorem wrong9 : readL (bs [106, 111, 98, 32, 49, 32, 49, 10, 109, 97, 105, 110, 32, 102, 10, 102, 117, 110, 99, 32, 102, 32, 48, 10, 101, 110, 100, 10]) = .error 3 := by kernel_rfl
theorem wrong10 : readL (bs [106, 111, 98, 32, 49, 32, 49, 10, 109, 97, 105, 110, 32, 102, 10, 102, 117, 110, 99, 32, 102, 32, 48, 32, 48, 10, 32, 112, 111, 112, 10, 101, 110, 100, 10]) = .error 4 := by kernel_rfl
theorem wrong11 : readL (bs [106, 111, 98, 32, 49, 32, 49, 10, 109, 97, 105, 110, 32, 102, 10, 102, 117, 110, 99, 32, 102, 32, 48, 32, 48, 10, 32, 32, 112, 111, 112, 32, 49, 10, 101, 110, 100, 10]) = .error 4 := by kernel_rfl
theorem wrong12 : readL (bs [106, 111, 98, 32, 49, 32, 49, 10, 109, 97, 105, 110, 32, 102, 10, 102, 117, 110, 99, 32, 102, 32, 48, 32, 48, 10, 32, 32, 112, 117, 115, 104, 10, 101, 110, 100, 10]) = .error 4 := by kernel_rfl
theorem wrong13 : readL (bs [106, 111, 98, 32, 49, 32, 49, 10, 109, 97, 105, 110, 32, 102, 10, 102, 117, 110, 99, 32, 102, 32, 48, 32, 48, 10, 101, 110, 100]) = .error 4 := by kernel_rfl
theorem wrong14 : readL (bs [106, 111, 98, 32, 49, 32, 49, 10, 109, 97, 105, 110, 32, 102, 10, 102, 117, 110, 99, 32, 102, 32, 48, 32, 48, 10, 101, 110, 100, 10, 10]) = .error 5 := by kernel_rfl
theorem wrong15 : readL (bs [106, 111, 98, 32, 49, 32, 49, 10, 109, 97, 105, 110, 32, 102, 10, 102, 117, 110, 99, 32, 102, 32, 48, 32, 48, 10, 102, 117, 110, 99, 32, 102, 32, 48, 32, 48, 10, 101, 110, 100, 10]) = .error 4 := by kernel_rfl
theorem wrong16 : readL (bs [101, 110, 100, 10]) = .error 1 := by kernel_rfl
theorem wrong17 : readL (bs [106, 111, 98, 32, 49, 32, 49, 10, 101, 110, 100, 10]) = .error 2 := by kernel_rfl
theorem wrong18 : readL (bs [106, 111, 98, 32, 49, 32, 49, 32, 10, 109, 97, 105, 110, 32, 102, 10, 102, 117, 110, 99, 32, 102, 32, 48, 32, 48, 10, 101, 110, 100, 10]) = .error 1 := by kernel_rfl
end Go.Proofs.YtfnloomcianbiabDoor
