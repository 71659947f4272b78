/- TaskSpawns: its depths. -/
import Derived.Test.YtlhfjeohhfdccaaDoorSpaD
namespace Go.Proofs.YtlhfjeohhfdccaaDoor
open Go.RowKit Go.ChangeShapes Go.WideShapes Go.ChangeAt Go.Deep

theorem spa_deps7_1 (x0 x1 x2 x3 x4 x5 x6 : Int) : depthsL [0, 7] (spaC 1 [x0, x1, x2, x3, x4, x5, x6]) = .ok (spaD 7 1) := by kernel_rfl
theorem spa_deps7_2 (x0 x1 x2 x3 x4 x5 x6 : Int) : depthsL [0, 7] (spaC 2 [x0, x1, x2, x3, x4, x5, x6]) = .ok (spaD 7 2) := by kernel_rfl
theorem spa_deps7_3 (x0 x1 x2 x3 x4 x5 x6 : Int) : depthsL [0, 7] (spaC 3 [x0, x1, x2, x3, x4, x5, x6]) = .ok (spaD 7 3) := by kernel_rfl
theorem spa_deps7_4 (x0 x1 x2 x3 x4 x5 x6 : Int) : depthsL [0, 7] (spaC 4 [x0, x1, x2, x3, x4, x5, x6]) = .ok (spaD 7 4) := by kernel_rfl
theorem spa_deps7_5 (x0 x1 x2 x3 x4 x5 x6 : Int) : depthsL [0, 7] (spaC 5 [x0, x1, x2, x3, x4, x5, x6]) = .ok (spaD 7 5) := by kernel_rfl
theorem spa_deps7_6 (x0 x1 x2 x3 x4 x5 x6 : Int) : depthsL [0, 7] (spaC 6 [x0, x1, x2, x3, x4, x5, x6]) = .ok (spaD 7 6) := by kernel_rfl
theorem spa_deps7_7 (x0 x1 x2 x3 x4 x5 x6 : Int) : depthsL [0, 7] (spaC 7 [x0, x1, x2, x3, x4, x5, x6]) = .ok (spaD 7 7) := by kernel_rfl
theorem spa_deps7_8 (x0 x1 x2 x3 x4 x5 x6 : Int) : depthsL [0, 7] (spaC 8 [x0, x1, x2, x3, x4, x5, x6]) = .ok (spaD 7 8) := by kernel_rfl
theorem spa_deps7_9 (x0 x1 x2 x3 x4 x5 x6 : Int) : depthsL [0, 7] (spaC 9 [x0, x1, x2, x3, x4, x5, x6]) = .ok (spaD 7 9) := by kernel_rfl
theorem spa_deps7_10 (x0 x1 x2 x3 x4 x5 x6 : Int) : depthsL [0, 7] (spaC 10 [x0, x1, x2, x3, x4, x5, x6]) = .ok (spaD 7 10) := by kernel_rfl
theorem spa_deps7_11 (x0 x1 x2 x3 x4 x5 x6 : Int) : depthsL [0, 7] (spaC 11 [x0, x1, x2, x3, x4, x5, x6]) = .ok (spaD 7 11) := by kernel_rfl
theorem spa_deps7_12 (x0 x1 x2 x3 x4 x5 x6 : Int) : depthsL [0, 7] (spaC 12 [x0, x1, x2, x3, x4, x5, x6]) = .ok (spaD 7 12) := by kernel_rfl
theorem spa_deps7_13 (x0 x1 x2 x3 x4 x5 x6 : Int) : depthsL [0, 7] (spaC 13 [x0, x1, x2, x3, x4, x5, x6]) = .ok (spaD 7 13) := by kernel_rfl
theorem spa_deps7_14 (x0 x1 x2 x3 x4 x5 x6 : Int) : depthsL [0, 7] (spaC 14 [x0, x1, x2, x3, x4, x5, x6]) = .ok (spaD 7 14) := by kernel_rfl
theorem spa_deps7_15 (x0 x1 x2 x3 x4 x5 x6 : Int) : depthsL [0, 7] (spaC 15 [x0, x1, x2, x3, x4, x5, x6]) = .ok (spaD 7 15) := by kernel_rfl
theorem spa_deps7_16 (x0 x1 x2 x3 x4 x5 x6 : Int) : depthsL [0, 7] (spaC 16 [x0, x1, x2, x3, x4, x5, x6]) = .ok (spaD 7 16) := by kernel_rfl
theorem spa_deps7_17 (x0 x1 x2 x3 x4 x5 x6 : Int) : depthsL [0, 7] (spaC 17 [x0, x1, x2, x3, x4, x5, x6]) = .ok (spaD 7 17) := by kernel_rfl
theorem spa_deps7_18 (x0 x1 x2 x3 x4 x5 x6 : Int) : depthsL [0, 7] (spaC 18 [x0, x1, x2, x3, x4, x5, x6]) = .ok (spaD 7 18) := by kernel_rfl
theorem spa_deps7_19 (x0 x1 x2 x3 x4 x5 x6 : Int) : depthsL [0, 7] (spaC 19 [x0, x1, x2, x3, x4, x5, x6]) = .ok (spaD 7 19) := by kernel_rfl
theorem spa_deps7_20 (x0 x1 x2 x3 x4 x5 x6 : Int) : depthsL [0, 7] (spaC 20 [x0, x1, x2, x3, x4, x5, x6]) = .ok (spaD 7 20) := by kernel_rfl
theorem spa_deps7 (x0 x1 x2 x3 x4 x5 x6 : Int) : ∀ n : Nat, 1 ≤ n → n ≤ 20 → depthsL [0, 7] (spaC n [x0, x1, x2, x3, x4, x5, x6]) = .ok (spaD 7 n)
  | 0, h, _ => by omega
  | 1, _, _ => spa_deps7_1 x0 x1 x2 x3 x4 x5 x6
  | 2, _, _ => spa_deps7_2 x0 x1 x2 x3 x4 x5 x6
  | 3, _, _ => spa_deps7_3 x0 x1 x2 x3 x4 x5 x6
  | 4, _, _ => spa_deps7_4 x0 x1 x2 x3 x4 x5 x6
  | 5, _, _ => spa_deps7_5 x0 x1 x2 x3 x4 x5 x6
  | 6, _, _ => spa_deps7_6 x0 x1 x2 x3 x4 x5 x6
  | 7, _, _ => spa_deps7_7 x0 x1 x2 x3 x4 x5 x6
  | 8, _, _ => spa_deps7_8 x0 x1 x2 x3 x4 x5 x6
  | 9, _, _ => spa_deps7_9 x0 x1 x2 x3 x4 x5 x6
  | 10, _, _ => spa_deps7_10 x0 x1 x2 x3 x4 x5 x6
  | 11, _, _ => spa_deps7_11 x0 x1 x2 x3 x4 x5 x6
  | 12, _, _ => spa_deps7_12 x0 x1 x2 x3 x4 x5 x6
  | 13, _, _ => spa_deps7_13 x0 x1 x2 x3 x4 x5 x6
  | 14, _, _ => spa_deps7_14 x0 x1 x2 x3 x4 x5 x6
  | 15, _, _ => spa_deps7_15 x0 x1 x2 x3 x4 x5 x6
  | 16, _, _ => spa_deps7_16 x0 x1 x2 x3 x4 x5 x6
  | 17, _, _ => spa_deps7_17 x0 x1 x2 x3 x4 x5 x6
  | 18, _, _ => spa_deps7_18 x0 x1 x2 x3 x4 x5 x6
  | 19, _, _ => spa_deps7_19 x0 x1 x2 x3 x4 x5 x6
  | 20, _, _ => spa_deps7_20 x0 x1 x2 x3 x4 x5 x6
  | n + 21, _, h => by omega
theorem spa_deps4_1 (x0 x1 x2 x3 : Int) : depthsL [0, 4] (spaC 1 [x0, x1, x2, x3]) = .ok (spaD 4 1) := by kernel_rfl
theorem spa_deps4_2 (x0 x1 x2 x3 : Int) : depthsL [0, 4] (spaC 2 [x0, x1, x2, x3]) = .ok (spaD 4 2) := by kernel_rfl
theorem spa_deps4_3 (x0 x1 x2 x3 : Int) : depthsL [0, 4] (spaC 3 [x0, x1, x2, x3]) = .ok (spaD 4 3) := by kernel_rfl
theorem spa_deps4_4 (x0 x1 x2 x3 : Int) : depthsL [0, 4] (spaC 4 [x0, x1, x2, x3]) = .ok (spaD 4 4) := by kernel_rfl
theorem spa_deps4_5 (x0 x1 x2 x3 : Int) : depthsL [0, 4] (spaC 5 [x0, x1, x2, x3]) = .ok (spaD 4 5) := by kernel_rfl
theorem spa_deps4_6 (x0 x1 x2 x3 : Int) : depthsL [0, 4] (spaC 6 [x0, x1, x2, x3]) = .ok (spaD 4 6) := by kernel_rfl
theorem spa_deps4_7 (x0 x1 x2 x3 : Int) : depthsL [0, 4] (spaC 7 [x0, x1, x2, x3]) = .ok (spaD 4 7) := by kernel_rfl
theorem spa_deps4_8 (x0 x1 x2 x3 : Int) : depthsL [0, 4] (spaC 8 [x0, x1, x2, x3]) = .ok (spaD 4 8) := by kernel_rfl
theorem spa_deps4_9 (x0 x1 x2 x3 : Int) : depthsL [0, 4] (spaC 9 [x0, x1, x2, x3]) = .ok (spaD 4 9) := by kernel_rfl
theorem spa_deps4_10 (x0 x1 x2 x3 : Int) : depthsL [0, 4] (spaC 10 [x0, x1, x2, x3]) = .ok (spaD 4 10) := by kernel_rfl
theorem spa_deps4_11 (x0 x1 x2 x3 : Int) : depthsL [0, 4] (spaC 11 [x0, x1, x2, x3]) = .ok (spaD 4 11) := by kernel_rfl
theorem spa_deps4_12 (x0 x1 x2 x3 : Int) : depthsL [0, 4] (spaC 12 [x0, x1, x2, x3]) = .ok (spaD 4 12) := by kernel_rfl
theorem spa_deps4_13 (x0 x1 x2 x3 : Int) : depthsL [0, 4] (spaC 13 [x0, x1, x2, x3]) = .ok (spaD 4 13) := by kernel_rfl
theorem spa_deps4_14 (x0 x1 x2 x3 : Int) : depthsL [0, 4] (spaC 14 [x0, x1, x2, x3]) = .ok (spaD 4 14) := by kernel_rfl
theorem spa_deps4_15 (x0 x1 x2 x3 : Int) : depthsL [0, 4] (spaC 15 [x0, x1, x2, x3]) = .ok (spaD 4 15) := by kernel_rfl
theorem spa_deps4_16 (x0 x1 x2 x3 : Int) : depthsL [0, 4] (spaC 16 [x0, x1, x2, x3]) = .ok (spaD 4 16) := by kernel_rfl
theorem spa_deps4_17 (x0 x1 x2 x3 : Int) : depthsL [0, 4] (spaC 17 [x0, x1, x2, x3]) = .ok (spaD 4 17) := by kernel_rfl
theorem spa_deps4_18 (x0 x1 x2 x3 : Int) : depthsL [0, 4] (spaC 18 [x0, x1, x2, x3]) = .ok (spaD 4 18) := by kernel_rfl
theorem spa_deps4_19 (x0 x1 x2 x3 : Int) : depthsL [0, 4] (spaC 19 [x0, x1, x2, x3]) = .ok (spaD 4 19) := by kernel_rfl
theorem spa_deps4_20 (x0 x1 x2 x3 : Int) : depthsL [0, 4] (spaC 20 [x0, x1, x2, x3]) = .ok (spaD 4 20) := by kernel_rfl
theorem spa_deps4 (x0 x1 x2 x3 : Int) : ∀ n : Nat, 1 ≤ n → n ≤ 20 → depthsL [0, 4] (spaC n [x0, x1, x2, x3]) = .ok (spaD 4 n)
  | 0, h, _ => by omega
  | 1, _, _ => spa_deps4_1 x0 x1 x2 x3
  | 2, _, _ => spa_deps4_2 x0 x1 x2 x3
  | 3, _, _ => spa_deps4_3 x0 x1 x2 x3
  | 4, _, _ => spa_deps4_4 x0 x1 x2 x3
  | 5, _, _ => spa_deps4_5 x0 x1 x2 x3
  | 6, _, _ => spa_deps4_6 x0 x1 x2 x3
  | 7, _, _ => spa_deps4_7 x0 x1 x2 x3
  | 8, _, _ => spa_deps4_8 x0 x1 x2 x3
  | 9, _, _ => spa_deps4_9 x0 x1 x2 x3
  | 10, _, _ => spa_deps4_10 x0 x1 x2 x3
  | 11, _, _ => spa_deps4_11 x0 x1 x2 x3
  | 12, _, _ => spa_deps4_12 x0 x1 x2 x3
  | 13, _, _ => spa_deps4_13 x0 x1 x2 x3
  | 14, _, _ => spa_deps4_14 x0 x1 x2 x3
  | 15, _, _ => spa_deps4_15 x0 x1 x2 x3
  | 16, _, _ => spa_deps4_16 x0 x1 x2 x3
  | 17, _, _ => spa_deps4_17 x0 x1 x2 x3
  | 18, _, _ => spa_deps4_18 x0 x1 x2 x3
  | 19, _, _ => spa_deps4_19 x0 x1 x2 x3
  | 20, _, _ => spa_deps4_20 x0 x1 x2 x3
  | n + 21, _, h => by omega
end Go.Proofs.YtlhfjeohhfdccaaDoor
