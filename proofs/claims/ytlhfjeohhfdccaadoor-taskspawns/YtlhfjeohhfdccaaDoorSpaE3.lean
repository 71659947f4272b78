/- TaskSpawns: its depths. -/
import Derived.Test.YtlhfjeohhfdccaaDoorSpaD
namespace Go.Proofs.YtlhfjeohhfdccaaDoor
open Go.RowKit Go.ChangeShapes Go.WideShapes Go.ChangeAt Go.Deep

theorem spa_deps6_1 (x0 x1 x2 x3 x4 x5 : Int) : depthsL [0, 6] (spaC 1 [x0, x1, x2, x3, x4, x5]) = .ok (spaD 6 1) := by kernel_rfl
theorem spa_deps6_2 (x0 x1 x2 x3 x4 x5 : Int) : depthsL [0, 6] (spaC 2 [x0, x1, x2, x3, x4, x5]) = .ok (spaD 6 2) := by kernel_rfl
theorem spa_deps6_3 (x0 x1 x2 x3 x4 x5 : Int) : depthsL [0, 6] (spaC 3 [x0, x1, x2, x3, x4, x5]) = .ok (spaD 6 3) := by kernel_rfl
theorem spa_deps6_4 (x0 x1 x2 x3 x4 x5 : Int) : depthsL [0, 6] (spaC 4 [x0, x1, x2, x3, x4, x5]) = .ok (spaD 6 4) := by kernel_rfl
theorem spa_deps6_5 (x0 x1 x2 x3 x4 x5 : Int) : depthsL [0, 6] (spaC 5 [x0, x1, x2, x3, x4, x5]) = .ok (spaD 6 5) := by kernel_rfl
theorem spa_deps6_6 (x0 x1 x2 x3 x4 x5 : Int) : depthsL [0, 6] (spaC 6 [x0, x1, x2, x3, x4, x5]) = .ok (spaD 6 6) := by kernel_rfl
theorem spa_deps6_7 (x0 x1 x2 x3 x4 x5 : Int) : depthsL [0, 6] (spaC 7 [x0, x1, x2, x3, x4, x5]) = .ok (spaD 6 7) := by kernel_rfl
theorem spa_deps6_8 (x0 x1 x2 x3 x4 x5 : Int) : depthsL [0, 6] (spaC 8 [x0, x1, x2, x3, x4, x5]) = .ok (spaD 6 8) := by kernel_rfl
theorem spa_deps6_9 (x0 x1 x2 x3 x4 x5 : Int) : depthsL [0, 6] (spaC 9 [x0, x1, x2, x3, x4, x5]) = .ok (spaD 6 9) := by kernel_rfl
theorem spa_deps6_10 (x0 x1 x2 x3 x4 x5 : Int) : depthsL [0, 6] (spaC 10 [x0, x1, x2, x3, x4, x5]) = .ok (spaD 6 10) := by kernel_rfl
theorem spa_deps6_11 (x0 x1 x2 x3 x4 x5 : Int) : depthsL [0, 6] (spaC 11 [x0, x1, x2, x3, x4, x5]) = .ok (spaD 6 11) := by kernel_rfl
theorem spa_deps6_12 (x0 x1 x2 x3 x4 x5 : Int) : depthsL [0, 6] (spaC 12 [x0, x1, x2, x3, x4, x5]) = .ok (spaD 6 12) := by kernel_rfl
theorem spa_deps6_13 (x0 x1 x2 x3 x4 x5 : Int) : depthsL [0, 6] (spaC 13 [x0, x1, x2, x3, x4, x5]) = .ok (spaD 6 13) := by kernel_rfl
theorem spa_deps6_14 (x0 x1 x2 x3 x4 x5 : Int) : depthsL [0, 6] (spaC 14 [x0, x1, x2, x3, x4, x5]) = .ok (spaD 6 14) := by kernel_rfl
theorem spa_deps6_15 (x0 x1 x2 x3 x4 x5 : Int) : depthsL [0, 6] (spaC 15 [x0, x1, x2, x3, x4, x5]) = .ok (spaD 6 15) := by kernel_rfl
theorem spa_deps6_16 (x0 x1 x2 x3 x4 x5 : Int) : depthsL [0, 6] (spaC 16 [x0, x1, x2, x3, x4, x5]) = .ok (spaD 6 16) := by kernel_rfl
theorem spa_deps6_17 (x0 x1 x2 x3 x4 x5 : Int) : depthsL [0, 6] (spaC 17 [x0, x1, x2, x3, x4, x5]) = .ok (spaD 6 17) := by kernel_rfl
theorem spa_deps6_18 (x0 x1 x2 x3 x4 x5 : Int) : depthsL [0, 6] (spaC 18 [x0, x1, x2, x3, x4, x5]) = .ok (spaD 6 18) := by kernel_rfl
theorem spa_deps6_19 (x0 x1 x2 x3 x4 x5 : Int) : depthsL [0, 6] (spaC 19 [x0, x1, x2, x3, x4, x5]) = .ok (spaD 6 19) := by kernel_rfl
theorem spa_deps6_20 (x0 x1 x2 x3 x4 x5 : Int) : depthsL [0, 6] (spaC 20 [x0, x1, x2, x3, x4, x5]) = .ok (spaD 6 20) := by kernel_rfl
theorem spa_deps6 (x0 x1 x2 x3 x4 x5 : Int) : ∀ n : Nat, 1 ≤ n → n ≤ 20 → depthsL [0, 6] (spaC n [x0, x1, x2, x3, x4, x5]) = .ok (spaD 6 n)
  | 0, h, _ => by omega
  | 1, _, _ => spa_deps6_1 x0 x1 x2 x3 x4 x5
  | 2, _, _ => spa_deps6_2 x0 x1 x2 x3 x4 x5
  | 3, _, _ => spa_deps6_3 x0 x1 x2 x3 x4 x5
  | 4, _, _ => spa_deps6_4 x0 x1 x2 x3 x4 x5
  | 5, _, _ => spa_deps6_5 x0 x1 x2 x3 x4 x5
  | 6, _, _ => spa_deps6_6 x0 x1 x2 x3 x4 x5
  | 7, _, _ => spa_deps6_7 x0 x1 x2 x3 x4 x5
  | 8, _, _ => spa_deps6_8 x0 x1 x2 x3 x4 x5
  | 9, _, _ => spa_deps6_9 x0 x1 x2 x3 x4 x5
  | 10, _, _ => spa_deps6_10 x0 x1 x2 x3 x4 x5
  | 11, _, _ => spa_deps6_11 x0 x1 x2 x3 x4 x5
  | 12, _, _ => spa_deps6_12 x0 x1 x2 x3 x4 x5
  | 13, _, _ => spa_deps6_13 x0 x1 x2 x3 x4 x5
  | 14, _, _ => spa_deps6_14 x0 x1 x2 x3 x4 x5
  | 15, _, _ => spa_deps6_15 x0 x1 x2 x3 x4 x5
  | 16, _, _ => spa_deps6_16 x0 x1 x2 x3 x4 x5
  | 17, _, _ => spa_deps6_17 x0 x1 x2 x3 x4 x5
  | 18, _, _ => spa_deps6_18 x0 x1 x2 x3 x4 x5
  | 19, _, _ => spa_deps6_19 x0 x1 x2 x3 x4 x5
  | 20, _, _ => spa_deps6_20 x0 x1 x2 x3 x4 x5
  | n + 21, _, h => by omega
theorem spa_deps5_1 (x0 x1 x2 x3 x4 : Int) : depthsL [0, 5] (spaC 1 [x0, x1, x2, x3, x4]) = .ok (spaD 5 1) := by kernel_rfl
theorem spa_deps5_2 (x0 x1 x2 x3 x4 : Int) : depthsL [0, 5] (spaC 2 [x0, x1, x2, x3, x4]) = .ok (spaD 5 2) := by kernel_rfl
theorem spa_deps5_3 (x0 x1 x2 x3 x4 : Int) : depthsL [0, 5] (spaC 3 [x0, x1, x2, x3, x4]) = .ok (spaD 5 3) := by kernel_rfl
theorem spa_deps5_4 (x0 x1 x2 x3 x4 : Int) : depthsL [0, 5] (spaC 4 [x0, x1, x2, x3, x4]) = .ok (spaD 5 4) := by kernel_rfl
theorem spa_deps5_5 (x0 x1 x2 x3 x4 : Int) : depthsL [0, 5] (spaC 5 [x0, x1, x2, x3, x4]) = .ok (spaD 5 5) := by kernel_rfl
theorem spa_deps5_6 (x0 x1 x2 x3 x4 : Int) : depthsL [0, 5] (spaC 6 [x0, x1, x2, x3, x4]) = .ok (spaD 5 6) := by kernel_rfl
theorem spa_deps5_7 (x0 x1 x2 x3 x4 : Int) : depthsL [0, 5] (spaC 7 [x0, x1, x2, x3, x4]) = .ok (spaD 5 7) := by kernel_rfl
theorem spa_deps5_8 (x0 x1 x2 x3 x4 : Int) : depthsL [0, 5] (spaC 8 [x0, x1, x2, x3, x4]) = .ok (spaD 5 8) := by kernel_rfl
theorem spa_deps5_9 (x0 x1 x2 x3 x4 : Int) : depthsL [0, 5] (spaC 9 [x0, x1, x2, x3, x4]) = .ok (spaD 5 9) := by kernel_rfl
theorem spa_deps5_10 (x0 x1 x2 x3 x4 : Int) : depthsL [0, 5] (spaC 10 [x0, x1, x2, x3, x4]) = .ok (spaD 5 10) := by kernel_rfl
theorem spa_deps5_11 (x0 x1 x2 x3 x4 : Int) : depthsL [0, 5] (spaC 11 [x0, x1, x2, x3, x4]) = .ok (spaD 5 11) := by kernel_rfl
theorem spa_deps5_12 (x0 x1 x2 x3 x4 : Int) : depthsL [0, 5] (spaC 12 [x0, x1, x2, x3, x4]) = .ok (spaD 5 12) := by kernel_rfl
theorem spa_deps5_13 (x0 x1 x2 x3 x4 : Int) : depthsL [0, 5] (spaC 13 [x0, x1, x2, x3, x4]) = .ok (spaD 5 13) := by kernel_rfl
theorem spa_deps5_14 (x0 x1 x2 x3 x4 : Int) : depthsL [0, 5] (spaC 14 [x0, x1, x2, x3, x4]) = .ok (spaD 5 14) := by kernel_rfl
theorem spa_deps5_15 (x0 x1 x2 x3 x4 : Int) : depthsL [0, 5] (spaC 15 [x0, x1, x2, x3, x4]) = .ok (spaD 5 15) := by kernel_rfl
theorem spa_deps5_16 (x0 x1 x2 x3 x4 : Int) : depthsL [0, 5] (spaC 16 [x0, x1, x2, x3, x4]) = .ok (spaD 5 16) := by kernel_rfl
theorem spa_deps5_17 (x0 x1 x2 x3 x4 : Int) : depthsL [0, 5] (spaC 17 [x0, x1, x2, x3, x4]) = .ok (spaD 5 17) := by kernel_rfl
theorem spa_deps5_18 (x0 x1 x2 x3 x4 : Int) : depthsL [0, 5] (spaC 18 [x0, x1, x2, x3, x4]) = .ok (spaD 5 18) := by kernel_rfl
theorem spa_deps5_19 (x0 x1 x2 x3 x4 : Int) : depthsL [0, 5] (spaC 19 [x0, x1, x2, x3, x4]) = .ok (spaD 5 19) := by kernel_rfl
theorem spa_deps5_20 (x0 x1 x2 x3 x4 : Int) : depthsL [0, 5] (spaC 20 [x0, x1, x2, x3, x4]) = .ok (spaD 5 20) := by kernel_rfl
theorem spa_deps5 (x0 x1 x2 x3 x4 : Int) : ∀ n : Nat, 1 ≤ n → n ≤ 20 → depthsL [0, 5] (spaC n [x0, x1, x2, x3, x4]) = .ok (spaD 5 n)
  | 0, h, _ => by omega
  | 1, _, _ => spa_deps5_1 x0 x1 x2 x3 x4
  | 2, _, _ => spa_deps5_2 x0 x1 x2 x3 x4
  | 3, _, _ => spa_deps5_3 x0 x1 x2 x3 x4
  | 4, _, _ => spa_deps5_4 x0 x1 x2 x3 x4
  | 5, _, _ => spa_deps5_5 x0 x1 x2 x3 x4
  | 6, _, _ => spa_deps5_6 x0 x1 x2 x3 x4
  | 7, _, _ => spa_deps5_7 x0 x1 x2 x3 x4
  | 8, _, _ => spa_deps5_8 x0 x1 x2 x3 x4
  | 9, _, _ => spa_deps5_9 x0 x1 x2 x3 x4
  | 10, _, _ => spa_deps5_10 x0 x1 x2 x3 x4
  | 11, _, _ => spa_deps5_11 x0 x1 x2 x3 x4
  | 12, _, _ => spa_deps5_12 x0 x1 x2 x3 x4
  | 13, _, _ => spa_deps5_13 x0 x1 x2 x3 x4
  | 14, _, _ => spa_deps5_14 x0 x1 x2 x3 x4
  | 15, _, _ => spa_deps5_15 x0 x1 x2 x3 x4
  | 16, _, _ => spa_deps5_16 x0 x1 x2 x3 x4
  | 17, _, _ => spa_deps5_17 x0 x1 x2 x3 x4
  | 18, _, _ => spa_deps5_18 x0 x1 x2 x3 x4
  | 19, _, _ => spa_deps5_19 x0 x1 x2 x3 x4
  | 20, _, _ => spa_deps5_20 x0 x1 x2 x3 x4
  | n + 21, _, h => by omega
theorem spa_deps2_1 (x0 x1 : Int) : depthsL [0, 2] (spaC 1 [x0, x1]) = .ok (spaD 2 1) := by kernel_rfl
theorem spa_deps2_2 (x0 x1 : Int) : depthsL [0, 2] (spaC 2 [x0, x1]) = .ok (spaD 2 2) := by kernel_rfl
theorem spa_deps2_3 (x0 x1 : Int) : depthsL [0, 2] (spaC 3 [x0, x1]) = .ok (spaD 2 3) := by kernel_rfl
theorem spa_deps2_4 (x0 x1 : Int) : depthsL [0, 2] (spaC 4 [x0, x1]) = .ok (spaD 2 4) := by kernel_rfl
theorem spa_deps2_5 (x0 x1 : Int) : depthsL [0, 2] (spaC 5 [x0, x1]) = .ok (spaD 2 5) := by kernel_rfl
theorem spa_deps2_6 (x0 x1 : Int) : depthsL [0, 2] (spaC 6 [x0, x1]) = .ok (spaD 2 6) := by kernel_rfl
theorem spa_deps2_7 (x0 x1 : Int) : depthsL [0, 2] (spaC 7 [x0, x1]) = .ok (spaD 2 7) := by kernel_rfl
theorem spa_deps2_8 (x0 x1 : Int) : depthsL [0, 2] (spaC 8 [x0, x1]) = .ok (spaD 2 8) := by kernel_rfl
theorem spa_deps2_9 (x0 x1 : Int) : depthsL [0, 2] (spaC 9 [x0, x1]) = .ok (spaD 2 9) := by kernel_rfl
theorem spa_deps2_10 (x0 x1 : Int) : depthsL [0, 2] (spaC 10 [x0, x1]) = .ok (spaD 2 10) := by kernel_rfl
theorem spa_deps2_11 (x0 x1 : Int) : depthsL [0, 2] (spaC 11 [x0, x1]) = .ok (spaD 2 11) := by kernel_rfl
theorem spa_deps2_12 (x0 x1 : Int) : depthsL [0, 2] (spaC 12 [x0, x1]) = .ok (spaD 2 12) := by kernel_rfl
theorem spa_deps2_13 (x0 x1 : Int) : depthsL [0, 2] (spaC 13 [x0, x1]) = .ok (spaD 2 13) := by kernel_rfl
theorem spa_deps2_14 (x0 x1 : Int) : depthsL [0, 2] (spaC 14 [x0, x1]) = .ok (spaD 2 14) := by kernel_rfl
theorem spa_deps2_15 (x0 x1 : Int) : depthsL [0, 2] (spaC 15 [x0, x1]) = .ok (spaD 2 15) := by kernel_rfl
theorem spa_deps2_16 (x0 x1 : Int) : depthsL [0, 2] (spaC 16 [x0, x1]) = .ok (spaD 2 16) := by kernel_rfl
theorem spa_deps2_17 (x0 x1 : Int) : depthsL [0, 2] (spaC 17 [x0, x1]) = .ok (spaD 2 17) := by kernel_rfl
theorem spa_deps2_18 (x0 x1 : Int) : depthsL [0, 2] (spaC 18 [x0, x1]) = .ok (spaD 2 18) := by kernel_rfl
theorem spa_deps2_19 (x0 x1 : Int) : depthsL [0, 2] (spaC 19 [x0, x1]) = .ok (spaD 2 19) := by kernel_rfl
theorem spa_deps2_20 (x0 x1 : Int) : depthsL [0, 2] (spaC 20 [x0, x1]) = .ok (spaD 2 20) := by kernel_rfl
theorem spa_deps2 (x0 x1 : Int) : ∀ n : Nat, 1 ≤ n → n ≤ 20 → depthsL [0, 2] (spaC n [x0, x1]) = .ok (spaD 2 n)
  | 0, h, _ => by omega
  | 1, _, _ => spa_deps2_1 x0 x1
  | 2, _, _ => spa_deps2_2 x0 x1
  | 3, _, _ => spa_deps2_3 x0 x1
  | 4, _, _ => spa_deps2_4 x0 x1
  | 5, _, _ => spa_deps2_5 x0 x1
  | 6, _, _ => spa_deps2_6 x0 x1
  | 7, _, _ => spa_deps2_7 x0 x1
  | 8, _, _ => spa_deps2_8 x0 x1
  | 9, _, _ => spa_deps2_9 x0 x1
  | 10, _, _ => spa_deps2_10 x0 x1
  | 11, _, _ => spa_deps2_11 x0 x1
  | 12, _, _ => spa_deps2_12 x0 x1
  | 13, _, _ => spa_deps2_13 x0 x1
  | 14, _, _ => spa_deps2_14 x0 x1
  | 15, _, _ => spa_deps2_15 x0 x1
  | 16, _, _ => spa_deps2_16 x0 x1
  | 17, _, _ => spa_deps2_17 x0 x1
  | 18, _, _ => spa_deps2_18 x0 x1
  | 19, _, _ => spa_deps2_19 x0 x1
  | 20, _, _ => spa_deps2_20 x0 x1
  | n + 21, _, h => by omega
theorem spa_deps1_1 (x0 : Int) : depthsL [0, 1] (spaC 1 [x0]) = .ok (spaD 1 1) := by kernel_rfl
theorem spa_deps1_2 (x0 : Int) : depthsL [0, 1] (spaC 2 [x0]) = .ok (spaD 1 2) := by kernel_rfl
theorem spa_deps1_3 (x0 : Int) : depthsL [0, 1] (spaC 3 [x0]) = .ok (spaD 1 3) := by kernel_rfl
theorem spa_deps1_4 (x0 : Int) : depthsL [0, 1] (spaC 4 [x0]) = .ok (spaD 1 4) := by kernel_rfl
theorem spa_deps1_5 (x0 : Int) : depthsL [0, 1] (spaC 5 [x0]) = .ok (spaD 1 5) := by kernel_rfl
theorem spa_deps1_6 (x0 : Int) : depthsL [0, 1] (spaC 6 [x0]) = .ok (spaD 1 6) := by kernel_rfl
theorem spa_deps1_7 (x0 : Int) : depthsL [0, 1] (spaC 7 [x0]) = .ok (spaD 1 7) := by kernel_rfl
theorem spa_deps1_8 (x0 : Int) : depthsL [0, 1] (spaC 8 [x0]) = .ok (spaD 1 8) := by kernel_rfl
theorem spa_deps1_9 (x0 : Int) : depthsL [0, 1] (spaC 9 [x0]) = .ok (spaD 1 9) := by kernel_rfl
theorem spa_deps1_10 (x0 : Int) : depthsL [0, 1] (spaC 10 [x0]) = .ok (spaD 1 10) := by kernel_rfl
theorem spa_deps1_11 (x0 : Int) : depthsL [0, 1] (spaC 11 [x0]) = .ok (spaD 1 11) := by kernel_rfl
theorem spa_deps1_12 (x0 : Int) : depthsL [0, 1] (spaC 12 [x0]) = .ok (spaD 1 12) := by kernel_rfl
theorem spa_deps1_13 (x0 : Int) : depthsL [0, 1] (spaC 13 [x0]) = .ok (spaD 1 13) := by kernel_rfl
theorem spa_deps1_14 (x0 : Int) : depthsL [0, 1] (spaC 14 [x0]) = .ok (spaD 1 14) := by kernel_rfl
theorem spa_deps1_15 (x0 : Int) : depthsL [0, 1] (spaC 15 [x0]) = .ok (spaD 1 15) := by kernel_rfl
theorem spa_deps1_16 (x0 : Int) : depthsL [0, 1] (spaC 16 [x0]) = .ok (spaD 1 16) := by kernel_rfl
theorem spa_deps1_17 (x0 : Int) : depthsL [0, 1] (spaC 17 [x0]) = .ok (spaD 1 17) := by kernel_rfl
theorem spa_deps1_18 (x0 : Int) : depthsL [0, 1] (spaC 18 [x0]) = .ok (spaD 1 18) := by kernel_rfl
theorem spa_deps1_19 (x0 : Int) : depthsL [0, 1] (spaC 19 [x0]) = .ok (spaD 1 19) := by kernel_rfl
theorem spa_deps1_20 (x0 : Int) : depthsL [0, 1] (spaC 20 [x0]) = .ok (spaD 1 20) := by kernel_rfl
theorem spa_deps1 (x0 : Int) : ∀ n : Nat, 1 ≤ n → n ≤ 20 → depthsL [0, 1] (spaC n [x0]) = .ok (spaD 1 n)
  | 0, h, _ => by omega
  | 1, _, _ => spa_deps1_1 x0
  | 2, _, _ => spa_deps1_2 x0
  | 3, _, _ => spa_deps1_3 x0
  | 4, _, _ => spa_deps1_4 x0
  | 5, _, _ => spa_deps1_5 x0
  | 6, _, _ => spa_deps1_6 x0
  | 7, _, _ => spa_deps1_7 x0
  | 8, _, _ => spa_deps1_8 x0
  | 9, _, _ => spa_deps1_9 x0
  | 10, _, _ => spa_deps1_10 x0
  | 11, _, _ => spa_deps1_11 x0
  | 12, _, _ => spa_deps1_12 x0
  | 13, _, _ => spa_deps1_13 x0
  | 14, _, _ => spa_deps1_14 x0
  | 15, _, _ => spa_deps1_15 x0
  | 16, _, _ => spa_deps1_16 x0
  | 17, _, _ => spa_deps1_17 x0
  | 18, _, _ => spa_deps1_18 x0
  | 19, _, _ => spa_deps1_19 x0
  | 20, _, _ => spa_deps1_20 x0
  | n + 21, _, h => by omega
end Go.Proofs.YtlhfjeohhfdccaaDoor
