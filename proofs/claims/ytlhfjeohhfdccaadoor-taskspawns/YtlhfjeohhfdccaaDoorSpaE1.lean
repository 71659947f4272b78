/- TaskSpawns: its depths. -/
import Derived.Test.YtlhfjeohhfdccaaDoorSpaD
namespace Go.Proofs.YtlhfjeohhfdccaaDoor
open Go.RowKit Go.ChangeShapes Go.WideShapes Go.ChangeAt Go.Deep

theorem spa_deps8_1 (x0 x1 x2 x3 x4 x5 x6 x7 : Int) : depthsL [0, 8] (spaC 1 [x0, x1, x2, x3, x4, x5, x6, x7]) = .ok (spaD 8 1) := by kernel_rfl
theorem spa_deps8_2 (x0 x1 x2 x3 x4 x5 x6 x7 : Int) : depthsL [0, 8] (spaC 2 [x0, x1, x2, x3, x4, x5, x6, x7]) = .ok (spaD 8 2) := by kernel_rfl
theorem spa_deps8_3 (x0 x1 x2 x3 x4 x5 x6 x7 : Int) : depthsL [0, 8] (spaC 3 [x0, x1, x2, x3, x4, x5, x6, x7]) = .ok (spaD 8 3) := by kernel_rfl
theorem spa_deps8_4 (x0 x1 x2 x3 x4 x5 x6 x7 : Int) : depthsL [0, 8] (spaC 4 [x0, x1, x2, x3, x4, x5, x6, x7]) = .ok (spaD 8 4) := by kernel_rfl
theorem spa_deps8_5 (x0 x1 x2 x3 x4 x5 x6 x7 : Int) : depthsL [0, 8] (spaC 5 [x0, x1, x2, x3, x4, x5, x6, x7]) = .ok (spaD 8 5) := by kernel_rfl
theorem spa_deps8_6 (x0 x1 x2 x3 x4 x5 x6 x7 : Int) : depthsL [0, 8] (spaC 6 [x0, x1, x2, x3, x4, x5, x6, x7]) = .ok (spaD 8 6) := by kernel_rfl
theorem spa_deps8_7 (x0 x1 x2 x3 x4 x5 x6 x7 : Int) : depthsL [0, 8] (spaC 7 [x0, x1, x2, x3, x4, x5, x6, x7]) = .ok (spaD 8 7) := by kernel_rfl
theorem spa_deps8_8 (x0 x1 x2 x3 x4 x5 x6 x7 : Int) : depthsL [0, 8] (spaC 8 [x0, x1, x2, x3, x4, x5, x6, x7]) = .ok (spaD 8 8) := by kernel_rfl
theorem spa_deps8_9 (x0 x1 x2 x3 x4 x5 x6 x7 : Int) : depthsL [0, 8] (spaC 9 [x0, x1, x2, x3, x4, x5, x6, x7]) = .ok (spaD 8 9) := by kernel_rfl
theorem spa_deps8_10 (x0 x1 x2 x3 x4 x5 x6 x7 : Int) : depthsL [0, 8] (spaC 10 [x0, x1, x2, x3, x4, x5, x6, x7]) = .ok (spaD 8 10) := by kernel_rfl
theorem spa_deps8_11 (x0 x1 x2 x3 x4 x5 x6 x7 : Int) : depthsL [0, 8] (spaC 11 [x0, x1, x2, x3, x4, x5, x6, x7]) = .ok (spaD 8 11) := by kernel_rfl
theorem spa_deps8_12 (x0 x1 x2 x3 x4 x5 x6 x7 : Int) : depthsL [0, 8] (spaC 12 [x0, x1, x2, x3, x4, x5, x6, x7]) = .ok (spaD 8 12) := by kernel_rfl
theorem spa_deps8_13 (x0 x1 x2 x3 x4 x5 x6 x7 : Int) : depthsL [0, 8] (spaC 13 [x0, x1, x2, x3, x4, x5, x6, x7]) = .ok (spaD 8 13) := by kernel_rfl
theorem spa_deps8_14 (x0 x1 x2 x3 x4 x5 x6 x7 : Int) : depthsL [0, 8] (spaC 14 [x0, x1, x2, x3, x4, x5, x6, x7]) = .ok (spaD 8 14) := by kernel_rfl
theorem spa_deps8_15 (x0 x1 x2 x3 x4 x5 x6 x7 : Int) : depthsL [0, 8] (spaC 15 [x0, x1, x2, x3, x4, x5, x6, x7]) = .ok (spaD 8 15) := by kernel_rfl
theorem spa_deps8_16 (x0 x1 x2 x3 x4 x5 x6 x7 : Int) : depthsL [0, 8] (spaC 16 [x0, x1, x2, x3, x4, x5, x6, x7]) = .ok (spaD 8 16) := by kernel_rfl
theorem spa_deps8_17 (x0 x1 x2 x3 x4 x5 x6 x7 : Int) : depthsL [0, 8] (spaC 17 [x0, x1, x2, x3, x4, x5, x6, x7]) = .ok (spaD 8 17) := by kernel_rfl
theorem spa_deps8_18 (x0 x1 x2 x3 x4 x5 x6 x7 : Int) : depthsL [0, 8] (spaC 18 [x0, x1, x2, x3, x4, x5, x6, x7]) = .ok (spaD 8 18) := by kernel_rfl
theorem spa_deps8_19 (x0 x1 x2 x3 x4 x5 x6 x7 : Int) : depthsL [0, 8] (spaC 19 [x0, x1, x2, x3, x4, x5, x6, x7]) = .ok (spaD 8 19) := by kernel_rfl
theorem spa_deps8_20 (x0 x1 x2 x3 x4 x5 x6 x7 : Int) : depthsL [0, 8] (spaC 20 [x0, x1, x2, x3, x4, x5, x6, x7]) = .ok (spaD 8 20) := by kernel_rfl
theorem spa_deps8 (x0 x1 x2 x3 x4 x5 x6 x7 : Int) : ∀ n : Nat, 1 ≤ n → n ≤ 20 → depthsL [0, 8] (spaC n [x0, x1, x2, x3, x4, x5, x6, x7]) = .ok (spaD 8 n)
  | 0, h, _ => by omega
  | 1, _, _ => spa_deps8_1 x0 x1 x2 x3 x4 x5 x6 x7
  | 2, _, _ => spa_deps8_2 x0 x1 x2 x3 x4 x5 x6 x7
  | 3, _, _ => spa_deps8_3 x0 x1 x2 x3 x4 x5 x6 x7
  | 4, _, _ => spa_deps8_4 x0 x1 x2 x3 x4 x5 x6 x7
  | 5, _, _ => spa_deps8_5 x0 x1 x2 x3 x4 x5 x6 x7
  | 6, _, _ => spa_deps8_6 x0 x1 x2 x3 x4 x5 x6 x7
  | 7, _, _ => spa_deps8_7 x0 x1 x2 x3 x4 x5 x6 x7
  | 8, _, _ => spa_deps8_8 x0 x1 x2 x3 x4 x5 x6 x7
  | 9, _, _ => spa_deps8_9 x0 x1 x2 x3 x4 x5 x6 x7
  | 10, _, _ => spa_deps8_10 x0 x1 x2 x3 x4 x5 x6 x7
  | 11, _, _ => spa_deps8_11 x0 x1 x2 x3 x4 x5 x6 x7
  | 12, _, _ => spa_deps8_12 x0 x1 x2 x3 x4 x5 x6 x7
  | 13, _, _ => spa_deps8_13 x0 x1 x2 x3 x4 x5 x6 x7
  | 14, _, _ => spa_deps8_14 x0 x1 x2 x3 x4 x5 x6 x7
  | 15, _, _ => spa_deps8_15 x0 x1 x2 x3 x4 x5 x6 x7
  | 16, _, _ => spa_deps8_16 x0 x1 x2 x3 x4 x5 x6 x7
  | 17, _, _ => spa_deps8_17 x0 x1 x2 x3 x4 x5 x6 x7
  | 18, _, _ => spa_deps8_18 x0 x1 x2 x3 x4 x5 x6 x7
  | 19, _, _ => spa_deps8_19 x0 x1 x2 x3 x4 x5 x6 x7
  | 20, _, _ => spa_deps8_20 x0 x1 x2 x3 x4 x5 x6 x7
  | n + 21, _, h => by omega
theorem spa_deps3_1 (x0 x1 x2 : Int) : depthsL [0, 3] (spaC 1 [x0, x1, x2]) = .ok (spaD 3 1) := by kernel_rfl
theorem spa_deps3_2 (x0 x1 x2 : Int) : depthsL [0, 3] (spaC 2 [x0, x1, x2]) = .ok (spaD 3 2) := by kernel_rfl
theorem spa_deps3_3 (x0 x1 x2 : Int) : depthsL [0, 3] (spaC 3 [x0, x1, x2]) = .ok (spaD 3 3) := by kernel_rfl
theorem spa_deps3_4 (x0 x1 x2 : Int) : depthsL [0, 3] (spaC 4 [x0, x1, x2]) = .ok (spaD 3 4) := by kernel_rfl
theorem spa_deps3_5 (x0 x1 x2 : Int) : depthsL [0, 3] (spaC 5 [x0, x1, x2]) = .ok (spaD 3 5) := by kernel_rfl
theorem spa_deps3_6 (x0 x1 x2 : Int) : depthsL [0, 3] (spaC 6 [x0, x1, x2]) = .ok (spaD 3 6) := by kernel_rfl
theorem spa_deps3_7 (x0 x1 x2 : Int) : depthsL [0, 3] (spaC 7 [x0, x1, x2]) = .ok (spaD 3 7) := by kernel_rfl
theorem spa_deps3_8 (x0 x1 x2 : Int) : depthsL [0, 3] (spaC 8 [x0, x1, x2]) = .ok (spaD 3 8) := by kernel_rfl
theorem spa_deps3_9 (x0 x1 x2 : Int) : depthsL [0, 3] (spaC 9 [x0, x1, x2]) = .ok (spaD 3 9) := by kernel_rfl
theorem spa_deps3_10 (x0 x1 x2 : Int) : depthsL [0, 3] (spaC 10 [x0, x1, x2]) = .ok (spaD 3 10) := by kernel_rfl
theorem spa_deps3_11 (x0 x1 x2 : Int) : depthsL [0, 3] (spaC 11 [x0, x1, x2]) = .ok (spaD 3 11) := by kernel_rfl
theorem spa_deps3_12 (x0 x1 x2 : Int) : depthsL [0, 3] (spaC 12 [x0, x1, x2]) = .ok (spaD 3 12) := by kernel_rfl
theorem spa_deps3_13 (x0 x1 x2 : Int) : depthsL [0, 3] (spaC 13 [x0, x1, x2]) = .ok (spaD 3 13) := by kernel_rfl
theorem spa_deps3_14 (x0 x1 x2 : Int) : depthsL [0, 3] (spaC 14 [x0, x1, x2]) = .ok (spaD 3 14) := by kernel_rfl
theorem spa_deps3_15 (x0 x1 x2 : Int) : depthsL [0, 3] (spaC 15 [x0, x1, x2]) = .ok (spaD 3 15) := by kernel_rfl
theorem spa_deps3_16 (x0 x1 x2 : Int) : depthsL [0, 3] (spaC 16 [x0, x1, x2]) = .ok (spaD 3 16) := by kernel_rfl
theorem spa_deps3_17 (x0 x1 x2 : Int) : depthsL [0, 3] (spaC 17 [x0, x1, x2]) = .ok (spaD 3 17) := by kernel_rfl
theorem spa_deps3_18 (x0 x1 x2 : Int) : depthsL [0, 3] (spaC 18 [x0, x1, x2]) = .ok (spaD 3 18) := by kernel_rfl
theorem spa_deps3_19 (x0 x1 x2 : Int) : depthsL [0, 3] (spaC 19 [x0, x1, x2]) = .ok (spaD 3 19) := by kernel_rfl
theorem spa_deps3_20 (x0 x1 x2 : Int) : depthsL [0, 3] (spaC 20 [x0, x1, x2]) = .ok (spaD 3 20) := by kernel_rfl
theorem spa_deps3 (x0 x1 x2 : Int) : ∀ n : Nat, 1 ≤ n → n ≤ 20 → depthsL [0, 3] (spaC n [x0, x1, x2]) = .ok (spaD 3 n)
  | 0, h, _ => by omega
  | 1, _, _ => spa_deps3_1 x0 x1 x2
  | 2, _, _ => spa_deps3_2 x0 x1 x2
  | 3, _, _ => spa_deps3_3 x0 x1 x2
  | 4, _, _ => spa_deps3_4 x0 x1 x2
  | 5, _, _ => spa_deps3_5 x0 x1 x2
  | 6, _, _ => spa_deps3_6 x0 x1 x2
  | 7, _, _ => spa_deps3_7 x0 x1 x2
  | 8, _, _ => spa_deps3_8 x0 x1 x2
  | 9, _, _ => spa_deps3_9 x0 x1 x2
  | 10, _, _ => spa_deps3_10 x0 x1 x2
  | 11, _, _ => spa_deps3_11 x0 x1 x2
  | 12, _, _ => spa_deps3_12 x0 x1 x2
  | 13, _, _ => spa_deps3_13 x0 x1 x2
  | 14, _, _ => spa_deps3_14 x0 x1 x2
  | 15, _, _ => spa_deps3_15 x0 x1 x2
  | 16, _, _ => spa_deps3_16 x0 x1 x2
  | 17, _, _ => spa_deps3_17 x0 x1 x2
  | 18, _, _ => spa_deps3_18 x0 x1 x2
  | 19, _, _ => spa_deps3_19 x0 x1 x2
  | 20, _, _ => spa_deps3_20 x0 x1 x2
  | n + 21, _, h => by omega
theorem spa_deps0_1  : depthsL [0, 0] (spaC 1 []) = .ok (spaD 0 1) := by kernel_rfl
theorem spa_deps0_2  : depthsL [0, 0] (spaC 2 []) = .ok (spaD 0 2) := by kernel_rfl
theorem spa_deps0_3  : depthsL [0, 0] (spaC 3 []) = .ok (spaD 0 3) := by kernel_rfl
theorem spa_deps0_4  : depthsL [0, 0] (spaC 4 []) = .ok (spaD 0 4) := by kernel_rfl
theorem spa_deps0_5  : depthsL [0, 0] (spaC 5 []) = .ok (spaD 0 5) := by kernel_rfl
theorem spa_deps0_6  : depthsL [0, 0] (spaC 6 []) = .ok (spaD 0 6) := by kernel_rfl
theorem spa_deps0_7  : depthsL [0, 0] (spaC 7 []) = .ok (spaD 0 7) := by kernel_rfl
theorem spa_deps0_8  : depthsL [0, 0] (spaC 8 []) = .ok (spaD 0 8) := by kernel_rfl
theorem spa_deps0_9  : depthsL [0, 0] (spaC 9 []) = .ok (spaD 0 9) := by kernel_rfl
theorem spa_deps0_10  : depthsL [0, 0] (spaC 10 []) = .ok (spaD 0 10) := by kernel_rfl
theorem spa_deps0_11  : depthsL [0, 0] (spaC 11 []) = .ok (spaD 0 11) := by kernel_rfl
theorem spa_deps0_12  : depthsL [0, 0] (spaC 12 []) = .ok (spaD 0 12) := by kernel_rfl
theorem spa_deps0_13  : depthsL [0, 0] (spaC 13 []) = .ok (spaD 0 13) := by kernel_rfl
theorem spa_deps0_14  : depthsL [0, 0] (spaC 14 []) = .ok (spaD 0 14) := by kernel_rfl
theorem spa_deps0_15  : depthsL [0, 0] (spaC 15 []) = .ok (spaD 0 15) := by kernel_rfl
theorem spa_deps0_16  : depthsL [0, 0] (spaC 16 []) = .ok (spaD 0 16) := by kernel_rfl
theorem spa_deps0_17  : depthsL [0, 0] (spaC 17 []) = .ok (spaD 0 17) := by kernel_rfl
theorem spa_deps0_18  : depthsL [0, 0] (spaC 18 []) = .ok (spaD 0 18) := by kernel_rfl
theorem spa_deps0_19  : depthsL [0, 0] (spaC 19 []) = .ok (spaD 0 19) := by kernel_rfl
theorem spa_deps0_20  : depthsL [0, 0] (spaC 20 []) = .ok (spaD 0 20) := by kernel_rfl
theorem spa_deps0  : ∀ n : Nat, 1 ≤ n → n ≤ 20 → depthsL [0, 0] (spaC n []) = .ok (spaD 0 n)
  | 0, h, _ => by omega
  | 1, _, _ => spa_deps0_1 
  | 2, _, _ => spa_deps0_2 
  | 3, _, _ => spa_deps0_3 
  | 4, _, _ => spa_deps0_4 
  | 5, _, _ => spa_deps0_5 
  | 6, _, _ => spa_deps0_6 
  | 7, _, _ => spa_deps0_7 
  | 8, _, _ => spa_deps0_8 
  | 9, _, _ => spa_deps0_9 
  | 10, _, _ => spa_deps0_10 
  | 11, _, _ => spa_deps0_11 
  | 12, _, _ => spa_deps0_12 
  | 13, _, _ => spa_deps0_13 
  | 14, _, _ => spa_deps0_14 
  | 15, _, _ => spa_deps0_15 
  | 16, _, _ => spa_deps0_16 
  | 17, _, _ => spa_deps0_17 
  | 18, _, _ => spa_deps0_18 
  | 19, _, _ => spa_deps0_19 
  | 20, _, _ => spa_deps0_20 
  | n + 21, _, h => by omega
end Go.Proofs.YtlhfjeohhfdccaaDoor
