/- TaskSums: its job, plain. -/
import Derived.Test.YtlhfjeohhfdccaaDoorWalkN
namespace Go.Proofs.YtlhfjeohhfdccaaDoor
open Go.RowKit Go.ChangeShapes Go.WideShapes Go.ChangeAt Go.Deep

theorem wrap64_id {x : Int} (h : -9223372036854775808 ≤ x ∧ x ≤ 9223372036854775807) : wrap64 x = x := by
  unfold wrap64
  omega
def sumC (n : Int) : List (Int × Int) := [(1, n), (6, 0), (5, 0), (15, 13), (5, 1), (5, 0), (7, 0), (6, 1), (5, 0), (1, 1), (8, 0), (6, 0), (14, 2), (5, 1), (18, 0)]
def sumF (n : Int) : Fun := ⟨fnm, 0, 2, sumC n⟩
theorem sum_err (n : Int) : (funcErr [sumF n] 0 (sumF n)).2 = 0 := by kernel_rfl
theorem sum_deps (n : Int) : depthsL [(sumF n).args] (sumF n).code = .ok [0, 1, 0, 1, 0, 1, 2, 1, 0, 1, 2, 1, 0, 0, 1] := by kernel_rfl
def tri : Nat → Nat
  | 0 => 0
  | n + 1 => tri n + (n + 1)
theorem tri_two : ∀ n, 2 * tri n = n * (n + 1)
  | 0 => rfl
  | n + 1 => by
    rw [tri, Nat.mul_add, tri_two n, ← Nat.add_mul, Nat.mul_comm]
theorem tri_le : ∀ n, n ≤ 300 → tri n ≤ 300 * n
  | 0, _ => Nat.le_refl _
  | n + 1, h => by
    have := tri_le n (by omega)
    rw [tri]
    omega
/-- Where the loop begins. -/
def sumH (k acc c : Nat) : PM := ⟨0, 2, c, [], [(k : Int), (acc : Int)], 0, false, 0, 0, 0, c, [], 0, 0⟩
theorem sum_at (n : Int) : ([sumF n] : List Fun)[0]? = some (sumF n) := rfl
theorem sum_round (n : Int) (J : Int) (hJ : 100000 < J) (k acc c : Nat) (hc : c ≤ 5000) (hk : k ≤ 300) (ha : acc ≤ 100000) : walkN [sumF n] J 0 11 (sumH (k + 1) acc c) = some (sumH k (acc + (k + 1)) (c + 11)) := by
  have t0 : walkN [sumF n] J 0 1 ⟨0, 2, c, [], [((k + 1 : Nat) : Int), (acc : Int)], 0, false, 0, 0, 0, c, [], 0, 0⟩ = some ⟨0, 3, c + 1, [((k + 1 : Nat) : Int)], [((k + 1 : Nat) : Int), (acc : Int)], 0, false, 0, 0, 0, c + 1, [], 0, 0⟩ := walkN_one hJ rfl (by unfold PM.small; simp; omega) (sum_at n) rfl (rfl)
  have t1 : walkN [sumF n] J 0 1 ⟨0, 3, c + 1, [((k + 1 : Nat) : Int)], [((k + 1 : Nat) : Int), (acc : Int)], 0, false, 0, 0, 0, c + 1, [], 0, 0⟩ = some ⟨0, 4, c + 2, [], [((k + 1 : Nat) : Int), (acc : Int)], 0, false, 0, 0, 0, c + 2, [], 0, 0⟩ := walkN_one hJ rfl (by unfold PM.small; simp; omega) (sum_at n) rfl (by
    unfold doM
    simp only
    rw [if_neg (by decide), if_pos (by decide), if_neg (by omega)])
  have t2 : walkN [sumF n] J 0 1 ⟨0, 4, c + 2, [], [((k + 1 : Nat) : Int), (acc : Int)], 0, false, 0, 0, 0, c + 2, [], 0, 0⟩ = some ⟨0, 5, c + 3, [(acc : Int)], [((k + 1 : Nat) : Int), (acc : Int)], 0, false, 0, 0, 0, c + 3, [], 0, 0⟩ := walkN_one hJ rfl (by unfold PM.small; simp; omega) (sum_at n) rfl (rfl)
  have t3 : walkN [sumF n] J 0 1 ⟨0, 5, c + 3, [(acc : Int)], [((k + 1 : Nat) : Int), (acc : Int)], 0, false, 0, 0, 0, c + 3, [], 0, 0⟩ = some ⟨0, 6, c + 4, [((k + 1 : Nat) : Int), (acc : Int)], [((k + 1 : Nat) : Int), (acc : Int)], 0, false, 0, 0, 0, c + 4, [], 0, 0⟩ := walkN_one hJ rfl (by unfold PM.small; simp; omega) (sum_at n) rfl (rfl)
  have t4 : walkN [sumF n] J 0 1 ⟨0, 6, c + 4, [((k + 1 : Nat) : Int), (acc : Int)], [((k + 1 : Nat) : Int), (acc : Int)], 0, false, 0, 0, 0, c + 4, [], 0, 0⟩ = some ⟨0, 7, c + 5, [wrap64 ((acc : Int) + ((k + 1 : Nat) : Int))], [((k + 1 : Nat) : Int), (acc : Int)], 0, false, 0, 0, 0, c + 5, [], 0, 0⟩ := walkN_one hJ rfl (by unfold PM.small; simp; omega) (sum_at n) rfl (rfl)
  have t5 : walkN [sumF n] J 0 1 ⟨0, 7, c + 5, [wrap64 ((acc : Int) + ((k + 1 : Nat) : Int))], [((k + 1 : Nat) : Int), (acc : Int)], 0, false, 0, 0, 0, c + 5, [], 0, 0⟩ = some ⟨0, 8, c + 6, [], [((k + 1 : Nat) : Int), wrap64 ((acc : Int) + ((k + 1 : Nat) : Int))], 0, false, 0, 0, 0, c + 6, [], 0, 0⟩ := walkN_one hJ rfl (by unfold PM.small; simp; omega) (sum_at n) rfl (rfl)
  have t6 : walkN [sumF n] J 0 1 ⟨0, 8, c + 6, [], [((k + 1 : Nat) : Int), wrap64 ((acc : Int) + ((k + 1 : Nat) : Int))], 0, false, 0, 0, 0, c + 6, [], 0, 0⟩ = some ⟨0, 9, c + 7, [((k + 1 : Nat) : Int)], [((k + 1 : Nat) : Int), wrap64 ((acc : Int) + ((k + 1 : Nat) : Int))], 0, false, 0, 0, 0, c + 7, [], 0, 0⟩ := walkN_one hJ rfl (by unfold PM.small; simp; omega) (sum_at n) rfl (rfl)
  have t7 : walkN [sumF n] J 0 1 ⟨0, 9, c + 7, [((k + 1 : Nat) : Int)], [((k + 1 : Nat) : Int), wrap64 ((acc : Int) + ((k + 1 : Nat) : Int))], 0, false, 0, 0, 0, c + 7, [], 0, 0⟩ = some ⟨0, 10, c + 8, [1, ((k + 1 : Nat) : Int)], [((k + 1 : Nat) : Int), wrap64 ((acc : Int) + ((k + 1 : Nat) : Int))], 0, false, 0, 0, 0, c + 8, [], 0, 0⟩ := walkN_one hJ rfl (by unfold PM.small; simp; omega) (sum_at n) rfl (rfl)
  have t8 : walkN [sumF n] J 0 1 ⟨0, 10, c + 8, [1, ((k + 1 : Nat) : Int)], [((k + 1 : Nat) : Int), wrap64 ((acc : Int) + ((k + 1 : Nat) : Int))], 0, false, 0, 0, 0, c + 8, [], 0, 0⟩ = some ⟨0, 11, c + 9, [wrap64 (((k + 1 : Nat) : Int) - 1)], [((k + 1 : Nat) : Int), wrap64 ((acc : Int) + ((k + 1 : Nat) : Int))], 0, false, 0, 0, 0, c + 9, [], 0, 0⟩ := walkN_one hJ rfl (by unfold PM.small; simp; omega) (sum_at n) rfl (rfl)
  have t9 : walkN [sumF n] J 0 1 ⟨0, 11, c + 9, [wrap64 (((k + 1 : Nat) : Int) - 1)], [((k + 1 : Nat) : Int), wrap64 ((acc : Int) + ((k + 1 : Nat) : Int))], 0, false, 0, 0, 0, c + 9, [], 0, 0⟩ = some ⟨0, 12, c + 10, [], [wrap64 (((k + 1 : Nat) : Int) - 1), wrap64 ((acc : Int) + ((k + 1 : Nat) : Int))], 0, false, 0, 0, 0, c + 10, [], 0, 0⟩ := walkN_one hJ rfl (by unfold PM.small; simp; omega) (sum_at n) rfl (rfl)
  have t10 : walkN [sumF n] J 0 1 ⟨0, 12, c + 10, [], [wrap64 (((k + 1 : Nat) : Int) - 1), wrap64 ((acc : Int) + ((k + 1 : Nat) : Int))], 0, false, 0, 0, 0, c + 10, [], 0, 0⟩ = some ⟨0, 2, c + 11, [], [wrap64 (((k + 1 : Nat) : Int) - 1), wrap64 ((acc : Int) + ((k + 1 : Nat) : Int))], 0, false, 0, 0, 0, c + 11, [], 0, 0⟩ := walkN_one hJ rfl (by unfold PM.small; simp; omega) (sum_at n) rfl (rfl)
  have q := (walkN_add 10 1 _ _ _ (walkN_add 9 1 _ _ _ (walkN_add 8 1 _ _ _ (walkN_add 7 1 _ _ _ (walkN_add 6 1 _ _ _ (walkN_add 5 1 _ _ _ (walkN_add 4 1 _ _ _ (walkN_add 3 1 _ _ _ (walkN_add 2 1 _ _ _ (walkN_add 1 1 _ _ _ t0 t1) t2) t3) t4) t5) t6) t7) t8) t9) t10)
  rw [wrap64_id (by omega), wrap64_id (by omega)] at q
  have e1 : ((k + 1 : Nat) : Int) - 1 = (k : Int) := by omega
  have e2 : (acc : Int) + ((k + 1 : Nat) : Int) = ((acc + (k + 1) : Nat) : Int) := by omega
  rw [e1, e2] at q
  exact q
theorem sum_loop (n : Int) (J : Int) (hJ : 100000 < J) : ∀ (k acc c : Nat), c + 11 * k ≤ 5000 → k ≤ 300 → acc + 300 * k ≤ 100000 → walkN [sumF n] J 0 (11 * k) (sumH k acc c) = some (sumH 0 (acc + tri k) (c + 11 * k))
  | 0, acc, c, _, _, _ => rfl
  | k + 1, acc, c, h1, h2, h3 => by
    have q1 := sum_round n J hJ k acc c (by omega) (by omega) (by omega)
    have q2 := sum_loop n J hJ k (acc + (k + 1)) (c + 11) (by omega) (by omega) (by omega)
    have := walkN_add 11 (11 * k) _ _ _ q1 q2
    rw [show 11 + 11 * k = 11 * (k + 1) by omega] at this
    rw [this]
    simp only [tri]
    congr 2 <;> omega
theorem sum_begin (m : Nat) (J : Int) (hJ : 100000 < J) : walkN [sumF (m : Int)] J 0 2 ⟨0, 0, 0, [], [0, 0], 0, false, 0, 0, 0, 0, [], 0, 0⟩ = some (sumH m 0 2) := by
  have t0 : walkN [sumF (m : Int)] J 0 1 ⟨0, 0, 0, [], [0, 0], 0, false, 0, 0, 0, 0, [], 0, 0⟩ = some ⟨0, 1, 1, [(m : Int)], [0, 0], 0, false, 0, 0, 0, 1, [], 0, 0⟩ := walkN_one hJ rfl (by unfold PM.small; simp) (sum_at _) rfl rfl
  have t1 : walkN [sumF (m : Int)] J 0 1 ⟨0, 1, 1, [(m : Int)], [0, 0], 0, false, 0, 0, 0, 1, [], 0, 0⟩ = some ⟨0, 2, 2, [], [(m : Int), 0], 0, false, 0, 0, 0, 2, [], 0, 0⟩ := walkN_one hJ rfl (by unfold PM.small; simp) (sum_at _) rfl rfl
  exact walkN_add 1 1 _ _ _ t0 t1
theorem sum_end (n : Int) (J : Int) (hJ : 100000 < J) (acc c : Nat) (hc : c ≤ 5000) : walkN [sumF n] J 0 4 (sumH 0 acc c) = some ⟨0, 14, c + 4, [(acc : Int)], [0, (acc : Int)], 0, false, 3, 0, 0, c + 4, [], 0, (acc : Int)⟩ := by
  have t0 : walkN [sumF n] J 0 1 ⟨0, 2, c, [], [0, (acc : Int)], 0, false, 0, 0, 0, c, [], 0, 0⟩ = some ⟨0, 3, c + 1, [0], [0, (acc : Int)], 0, false, 0, 0, 0, c + 1, [], 0, 0⟩ := walkN_one hJ rfl (by unfold PM.small; simp; omega) (sum_at n) rfl rfl
  have t1 : walkN [sumF n] J 0 1 ⟨0, 3, c + 1, [0], [0, (acc : Int)], 0, false, 0, 0, 0, c + 1, [], 0, 0⟩ = some ⟨0, 13, c + 2, [], [0, (acc : Int)], 0, false, 0, 0, 0, c + 2, [], 0, 0⟩ := walkN_one hJ rfl (by unfold PM.small; simp; omega) (sum_at n) rfl rfl
  have t2 : walkN [sumF n] J 0 1 ⟨0, 13, c + 2, [], [0, (acc : Int)], 0, false, 0, 0, 0, c + 2, [], 0, 0⟩ = some ⟨0, 14, c + 3, [(acc : Int)], [0, (acc : Int)], 0, false, 0, 0, 0, c + 3, [], 0, 0⟩ := walkN_one hJ rfl (by unfold PM.small; simp; omega) (sum_at n) rfl rfl
  have t3 : walkN [sumF n] J 0 1 ⟨0, 14, c + 3, [(acc : Int)], [0, (acc : Int)], 0, false, 0, 0, 0, c + 3, [], 0, 0⟩ = some ⟨0, 14, c + 4, [(acc : Int)], [0, (acc : Int)], 0, false, 3, 0, 0, c + 4, [], 0, (acc : Int)⟩ := walkN_one hJ rfl (by unfold PM.small; simp; omega) (sum_at n) rfl rfl
  exact walkN_add 3 1 _ _ _ (walkN_add 2 1 _ _ _ (walkN_add 1 1 _ _ _ t0 t1) t2) t3
/-- What it comes to, by its fuel. -/
theorem sum_run (m : Nat) (hm : m ≤ 300) (fuel : Int) (hf : 1 ≤ fuel ∧ fuel ≤ 5000) : ∃ q, runW [sumF (m : Int)] fuel 0 6000 (11 * m + 10) ⟨0, 0, 0, [], [0, 0], 0, false, 0, 0, 0, 0, [], 0, 0⟩ = some q ∧ (finM q).ek = 3 ∧ (if fuel < 6 + 11 * (m : Int) then (finM q).er = 21 ∧ ((finM q).es : Int) = fuel ∧ (finM q).ev = 0 else (finM q).er = 0 ∧ (finM q).ev = (tri m : Int) ∧ ((finM q).es : Int) = 6 + 11 * (m : Int)) := by
  have hJ : (100000 : Int) < 100001 := by decide
  have w1 := sum_begin m 100001 hJ
  have w2 := sum_loop (m : Int) 100001 hJ m 0 2 (by omega) hm (by omega)
  have w3 := sum_end (m : Int) 100001 hJ (0 + tri m) (2 + 11 * m) (by omega)
  have w := walkN_add _ _ _ _ _ (walkN_add _ _ _ _ _ w1 w2) w3
  show ∃ q, runM [sumF (m : Int)] fuel 0 6000 (11 * m + 10) ⟨0, 0, 0, [], [0, 0], 0, false, 0, 0, 0, 0, [], 0, 0⟩ = some q ∧ _
  by_cases h : fuel < 6 + 11 * (m : Int)
  · obtain ⟨u, h1, h2⟩ := run_short (steps := 6000) (jf := fuel) (k := 4) hJ _ _ _ w (by show ((0 + (2 + 11 * m + 4) : Nat) : Int) ≤ 6000; omega) (by show ((0 : Nat) : Int) ≤ fuel; omega) (by show fuel < ((0 + (2 + 11 * m + 4) : Nat) : Int); omega)
    rw [show 2 + 11 * m + 4 + 4 = 11 * m + 10 by omega] at h1
    refine ⟨_, h1, rfl, ?_⟩
    rw [if_pos h]
    refine ⟨rfl, ?_, rfl⟩
    have h3 : (u.es : Int) = ((0 : Nat) : Int) + (fuel - ((0 : Nat) : Int)) := h2
    show (u.es : Int) = fuel
    omega
  · have h1 := run_walk (steps := 6000) (jf := fuel) (k := 4) hJ _ _ _ w (by show ((0 + (2 + 11 * m + 4) : Nat) : Int) ≤ 6000; omega) (by show ((0 + (2 + 11 * m + 4) : Nat) : Int) ≤ fuel; omega)
    rw [show 2 + 11 * m + 4 + 4 = 11 * m + 10 by omega] at h1
    refine ⟨_, h1.trans (run_done (show (3 : Int) ≠ 0 by decide)), rfl, ?_⟩
    rw [if_neg h]
    refine ⟨rfl, ?_, ?_⟩
    · show ((0 + tri m : Nat) : Int) = _
      omega
    · show ((2 + 11 * m + 4 : Nat) : Int) = _
      omega
end Go.Proofs.YtlhfjeohhfdccaaDoor
