/- TaskSpawns: its runs, plain. -/
import Derived.Test.YtlhfjeohhfdccaaDoorSpaE1
import Derived.Test.YtlhfjeohhfdccaaDoorSpaE2
import Derived.Test.YtlhfjeohhfdccaaDoorSpaE3
namespace Go.Proofs.YtlhfjeohhfdccaaDoor
open Go.RowKit Go.ChangeShapes Go.WideShapes Go.ChangeAt Go.Deep

def gnm : ByteArray := ⟨#[103]⟩
def spaF (n : Nat) (xs : List Int) : List Fun := [⟨fnm, 0, 0, spaC n xs⟩, ⟨gnm, (xs.length : Int), (xs.length : Int), [(1, 0), (18, 0)]⟩]
theorem spa_deps (n : Nat) (xs : List Int) (h1 : 1 ≤ n) (h2 : n ≤ 20) (hx : xs.length ≤ 8) : depthsL [0, (xs.length : Int)] (spaC n xs) = .ok (spaD xs.length n) := by
  match xs, hx with
  | [], _ => exact spa_deps0  n h1 h2
  | [x0], _ => exact spa_deps1 x0 n h1 h2
  | [x0, x1], _ => exact spa_deps2 x0 x1 n h1 h2
  | [x0, x1, x2], _ => exact spa_deps3 x0 x1 x2 n h1 h2
  | [x0, x1, x2, x3], _ => exact spa_deps4 x0 x1 x2 x3 n h1 h2
  | [x0, x1, x2, x3, x4], _ => exact spa_deps5 x0 x1 x2 x3 x4 n h1 h2
  | [x0, x1, x2, x3, x4, x5], _ => exact spa_deps6 x0 x1 x2 x3 x4 x5 n h1 h2
  | [x0, x1, x2, x3, x4, x5, x6], _ => exact spa_deps7 x0 x1 x2 x3 x4 x5 x6 n h1 h2
  | [x0, x1, x2, x3, x4, x5, x6, x7], _ => exact spa_deps8 x0 x1 x2 x3 x4 x5 x6 x7 n h1 h2
  | _ :: _ :: _ :: _ :: _ :: _ :: _ :: _ :: _ :: r, h => simp at h
theorem spaG_at : ∀ (n k i : Nat) (xs : List Int) (t : List (Int × Int)) (q : Int × Int), k < n → (spaR xs)[i]? = some q → (spaG xs n ++ t)[k * (xs.length + 2) + i]? = some q
  | 0, _, _, _, _, _, h, _ => by omega
  | n + 1, 0, i, xs, t, q, _, hq => by
    have hi : i < (spaR xs).length := (List.getElem?_eq_some_iff.1 hq).1
    rw [Nat.zero_mul, Nat.zero_add, spaG, List.append_assoc, List.getElem?_append_left hi]
    exact hq
  | n + 1, k + 1, i, xs, t, q, h, hq => by
    have := spaG_at n k i xs t q (by omega) hq
    have hl : (spaR xs).length = xs.length + 2 := by simp [spaR]
    rw [spaG, List.append_assoc, List.getElem?_append_right (by rw [hl, Nat.add_mul]; omega), hl]
    rw [show (k + 1) * (xs.length + 2) + i - (xs.length + 2) = k * (xs.length + 2) + i by rw [Nat.add_mul]; omega]
    exact this
theorem spaG_len : ∀ (n : Nat) (xs : List Int), (spaG xs n).length = n * (xs.length + 2)
  | 0, _ => by simp [spaG]
  | n + 1, xs => by
    rw [spaG, List.length_append, spaG_len n xs, Nat.add_mul]
    simp [spaR]
    omega
theorem spaC_end (n : Nat) (xs : List Int) : (spaC n xs)[n * (xs.length + 2)]? = some (1, 9) ∧ (spaC n xs)[n * (xs.length + 2) + 1]? = some (18, 0) := by
  unfold spaC
  constructor
  · rw [List.getElem?_append_right (by rw [spaG_len]; omega), spaG_len, Nat.sub_self]; rfl
  · rw [List.getElem?_append_right (by rw [spaG_len]; omega), spaG_len, Nat.add_sub_cancel_left]; rfl
theorem spaC_push (n k i : Nat) (xs : List Int) (x : Int) (hk : k < n) (hx : xs[i]? = some x) : (spaC n xs)[k * (xs.length + 2) + i]? = some (1, x) := by
  refine spaG_at n k i xs _ _ hk ?_
  have hi : i < xs.length := (List.getElem?_eq_some_iff.1 hx).1
  unfold spaR
  rw [List.getElem?_append_left (by simpa using hi)]
  simp [hx]
theorem spaC_spawn (n k : Nat) (xs : List Int) (hk : k < n) : (spaC n xs)[k * (xs.length + 2) + xs.length]? = some (16, 1) ∧ (spaC n xs)[k * (xs.length + 2) + (xs.length + 1)]? = some (2, 0) := by
  constructor
  · refine spaG_at n k _ xs _ _ hk ?_
    unfold spaR
    rw [List.getElem?_append_right (by simp)]
    simp
  · refine spaG_at n k _ xs _ _ hk ?_
    unfold spaR
    rw [List.getElem?_append_right (by simp)]
    simp
theorem spaD_len : ∀ (a n : Nat), (spaD a n).length = n * (a + 2) + 2
  | a, 0 => by simp [spaD]
  | a, n + 1 => by
    have hu : ∀ a, (spaU a).length = a := fun a => by induction a with | zero => rfl | succ a ih => simp [spaU, ih]
    simp [spaD, spaD_len a n, hu, Nat.add_mul]
    omega
theorem spaU_len (a : Nat) : (spaU a).length = a := by
  induction a with
  | zero => rfl
  | succ a ih => simp [spaU, ih]
theorem spaU_zero : ∀ a, (spaU (a + 1))[0]? = some 0
  | 0 => rfl
  | a + 1 => by
    rw [spaU, List.getElem?_append_left (by rw [spaU_len]; omega)]
    exact spaU_zero a
theorem spaD_zero (a n : Nat) : (spaD a n)[0]? = some 0 := by
  cases n with
  | zero => rfl
  | succ n =>
    cases a with
    | zero => rfl
    | succ a =>
      rw [spaD, List.append_assoc, List.getElem?_append_left (by rw [spaU_len]; omega)]
      exact spaU_zero a
theorem spaD_at : ∀ (a n k : Nat), k < n → (spaD a n)[k * (a + 2) + (a + 1)]? = some 1
  | _, 0, _, h => by omega
  | a, n + 1, 0, _ => by
    rw [Nat.zero_mul, Nat.zero_add, spaD, List.append_assoc, List.getElem?_append_right (by rw [spaU_len]; omega), spaU_len, Nat.add_sub_cancel_left]
    rfl
  | a, n + 1, k + 1, h => by
    have := spaD_at a n k (by omega)
    have hl : (spaU a ++ [(a : Int), 1]).length = a + 2 := by simp [spaU_len]
    rw [spaD, List.getElem?_append_right (by rw [hl, Nat.add_mul]; omega), hl]
    rw [show (k + 1) * (a + 2) + (a + 1) - (a + 2) = k * (a + 2) + (a + 1) by rw [Nat.add_mul]; omega]
    exact this
/-- Where it stands behind so many spawns. -/
def spaPc (a : Nat) : Nat → Nat
  | 0 => 0
  | k + 1 => k * (a + 2) + (a + 1)
def spaK : Nat → List Int
  | 0 => []
  | k + 1 => [(k : Int)]
theorem spaK_len (k : Nat) : (spaK k).length ≤ 1 := by cases k <;> simp [spaK]
theorem spaD_pc (a n k : Nat) (h : k ≤ n) : (spaD a n)[spaPc a k]? = some ((spaK k).length : Int) := by
  cases k with
  | zero => exact spaD_zero a n
  | succ k => exact spaD_at a n k (by omega)
theorem mul_small {k a : Nat} (hk : k ≤ 20) (ha : a ≤ 8) : k * (a + 2) ≤ 200 := by
  have := Nat.mul_le_mul hk (show a + 2 ≤ 10 by omega)
  omega
theorem spa_at (n : Nat) (xs : List Int) : (spaF n xs)[0]? = some ⟨fnm, 0, 0, spaC n xs⟩ := rfl
theorem spa_push (n k : Nat) (xs : List Int) (J deep : Int) (hJ : 100000 < J) (hk : k < n) (hn : n ≤ 20) (hx : xs.length ≤ 8) (kd : Int) (hkd : 0 ≤ kd ∧ kd ≤ 16) (c e : Nat) (hc : c ≤ 300) (he : e ≤ 300) : ∀ i : Nat, i ≤ xs.length → walkN (spaF n xs) J deep i ⟨0, k * (xs.length + 2), c, [], [], kd, false, 0, 0, 0, e, [], 0, 0⟩ = some ⟨0, k * (xs.length + 2) + i, c + i, (xs.take i).reverse, [], kd, false, 0, 0, 0, e + i, [], 0, 0⟩
  | 0, _ => rfl
  | i + 1, h => by
    have q1 := spa_push n k xs J deep hJ hk hn hx kd hkd c e hc he i (by omega)
    have hxi : xs[i]? = some (xs[i]'(by omega)) := List.getElem?_eq_getElem (by omega)
    have hm := mul_small (show k ≤ 20 by omega) hx
    have q2 : walkN (spaF n xs) J deep 1 ⟨0, k * (xs.length + 2) + i, c + i, (xs.take i).reverse, [], kd, false, 0, 0, 0, e + i, [], 0, 0⟩ = some ⟨0, k * (xs.length + 2) + (i + 1), c + (i + 1), ((xs[i]'(by omega)) :: (xs.take i).reverse), [], kd, false, 0, 0, 0, e + (i + 1), [], 0, 0⟩ := walkN_one hJ rfl (by unfold PM.small; simp; omega) (spa_at n xs) (spaC_push n k i xs _ hk hxi) rfl
    have := walkN_add i 1 _ _ _ q1 q2
    have e2 : xs.take (i + 1) = xs.take i ++ [xs[i]'(by omega)] := by rw [List.take_add_one, hxi]; rfl
    rw [this, e2, List.reverse_append]
    rfl
/-- What the spawn makes. -/
theorem spa_do (n : Nat) (xs : List Int) (deep kd : Int) (pc c e : Nat) (hd : deep < 12) (hk : kd < 16) : doM (spaF n xs) deep ⟨0, pc, c, xs.reverse, [], kd, false, 0, 0, 0, e, [], 0, 0⟩ 16 1 = some (⟨0, pc + 1, c, [kd], [], (kd + 1), false, 1, 1, kd, e, xs, 0, 0⟩, none) := by
  unfold doM
  simp only
  rw [if_neg (by decide), if_neg (by decide), if_pos (by decide), if_pos hd, if_pos hk, if_pos (by decide)]
  show (if 0 ≤ ((xs.length : Nat) : Int) ∧ ((xs.length : Nat) : Int).toNat ≤ xs.reverse.length then _ else _) = _
  rw [if_pos ⟨by omega, by simp⟩]
  simp
  rw [List.take_of_length_le (by simp)]
  simp
theorem spa_deep (n : Nat) (xs : List Int) (deep kd : Int) (pc c e : Nat) (hd : ¬ deep < 12) : doM (spaF n xs) deep ⟨0, pc, c, xs.reverse, [], kd, false, 0, 0, 0, e, [], 0, 0⟩ 16 1 = some (⟨0, pc, c, xs.reverse, [], kd, false, 0, 0, 0, e, [], 0, 0⟩, some (22, 0)) := by
  unfold doM
  simp only
  rw [if_neg (by decide), if_neg (by decide), if_pos (by decide), if_neg hd]
theorem spa_kids (n : Nat) (xs : List Int) (deep kd : Int) (pc c e : Nat) (hd : deep < 12) (hk : ¬ kd < 16) : doM (spaF n xs) deep ⟨0, pc, c, xs.reverse, [], kd, false, 0, 0, 0, e, [], 0, 0⟩ 16 1 = some (⟨0, pc, c, xs.reverse, [], kd, false, 0, 0, 0, e, [], 0, 0⟩, some (23, 0)) := by
  unfold doM
  simp only
  rw [if_neg (by decide), if_neg (by decide), if_pos (by decide), if_pos hd, if_neg hk]
/-- Up to the spawn. -/
theorem spa_to (n k : Nat) (xs : List Int) (J deep : Int) (hJ : 100000 < J) (hk : k < n) (hn : n ≤ 20) (hk16 : k ≤ 16) (hx : xs.length ≤ 8) : ∃ a e : Nat, e = a ∧ a ≤ 20 ∧ walkN (spaF n xs) J deep a ⟨0, spaPc xs.length k, spaPc xs.length k, spaK k, [], (k : Int), false, 0, 0, 0, 0, [], 0, 0⟩ = some ⟨0, k * (xs.length + 2) + xs.length, k * (xs.length + 2) + xs.length, xs.reverse, [], (k : Int), false, 0, 0, 0, e, [], 0, 0⟩ := by
  have hm := mul_small (show k ≤ 20 by omega) hx
  have full : xs.take xs.length = xs := List.take_length
  cases k with
  | zero =>
    have q := spa_push n 0 xs J deep hJ hk hn hx 0 (by omega) 0 0 (by omega) (by omega) xs.length (Nat.le_refl _)
    rw [full] at q
    refine ⟨xs.length, xs.length, rfl, by omega, ?_⟩
    simpa [spaPc, spaK] using q
  | succ k =>
    have hm2 : (k + 1) * (xs.length + 2) = k * (xs.length + 2) + (xs.length + 2) := by rw [Nat.add_mul]; omega
    have t0 : walkN (spaF n xs) J deep 1 ⟨0, k * (xs.length + 2) + (xs.length + 1), k * (xs.length + 2) + (xs.length + 1), [(k : Int)], [], ((k + 1 : Nat) : Int), false, 0, 0, 0, 0, [], 0, 0⟩ = some ⟨0, k * (xs.length + 2) + (xs.length + 1) + 1, k * (xs.length + 2) + (xs.length + 1) + 1, [], [], ((k + 1 : Nat) : Int), false, 0, 0, 0, 1, [], 0, 0⟩ := walkN_one hJ rfl (by unfold PM.small; simp; omega) (spa_at n xs) (spaC_spawn n k xs (by omega)).2 rfl
    have q := spa_push n (k + 1) xs J deep hJ hk hn hx ((k + 1 : Nat) : Int) (by omega) ((k + 1) * (xs.length + 2)) 1 (by omega) (by omega) xs.length (Nat.le_refl _)
    rw [full] at q
    rw [show k * (xs.length + 2) + (xs.length + 1) + 1 = (k + 1) * (xs.length + 2) by omega] at t0
    exact ⟨1 + xs.length, 1 + xs.length, rfl, by omega, walkN_add 1 _ _ _ _ t0 q⟩
/-- One run: it spawns, or why it does not. -/
theorem spa_run (n k : Nat) (xs : List Int) (deep : Int) (hk : k < n) (hn : n ≤ 20) (hk16 : k ≤ 16) (hx : xs.length ≤ 8) : ∃ q, runW (spaF n xs) 1000 deep 1000 30 ⟨0, spaPc xs.length k, spaPc xs.length k, spaK k, [], (k : Int), false, 0, 0, 0, 0, [], 0, 0⟩ = some q ∧
    (if deep < 12 then (if k = 16 then (finM q).ek = 3 ∧ (finM q).er = 23 else ∃ es : Nat, q = (⟨0, spaPc xs.length (k + 1), spaPc xs.length (k + 1), spaK (k + 1), [], ((k + 1 : Nat) : Int), false, 1, 1, (k : Int), es, xs, 0, 0⟩, none)) else (finM q).ek = 3 ∧ (finM q).er = 22) := by
  have hJ : (100000 : Int) < 100001 := by decide
  have hm := mul_small (show k ≤ 20 by omega) hx
  obtain ⟨a, e, rfl, ha, w⟩ := spa_to n k xs 100001 deep hJ hk hn hk16 hx
  have hpc : spaPc xs.length k ≤ 210 := by
    cases k with
    | zero => simp [spaPc]
    | succ k =>
      have : (k + 1) * (xs.length + 2) = k * (xs.length + 2) + (xs.length + 2) := by rw [Nat.add_mul]; omega
      simp only [spaPc]
      omega
  have q := run_walk (steps := 1000) (jf := 1000) (k := 30 - e) hJ _ _ _ w (by show ((0 + e : Nat) : Int) ≤ 1000; omega) (by show ((spaPc xs.length k + e : Nat) : Int) ≤ 1000; omega)
  rw [show e + (30 - e) = 30 by omega] at q
  have hsm : PM.small ⟨0, k * (xs.length + 2) + xs.length, k * (xs.length + 2) + xs.length, xs.reverse, [], (k : Int), false, 0, 0, 0, e, [], 0, 0⟩ := by unfold PM.small; simp; omega
  obtain ⟨m, hm30⟩ : ∃ m, 30 - e = m + 1 := ⟨29 - e, by omega⟩
  rw [hm30] at q
  have stp := stepM_of (fs := spaF n xs) (jf := 1000) (deep := deep) (s := ⟨0, k * (xs.length + 2) + xs.length, k * (xs.length + 2) + xs.length, xs.reverse, [], (k : Int), false, 0, 0, 0, e, [], 0, 0⟩) (by show ((k * (xs.length + 2) + xs.length : Nat) : Int) < 1000; omega) hsm (spa_at n xs) (spaC_spawn n k xs hk).1
  have hrun : runW (spaF n xs) 1000 deep 1000 30 ⟨0, spaPc xs.length k, spaPc xs.length k, spaK k, [], (k : Int), false, 0, 0, 0, 0, [], 0, 0⟩ = runM (spaF n xs) 1000 deep 1000 30 ⟨0, spaPc xs.length k, spaPc xs.length k, spaK k, [], (k : Int), false, 0, 0, 0, 0, [], 0, 0⟩ := by
    unfold runW begM
    rw [if_neg (by simp)]
    simp only [Option.bind_some]
  rw [hrun, q]
  rw [runM, if_pos ⟨rfl, by show ((e : Nat) : Int) < 1000; omega⟩, stp]
  by_cases hd : deep < 12
  · simp only [if_pos hd]
    by_cases h16 : k = 16
    · simp only [if_pos h16]
      rw [spa_kids n xs deep _ _ _ _ hd (by omega)]
      exact ⟨_, rfl, rfl, rfl⟩
    · simp only [if_neg h16]
      rw [spa_do n xs deep _ _ _ _ hd (by omega)]
      simp only
      rw [run_done (show (1 : Int) ≠ 0 by decide)]
      refine ⟨_, rfl, e + 1, ?_⟩
      simp only [spaPc, spaK]
      rfl
  · simp only [if_neg hd]
    rw [spa_deep n xs deep _ _ _ _ hd]
    exact ⟨_, rfl, rfl, rfl⟩
/-- The last run. -/
theorem spa_last (n : Nat) (xs : List Int) (deep : Int) (h1 : 1 ≤ n) (hn : n ≤ 16) (hx : xs.length ≤ 8) : ∃ q, runW (spaF n xs) 1000 deep 1000 30 ⟨0, spaPc xs.length n, spaPc xs.length n, spaK n, [], (n : Int), false, 0, 0, 0, 0, [], 0, 0⟩ = some q ∧ (finM q).ek = 3 ∧ (finM q).ev = 9 := by
  have hJ : (100000 : Int) < 100001 := by decide
  obtain ⟨k, rfl⟩ : ∃ k, n = k + 1 := ⟨n - 1, by omega⟩
  have hm := mul_small (show k ≤ 20 by omega) hx
  have hm2 : (k + 1) * (xs.length + 2) = k * (xs.length + 2) + (xs.length + 2) := by rw [Nat.add_mul]; omega
  have c2 := spaC_end (k + 1) xs
  have t0 : walkN (spaF (k + 1) xs) 100001 deep 1 ⟨0, k * (xs.length + 2) + (xs.length + 1), k * (xs.length + 2) + (xs.length + 1), [(k : Int)], [], ((k + 1 : Nat) : Int), false, 0, 0, 0, 0, [], 0, 0⟩ = some ⟨0, k * (xs.length + 2) + (xs.length + 1) + 1, k * (xs.length + 2) + (xs.length + 1) + 1, [], [], ((k + 1 : Nat) : Int), false, 0, 0, 0, 1, [], 0, 0⟩ := walkN_one hJ rfl (by unfold PM.small; simp; omega) (spa_at _ xs) (spaC_spawn (k + 1) k xs (by omega)).2 rfl
  rw [show k * (xs.length + 2) + (xs.length + 1) + 1 = (k + 1) * (xs.length + 2) by omega] at t0
  have t1 : walkN (spaF (k + 1) xs) 100001 deep 1 ⟨0, (k + 1) * (xs.length + 2), (k + 1) * (xs.length + 2), [], [], ((k + 1 : Nat) : Int), false, 0, 0, 0, 1, [], 0, 0⟩ = some ⟨0, (k + 1) * (xs.length + 2) + 1, (k + 1) * (xs.length + 2) + 1, [9], [], ((k + 1 : Nat) : Int), false, 0, 0, 0, 2, [], 0, 0⟩ := walkN_one hJ rfl (by unfold PM.small; simp; omega) (spa_at _ xs) c2.1 rfl
  have t2 : walkN (spaF (k + 1) xs) 100001 deep 1 ⟨0, (k + 1) * (xs.length + 2) + 1, (k + 1) * (xs.length + 2) + 1, [9], [], ((k + 1 : Nat) : Int), false, 0, 0, 0, 2, [], 0, 0⟩ = some ⟨0, (k + 1) * (xs.length + 2) + 1, (k + 1) * (xs.length + 2) + 2, [9], [], ((k + 1 : Nat) : Int), false, 3, 0, 0, 3, [], 0, 9⟩ := walkN_one hJ rfl (by unfold PM.small; simp; omega) (spa_at _ xs) c2.2 rfl
  have w := walkN_add 2 1 _ _ _ (walkN_add 1 1 _ _ _ t0 t1) t2
  have q := run_walk (steps := 1000) (jf := 1000) (k := 27) hJ _ _ _ w (by show ((0 + 3 : Nat) : Int) ≤ 1000; omega) (by show ((k * (xs.length + 2) + (xs.length + 1) + 3 : Nat) : Int) ≤ 1000; omega)
  rw [show 2 + 1 + 27 = 30 from rfl] at q
  have h := q.trans (run_done (show (3 : Int) ≠ 0 by decide))
  have h2 : runW (spaF (k + 1) xs) 1000 deep 1000 30 ⟨0, k * (xs.length + 2) + (xs.length + 1), k * (xs.length + 2) + (xs.length + 1), [(k : Int)], [], ((k + 1 : Nat) : Int), false, 0, 0, 0, 0, [], 0, 0⟩ = some (⟨0, (k + 1) * (xs.length + 2) + 1, (k + 1) * (xs.length + 2) + 2, [9], [], ((k + 1 : Nat) : Int), false, 3, 0, 0, 3, [], 0, 9⟩, none) := by
    unfold runW begM
    rw [if_neg (by simp)]
    simp only [Option.bind_some]
    exact h
  exact ⟨_, h2, rfl, rfl⟩
theorem spaG_snoc (xs : List Int) : ∀ n, spaG xs (n + 1) = spaG xs n ++ spaR xs
  | 0 => by simp [spaG]
  | n + 1 => by
    show spaR xs ++ spaG xs (n + 1) = (spaR xs ++ spaG xs n) ++ spaR xs
    rw [spaG_snoc xs n, List.append_assoc]
theorem spa_check (n : Nat) (xs : List Int) (h1 : 1 ≤ n) (h2 : n ≤ 20) (hx : xs.length ≤ 8) : (checkL (spaF n xs) 0 0 1000 50).2.2 = 0 := by
  have hm := mul_small h2 hx
  have hins : ∀ (lo : Int) (nc : Nat) (k : Nat), ∀ x ∈ spaG xs k, insErr lo nc 2 x.1 x.2 = 0 := by
    intro lo nc k
    induction k with
    | zero => intro x hx; simp [spaG] at hx
    | succ k ih =>
      intro x hx
      simp only [spaG, spaR, List.mem_append, List.mem_map, List.mem_cons, List.not_mem_nil, or_false] at hx
      rcases hx with (⟨y, _, rfl⟩ | rfl | rfl) | hx
      · kernel_rfl
      · kernel_rfl
      · kernel_rfl
      · exact ih x hx
  have f0 : (funcErr (spaF n xs) 0 ⟨fnm, 0, 0, spaC n xs⟩).2 = 0 := by
    have hh : headErr (spaF n xs) 0 ⟨fnm, 0, 0, spaC n xs⟩ = 0 := by
      unfold headErr
      rw [if_neg (by show ¬ ((isNameL fnm.data.toList && !(decide (0 ≤ findF fnm []))) = false); decide +kernel), if_neg (by show ¬ (inB 0 0 8 = false); decide), if_neg (by show ¬ (inB 0 0 16 = false); decide), if_neg (by
        have e1 : inB (((spaC n xs).length : Nat) : Int) 1 256 = true := by
          rw [show (spaC n xs).length = n * (xs.length + 2) + 2 by simp [spaC, spaG_len]]
          generalize n * (xs.length + 2) = m at hm ⊢
          simp [inB]
          omega
        rw [e1]; simp)]
    have hi : insFrom 0 (spaC n xs).length 2 0 (spaC n xs) = (0, 0) := by
      refine insFrom_ok _ 0 (fun x hx => ?_)
      simp only [spaC, List.mem_append, List.mem_cons, List.not_mem_nil, or_false] at hx
      rcases hx with hx | rfl | rfl
      · exact hins 0 _ n x hx
      · kernel_rfl
      · kernel_rfl
    unfold funcErr
    rw [if_neg (by rw [hh]; simp), if_neg (by rw [show insFrom (⟨fnm, 0, 0, spaC n xs⟩ : Fun).locals (⟨fnm, 0, 0, spaC n xs⟩ : Fun).code.length (spaF n xs).length 0 (⟨fnm, 0, 0, spaC n xs⟩ : Fun).code = (0, 0) from hi]; simp)]
    have hd := spa_deps n xs h1 h2 hx
    rw [show depthsL ((spaF n xs).map Fun.args) (⟨fnm, 0, 0, spaC n xs⟩ : Fun).code = _ from hd]
  have f1 : (funcErr (spaF n xs) 1 ⟨gnm, (xs.length : Int), (xs.length : Int), [(1, 0), (18, 0)]⟩).2 = 0 := by
    have hh : headErr (spaF n xs) 1 ⟨gnm, (xs.length : Int), (xs.length : Int), [(1, 0), (18, 0)]⟩ = 0 := by
      unfold headErr
      rw [if_neg (by show ¬ ((isNameL gnm.data.toList && !(decide (0 ≤ findF gnm [⟨fnm, 0, 0, spaC n xs⟩]))) = false); intro h; rw [show (isNameL gnm.data.toList && !(decide (0 ≤ findF gnm [⟨fnm, 0, 0, spaC n xs⟩]))) = true by kernel_rfl] at h; cases h), if_neg (by
        have e1 : inB ((xs.length : Nat) : Int) 0 8 = true := by simp [inB]; omega
        rw [e1]; simp), if_neg (by
        have e1 : inB ((xs.length : Nat) : Int) ((xs.length : Nat) : Int) 16 = true := by simp [inB]; omega
        rw [e1]; simp), if_neg (by show ¬ (inB ((2 : Nat) : Int) 1 256 = false); decide)]
    unfold funcErr
    rw [if_neg (by rw [hh]; simp), if_neg (by rw [show insFrom (⟨gnm, (xs.length : Int), (xs.length : Int), [(1, 0), (18, 0)]⟩ : Fun).locals (⟨gnm, (xs.length : Int), (xs.length : Int), [(1, 0), (18, 0)]⟩ : Fun).code.length (spaF n xs).length 0 (⟨gnm, (xs.length : Int), (xs.length : Int), [(1, 0), (18, 0)]⟩ : Fun).code = (0, 0) from (by kernel_rfl : insFrom ((xs.length : Nat) : Int) 2 2 0 [(1, 0), (18, 0)] = (0, 0))]; simp)]
    rw [show depthsL ((spaF n xs).map Fun.args) [(1, 0), (18, 0)] = .ok [0, 1] by kernel_rfl]
  have hj : jobErr (spaF n xs) 0 0 1000 50 = 0 := by kernel_rfl
  unfold checkL
  rw [if_pos hj]
  show (checkFrom (spaF n xs) 0 [⟨fnm, 0, 0, spaC n xs⟩, ⟨gnm, (xs.length : Int), (xs.length : Int), [(1, 0), (18, 0)]⟩]).2.2 = 0
  unfold checkFrom
  rw [if_pos f0]
  unfold checkFrom
  rw [if_pos f1]
  rfl
theorem spa_depsOf (n : Nat) (xs : List Int) (h1 : 1 ≤ n) (h2 : n ≤ 20) (hx : xs.length ≤ 8) : depsOf (spaF n xs) 0 0 1000 50 0 = spaD xs.length n := by
  unfold depsOf
  rw [if_pos ⟨spa_check n xs h1 h2 hx, by show hasB ((2 : Nat) : Int) 0 = true; decide⟩]
  have hd := spa_deps n xs h1 h2 hx
  show (match depthsL ((spaF n xs).map Fun.args) (spaC n xs) with | .ok d => d | .error _ => []) = _
  rw [show depthsL ((spaF n xs).map Fun.args) (spaC n xs) = _ from hd]

theorem Tryd.info32 : (Tryd.prog.info? 32).map (fun i => (i.zero, i.size, i.bytes)) = some (some (.agg #[.string ⟨#[]⟩, .int .i64 0, .int .i64 0, .slice none 0 0]), 4, 56) := by kernel_rfl
/-- The job of two functions. -/
theorem job_two {w : World} {g cn cap cap2 na gb n : Nat} {a : Option Addr} {xs : List Int} (hl : xs.length = na) (hg : g < w.heap.size) (hc2 : 2 ≤ cap2) (hn : (spaC n xs).length = cn)
    (hc : ∀ i u, ([.string fnm, .int .i64 0, .int .i64 0, .slice a cn cap, .string gnm, .int .i64 (na : Int), .int .i64 (na : Int), .slice (some ⟨gb, 0, none⟩) 2 2] : List Value)[i]? = some u → w.cell? ⟨g, i, none⟩ = some u) (hr : Reads w a (insV (spaC n xs))) (hr2 : Reads w (some ⟨gb, 0, none⟩) (insV [(1, 0), (18, 0)])) :
    JobR w ⟨some ⟨g, 0, none⟩, 2, cap2, 0, none, 0, 0, 1000, 50⟩ [.slice a cn cap, .slice (some ⟨gb, 0, none⟩) 2 2] (spaF n xs) [] :=
  ⟨rfl, hc2, rfl, .inr ⟨g, 0, rfl, hg, fun j hj i v hv => by
      have hj2 : j = 0 ∨ j = 1 := by simp [frs, spaF] at hj; omega
      rcases hj2 with rfl | rfl
      · have hi : i < 4 := by
          rcases Nat.lt_or_ge i 4 with q | q
          · exact q
          · rw [List.getElem?_eq_none (by simp [frs, spaF, Fun.row, FR.enc]; omega)] at hv; cases hv
        rw [show 0 + 0 * 4 + i = i by omega]
        refine hc i v ?_
        rw [← hv]
        rcases (by omega : i = 0 ∨ i = 1 ∨ i = 2 ∨ i = 3) with rfl | rfl | rfl | rfl <;> simp [frs, spaF, Fun.row, FR.enc]
      · have hi : i < 4 := by
          rcases Nat.lt_or_ge i 4 with q | q
          · exact q
          · rw [List.getElem?_eq_none (by simp [frs, spaF, Fun.row, FR.enc]; omega)] at hv; cases hv
        rw [show 0 + 1 * 4 + i = 4 + i by omega]
        refine hc (4 + i) v ?_
        rw [← hv]
        rcases (by omega : i = 0 ∨ i = 1 ∨ i = 2 ∨ i = 3) with rfl | rfl | rfl | rfl <;> simp [frs, spaF, Fun.row, FR.enc, hl]⟩, fun i h h' => by
        have hi : i = 0 ∨ i = 1 := by simp at h; omega
        rcases hi with rfl | rfl
        · exact ⟨a, cap, by simp [spaF, hn], by simpa [spaF] using hr⟩
        · exact ⟨some ⟨gb, 0, none⟩, 2, by simp [spaF], by simpa [spaF] using hr2⟩, rfl, .inl rfl⟩
theorem spa_smalls (n : Nat) (xs : List Int) (h2 : n ≤ 20) (hx : xs.length ≤ 8) : ∀ f ∈ spaF n xs, f.code.length ≤ 1000000000 ∧ f.name.size < 4294967281 := fun f hf => by
  have hm := mul_small h2 hx
  simp only [spaF, List.mem_cons, List.not_mem_nil, or_false] at hf
  rcases hf with rfl | rfl
  · refine ⟨?_, by show fnm.size < _; decide⟩
    show (spaC n xs).length ≤ _
    rw [show (spaC n xs).length = n * (xs.length + 2) + 2 by simp [spaC, spaG_len]]
    omega
  · exact ⟨by show (2 : Nat) ≤ _; decide, by show gnm.size < _; decide⟩
theorem spaPc_le (a n i : Nat) (hi : i ≤ n) (hn : n ≤ 20) (ha : a ≤ 8) : spaPc a i ≤ 210 := by
  cases i with
  | zero => simp [spaPc]
  | succ i =>
    have := mul_small (show i ≤ 20 by omega) ha
    simp only [spaPc]
    omega
theorem two_begin {w : World} {g cap2 : Nat} {cs : List Value} {n : Nat} {xs : List Int} (hJ : JobR w ⟨some ⟨g, 0, none⟩, 2, cap2, 0, none, 0, 0, 1000, 50⟩ cs (spaF n xs) []) (hE : Env w) (h1 : 1 ≤ n) (h2 : n ≤ 20) (hx : xs.length ≤ 8) :
    Calls Tryd.prog 11 #[.agg #[.slice (some ⟨g, 0, none⟩) 2 cap2, .int .i64 0, .slice none 0 0, .int .i64 1000, .int .i64 50], .int .i64 0, .slice none 0 0] w fun e w' => ∃ b, e = .returned (.tuple #[.agg #[.int .i64 0, .int .i64 0, .int .i64 0, .slice none 0 0, .slice (some ⟨b, 0, none⟩) 0 0, .int .i64 0, .bool false], .int .i64 0]) ∧ Below w.heap.size w w' := by
  have C := begin_zero ⟨some ⟨g, 0, none⟩, 2, cap2, 0, none, 0, 0, 1000, 50⟩ cs (spaF n xs) [] 0 ⟨fnm, 0, 0, spaC n xs⟩ 0 w hJ hE (by simp [spaF]) (spa_smalls n xs h2 hx) (spa_check n xs h1 h2 hx) rfl rfl rfl (by omega)
  refine C.mono ?_
  rintro e w' ⟨b, rfl, _, h3⟩
  exact ⟨b, rfl, h3⟩
set_option maxRecDepth 100000 in
theorem two_run {w : World} {g cap2 : Nat} {cs : List Value} {n : Nat} {xs : List Int} (hJ : JobR w ⟨some ⟨g, 0, none⟩, 2, cap2, 0, none, 0, 0, 1000, 50⟩ cs (spaF n xs) []) (hE : Env w) (h1 : 1 ≤ n) (h2 : n ≤ 20) (hx : xs.length ≤ 8) (i : Nat) (hi : i ≤ n) (hi16 : i ≤ 16) (deep : Int) (sa la : Option Addr) (sc lc : Nat) (q : PM × Option (Int × Int)) (hrs : Reads w sa (iV (spaK i).reverse)) (hsn : sa = none → (spaK i).length = 0 ∧ sc = 0) (hln : la = none → lc = 0)
    (hR : runW (spaF n xs) 1000 deep 1000 30 ⟨0, spaPc xs.length i, spaPc xs.length i, spaK i, [], (i : Int), false, 0, 0, 0, 0, [], 0, 0⟩ = some q) :
    Calls Tryd.prog 12 #[.agg #[.slice (some ⟨g, 0, none⟩) 2 cap2, .int .i64 0, .slice none 0 0, .int .i64 1000, .int .i64 50], .agg #[.int .i64 0, .int .i64 (spaPc xs.length i : Int), .int .i64 (spaPc xs.length i : Int), .slice sa (spaK i).length sc, .slice la 0 lc, .int .i64 (i : Int), .bool false], .int .i64 deep, .int .i64 1000] w (RunQ w (finM q)) := by
  have hp := spaPc_le xs.length n i hi h2 hx
  have hm := mul_small h2 hx
  exact run_Q ⟨some ⟨g, 0, none⟩, 2, cap2, 0, none, 0, 0, 1000, 50⟩ cs (spaF n xs) [] 0 (spaPc xs.length i) (spaPc xs.length i) (i : Int) deep 1000 false sa la sc lc (spaK i) [] (spaD xs.length n) ⟨fnm, 0, 0, spaC n xs⟩ q 30 w hJ hE (by simp [spaF]) (spa_smalls n xs h2 hx) (spa_depsOf n xs h1 h2 hx) (spaD_pc xs.length n i hi) rfl rfl (show (0 : Int) ≤ (i : Int) ∧ (i : Int) ≤ 16 by omega) (by show ((spaPc xs.length i : Nat) : Int) ≤ 1000; omega) (by rw [spaD_len]; omega) hrs (.inl rfl) hsn (fun h => ⟨rfl, hln h⟩) (by have := spaK_len i; omega) (Nat.zero_le _) (fun e => by cases e) hR
/-- The function behind the first one. -/
theorem own_twoF {w : World} {B : Nat} {v : Value} {xs : List Value} (h : w.ownsRow B 32 4 v 2 xs) : ∃ g cap, v = .slice (some ⟨g, 0, none⟩) 2 cap ∧ 2 ≤ cap ∧ B ≤ g ∧ (∃ cur, w.heap[g]? = some (.cells cur 32 (0, 0))) ∧ ∀ i u, xs[i]? = some u → w.cell? ⟨g, i, none⟩ = some u := by
  rcases h.2 with ⟨_, e⟩ | ⟨g, cap, cur, rfl, hg, hh, hn, _, _, ht⟩
  · cases e
  · refine ⟨g, cap, rfl, hn, hg, ⟨cur, hh⟩, fun i u hu => ?_⟩
    rw [← ht, List.getElem?_take] at hu
    split at hu
    · simp only [World.cell?, hh]
      simpa using hu
    · cases hu
/-- A state of the job of two functions, in its box. -/
def stpRow (pc : Nat) (sk : List Int) (kd : Int) (sa la : Option Addr) (sc lc : Nat) : List Value := [.int .i64 0, .int .i64 (pc : Int), .int .i64 (pc : Int), .slice sa sk.length sc, .slice la 0 lc, .int .i64 kd, .bool false]
theorem setCells_out (b x : Nat) : ∀ (vs : List Value) (o : Nat) (w : World), x ≠ b → (w.setCells b o vs).heap[x]? = w.heap[x]?
  | [], _, _, _ => rfl
  | v :: r, o, w, h => by
    unfold World.setCells
    rw [setCells_out b x r (o + 1) _ h]
    by_cases hx : x < w.heap.size
    · exact (grown_setCell w b o v).block x hx (by intro e; injection e with e; exact h e)
    · have hs : (w.setCell ⟨b, o, none⟩ v).heap.size = w.heap.size := by simp
      rw [Array.getElem?_eq_none (by omega), Array.getElem?_eq_none (by omega)]
theorem spa_runP (n k : Nat) (xs : List Int) (deep : Int) (hk : k < n) (hn : n ≤ 20) (hk16 : k ≤ 16) (hx : xs.length ≤ 8) : ∃ q, runW (spaF n xs) 1000 deep 1000 30 ⟨0, spaPc xs.length k, spaPc xs.length k, spaK k, [], (k : Int), false, 0, 0, 0, 0, [], 0, 0⟩ = some q ∧
    (if deep < 12 then (if k = 16 then (finM q).ek = 3 ∧ (finM q).er = 23 else ∃ es : Nat, finM q = ⟨0, spaPc xs.length (k + 1), spaPc xs.length (k + 1), spaK (k + 1), [], ((k + 1 : Nat) : Int), false, 1, 1, (k : Int), es, xs, 0, 0⟩) else (finM q).ek = 3 ∧ (finM q).er = 22) := by
  obtain ⟨q, h1, h2⟩ := spa_run n k xs deep hk hn hk16 hx
  refine ⟨q, h1, ?_⟩
  split
  · rename_i hd
    rw [if_pos hd] at h2
    split
    · rename_i h16
      rw [if_pos h16] at h2
      exact h2
    · rename_i h16
      rw [if_neg h16] at h2
      obtain ⟨es, rfl⟩ := h2
      exact ⟨es, rfl⟩
  · rename_i hd
    rw [if_neg hd] at h2
    exact h2

set_option linter.unusedSimpArgs false in
set_option maxRecDepth 100000 in
set_option maxHeartbeats 16000000 in
theorem spawns_law (n deep : Int) (aa : Option Addr) (na ac : Nat) (xs : List Int) (w : World) (hE : Env w) (hxl : xs.length = na) (hxr : Reads w aa (iV xs)) : Calls Tryd.prog 5 #[.int .i64 n, .int .i64 deep, .slice aa na ac] w fun r w' => r = .returned (.bool true) ∧ Below w.heap.size w w' := by
  have CA := talive_any w hE
  by_cases g0 : n < 1
  · go_enter Tryd.func5, Tryd.ntmps5
    go_wp2_with (go_at_call 9; go_must (with_reducible refine CA.mono ?_; (rintro e w1 ⟨rfl, hb1⟩)))
    go_ret
    exact ⟨rfl, hb1⟩
  by_cases g1 : 20 < n
  · go_enter Tryd.func5, Tryd.ntmps5
    go_wp2_with (go_at_call 9; go_must (with_reducible refine CA.mono ?_; (rintro e w1 ⟨rfl, hb1⟩)))
    go_ret
    exact ⟨rfl, hb1⟩
  by_cases g2 : 8 < (na : Int)
  · go_enter Tryd.func5, Tryd.ntmps5
    go_wp2_with (go_at_call 9; go_must (with_reducible refine CA.mono ?_; (rintro e w1 ⟨rfl, hb1⟩)))
    go_ret
    exact ⟨rfl, hb1⟩
  obtain ⟨m, rfl⟩ : ∃ m : Nat, n = (m : Int) := ⟨n.toNat, by omega⟩
  have hm1 : 1 ≤ m := by omega
  have hm20 : m ≤ 20 := by omega
  have hna8 : na ≤ 8 := by omega
  obtain ⟨i0, hi, hz0, hz1, hz2⟩ := info_parts Tryd.info24
  go_enter Tryd.func5, Tryd.ntmps5
  go_wp2_with (go_at_call 9; go_must (with_reducible refine CA.mono ?_; (rintro e w1 ⟨rfl, hb1⟩)))
  rename_i hcond K0 a0
  clear hcond g0 g1 g2 CA
  have HXL := hide hxl
  have HMUL := fun k (hk : k ≤ 20) => mul_small (a := na) hk hna8
  clear hxl
  go_loopw [8, 9] (fun l i wr => Hid (Below w.heap.size w wr) ∧ ∃ k : Nat, k ≤ m ∧ i = .int .i64 (k : Nat) ∧ wr.ownsRow w.heap.size 24 2 l (k * (na + 2)) (insV (spaG xs k))) (fun _ i _ => m - (intOf i).toNat)
  case atStart => exact ⟨hb1, 0, Nat.zero_le _, rfl, by simpa [spaG, insV] using World.ownsRow_nil w1 _ 24 2⟩
  case round =>
    obtain ⟨hbw0, k, hk, rfl, ho0⟩ := hrel
    by_cases hlt : k < m
    · have hlt' : (k : Int) < (m : Int) := by omega
      have hmk := HMUL k (by omega)
      go_wp2_with fail
      go_loopw [8, 10] (fun l i wr => Hid (Below w.heap.size w wr) ∧ ∃ c : Nat, c ≤ na ∧ i = .int .i64 (c : Nat) ∧ wr.ownsRow w.heap.size 24 2 l (k * (na + 2) + c) (insV (spaG xs k ++ (xs.take c).map (fun x => (1, x))))) (fun _ i _ => na - (intOf i).toNat)
      case atStart => exact ⟨hbw0, 0, Nat.zero_le _, rfl, by simpa using ho0⟩
      case round =>
        obtain ⟨hbw, c, hc, rfl, ho⟩ := hrel
        have hsz := hbw.out.size
        by_cases hcl : c < na
        · have hcl' : (c : Int) < (na : Int) := by omega
          have hx : xs[c]? = some (xs[c]'(by rw [HXL.out]; exact hcl)) := List.getElem?_eq_getElem _
          have HTK := hide (show xs.take (c + 1) = xs.take c ++ [xs[c]'(by rw [HXL.out]; exact hcl)] by rw [List.take_add_one, hx]; rfl)
          obtain ⟨xb, xo, hxa, xc⟩ := reads_iV (hxr.below hbw.out) hx
          subst hxa
          generalize xs[c]'(by rw [HXL.out]; exact hcl) = xv at xc HTK
          go_wp2_with (at_builtin; go_must (refine wpList_append_own _ rfl (.tmp 47) (.tmp 53) 25 rfl w.heap.size 24 i0 (.agg #[.int .i64 0, .int .i64 0]) 2 16 Tryd.underlying25 hi hz0 hz1 hz2 rfl (by decide) u8 (k * (na + 2) + c) _ rfl (ho.alloc _) ⟨wr.heap.size, 0, none⟩ 1 1 [.int .i64 1, .int .i64 xv] rfl rfl (cells_new wr _ 24) (by simp [Value.oneCell']) (by unfold maxLen; omega) (by omega) (by simp; omega) ?_; intro v2 w2 ho2 hg2 hnn; clear hnn))
          have HB2 := hide ((hbw.out.alloc (by omega) _).grown hg2 (by simp; omega) (fun q hq => (ho.lt q hq).1))
          go_roundw
          case rel => exact ⟨HB2, c + 1, by omega, by go_num, by rw [HTK.out, List.map_append, ← List.append_assoc, insV_app, ← Nat.add_assoc]; exact ho2⟩
          case measure => simp [intOf]; omega
        · have hcn : c = na := by omega
          subst hcn
          go_wp2_with (at_builtin; go_must (refine wpList_append_own _ rfl (.tmp 55) (.tmp 58) 25 rfl w.heap.size 24 i0 (.agg #[.int .i64 0, .int .i64 0]) 2 16 Tryd.underlying25 hi hz0 hz1 hz2 rfl (by decide) u8 (k * (c + 2) + c) _ rfl (ho.alloc _) ⟨wr.heap.size, 0, none⟩ 2 2 [.int .i64 16, .int .i64 1, .int .i64 2, .int .i64 0] rfl rfl (cells_new wr _ 24) (by simp [Value.oneCell']) (by unfold maxLen; omega) (by omega) (by simp; omega) ?_; intro v2 w2 ho2 hg2 hnn; clear hnn))
          have HB2 := hide ((hbw.out.alloc (by omega) _).grown hg2 (by simp; omega) (fun q hq => (ho.lt q hq).1))
          have HO2 := hide (show w2.ownsRow w.heap.size 24 2 v2 ((k + 1) * (c + 2)) (insV (spaG xs (k + 1))) by
            rw [spaG_snoc, spaR, ← List.append_assoc, insV_app, show (k + 1) * (c + 2) = k * (c + 2) + c + 2 by rw [Nat.add_mul]; omega]
            have e : xs.take c = xs := List.take_of_length_le (by rw [HXL.out]; exact Nat.le_refl _)
            rw [e] at ho2
            exact ho2)
          go_roundw
          case rel => exact ⟨HB2, k + 1, by omega, by go_num, HO2.out⟩
          case measure => simp [intOf]; omega
    · have hkm : k = m := by omega
      subst hkm
      have hxl := HXL.out
      subst hxl
      have hmk := HMUL k (by omega)
      clear HMUL
      have ho := ho0
      have hbw := hbw0
      have hsz := hbw.out.size
      go_wp2_with (first
        | (at_builtin; go_must (refine wpList_append_own _ rfl (.tmp 60) (.tmp 63) 25 rfl w.heap.size 24 i0 (.agg #[.int .i64 0, .int .i64 0]) 2 16 Tryd.underlying25 hi hz0 hz1 hz2 rfl (by decide) u8 (k * (xs.length + 2)) _ rfl (ho.alloc _) ⟨wr.heap.size, 0, none⟩ 2 2 [.int .i64 1, .int .i64 9, .int .i64 18, .int .i64 0] rfl rfl (cells_new wr _ 24) (by simp [Value.oneCell']) (by unfold maxLen; omega) (by omega) (by simp; omega) ?_; intro v2 w2 ho2 hg2 hnn; clear hnn))
        | (go_at_call 10; refine Hid.out ?_))
      refine Lib.hid ?_
      have hb2 := ((hbw.out.alloc (by omega) _).grown hg2 (by simp; omega) (fun q hq => (ho.lt q hq).1))
      have ho3 : w2.ownsRow w.heap.size 24 2 v2 (k * (xs.length + 2) + 2) (insV (spaC k xs)) := by unfold spaC; rw [insV_app]; exact ho2
      obtain ⟨a, cap, rfl, hr⟩ := own_code ho3
      have C1 := one_new a (k * (xs.length + 2) + 2) cap w2
      refine C1.mono ?_
      rintro e w3 ⟨h1, rfl, hrow3, hh1, hb3⟩
      simp only [oneJ, JV.cells]
      have hba := alloc_below w3 (.cells #[.slice (some ⟨h1, 0, none⟩) 1 1, .int .i64 0, .slice none 0 0, .int .i64 100, .int .i64 50] 29)
      have hja := heap_alloc_new w3 (.cells #[.slice (some ⟨h1, 0, none⟩) 1 1, .int .i64 0, .slice none 0 0, .int .i64 100, .int .i64 50] 29)
      clear C1 ho3 ho2 hg2 ho ho0 hbw hbw0 hsz hlt hb1
      have h1lt := lt_row hrow3
      go_upto_region 15 with fail
      generalize w3.alloc (.cells #[.slice (some ⟨h1, 0, none⟩) 1 1, .int .i64 0, .slice none 0 0, .int .i64 100, .int .i64 50] 29) = w4 at *
      have hb24 := chain hb3 hba
      have hrow4 := heap_row hrow3 hba
      clear hba hb3 hrow3
      have hjb2 : w2.heap.size ≤ w3.heap.size := by omega
      generalize w3.heap.size = jb at *
      have hja' : w4.heap[jb]? = some (.cells [.slice (some ⟨h1, 0, none⟩) 1 1, .int .i64 0, .slice none 0 0, .int .i64 100, .int .i64 50].toArray 29 (0, 0)) := hja
      have j3 := cell_row (i := 3) hja' rfl
      have f3 := frozen_row (i := 3) hja'
      go_upto_region 16 with fail
      have hja5 := set_row (i := 3) hja' (.int .i64 1000)
      have hrow5 : (w4.setCell ⟨jb, 3, none⟩ (.int .i64 1000)).heap[h1]? = _ := ((grown_setCell w4 jb 3 (.int .i64 1000)).block h1 (lt_row hrow4) (by intro e; injection e; omega)).trans hrow4
      have hb25 : Below w2.heap.size w2 (w4.setCell ⟨jb, 3, none⟩ (.int .i64 1000)) := hb24.grown (grown_setCell w4 jb 3 _) hb24.size (fun q hq => by injection hq; omega)
      generalize w4.setCell ⟨jb, 3, none⟩ (.int .i64 1000) = w5 at *
      clear hja hja' j3 f3 hrow4 hb24
      have hja5' : w5.heap[jb]? = some (.cells [.slice (some ⟨h1, 0, none⟩) 1 1, .int .i64 0, .slice none 0 0, .int .i64 1000, .int .i64 50].toArray 29 (0, 0)) := hja5
      clear hja5
      have hjb5 := lt_row hja5'
      have ho5 : w5.ownsRow w.heap.size 32 4 (.slice (some ⟨h1, 0, none⟩) 1 1) 1 [.string fnm, .int .i64 0, .int .i64 0, .slice a (k * (xs.length + 2) + 2) cap] := ⟨rfl, .inr ⟨h1, 1, _, rfl, by have := hb2.size; omega, hrow5, Nat.le_refl _, by unfold maxLen; decide, rfl, rfl⟩⟩
      have j0 := cell_row (i := 0) hja5' rfl
      obtain ⟨i3, hi3, hy0, hy1, hy2⟩ := info_parts Tryd.info32
      have hs25 := hb25.size
      have hs02 := hb2.size
      have o1 := (ho5.alloc (.cells #[.int .i64 1, .int .i64 0, .int .i64 18, .int .i64 0] 24)).alloc (.cells #[.string ⟨#[103]⟩, .int .i64 (xs.length : Int), .int .i64 (xs.length : Int), .slice (some ⟨w5.heap.size, 0, none⟩) 2 2] 32)
      have hcn : ∀ j u, [.string ⟨#[103]⟩, .int .i64 (xs.length : Int), .int .i64 (xs.length : Int), .slice (some ⟨w5.heap.size, 0, none⟩) 2 2][j]? = some u → ((w5.alloc (.cells #[.int .i64 1, .int .i64 0, .int .i64 18, .int .i64 0] 24)).alloc (.cells #[.string ⟨#[103]⟩, .int .i64 (xs.length : Int), .int .i64 (xs.length : Int), .slice (some ⟨w5.heap.size, 0, none⟩) 2 2] 32)).cell? ((⟨w5.heap.size + 1, 0, none⟩ : Addr).add j) = some u := by
        have := cells_new (w5.alloc (.cells #[.int .i64 1, .int .i64 0, .int .i64 18, .int .i64 0] 24)) [.string ⟨#[103]⟩, .int .i64 (xs.length : Int), .int .i64 (xs.length : Int), .slice (some ⟨w5.heap.size, 0, none⟩) 2 2] 32
        simpa using this
      have hjx : ((w5.alloc (.cells #[.int .i64 1, .int .i64 0, .int .i64 18, .int .i64 0] 24)).alloc (.cells #[.string ⟨#[103]⟩, .int .i64 (xs.length : Int), .int .i64 (xs.length : Int), .slice (some ⟨w5.heap.size, 0, none⟩) 2 2] 32)).heap[jb]? = _ := (heap_alloc_old _ _ (by simp; omega)).trans ((heap_alloc_old _ _ hjb5).trans hja5')
      have hgx : ((w5.alloc (.cells #[.int .i64 1, .int .i64 0, .int .i64 18, .int .i64 0] 24)).alloc (.cells #[.string ⟨#[103]⟩, .int .i64 (xs.length : Int), .int .i64 (xs.length : Int), .slice (some ⟨w5.heap.size, 0, none⟩) 2 2] 32)).heap[w5.heap.size]? = some (.cells #[.int .i64 1, .int .i64 0, .int .i64 18, .int .i64 0] 24 (0, 0)) := (heap_alloc_old _ _ (by simp)).trans (heap_alloc_new w5 _)
      have hbx : Below w2.heap.size w2 ((w5.alloc (.cells #[.int .i64 1, .int .i64 0, .int .i64 18, .int .i64 0] 24)).alloc (.cells #[.string ⟨#[103]⟩, .int .i64 (xs.length : Int), .int .i64 (xs.length : Int), .slice (some ⟨w5.heap.size, 0, none⟩) 2 2] 32)) := (hb25.alloc hs25 _).alloc (by simp; omega) _
      have hsx : ((w5.alloc (.cells #[.int .i64 1, .int .i64 0, .int .i64 18, .int .i64 0] 24)).alloc (.cells #[.string ⟨#[103]⟩, .int .i64 (xs.length : Int), .int .i64 (xs.length : Int), .slice (some ⟨w5.heap.size, 0, none⟩) 2 2] 32)).heap.size = w5.heap.size + 2 := by simp
      go_wp2_with (at_builtin; go_must (refine wpList_append_own _ rfl (.tmp 69) (.tmp 78) 26 rfl w.heap.size 32 i3 (.agg #[.string ⟨#[]⟩, .int .i64 0, .int .i64 0, .slice none 0 0]) 4 56 Tryd.underlying26 hi3 hy0 hy1 hy2 rfl (by decide) (.slice (some ⟨h1, 0, none⟩) 1 1) 1 _ rfl o1 ⟨w5.heap.size + 1, 0, none⟩ 1 1 [.string ⟨#[103]⟩, .int .i64 (xs.length : Int), .int .i64 (xs.length : Int), .slice (some ⟨w5.heap.size, 0, none⟩) 2 2] rfl rfl hcn (by simp [Value.oneCell']) (by unfold maxLen; decide) (by decide) (by rw [hsx]; omega) ?_; intro v6 w6 ho6 hg6 hnn; clear hnn; refine Hid.out ?_))
      refine Lib.hid ?_
      obtain ⟨g, cap2, rfl, hcap, hgB, ⟨cur, hgc⟩, hcell⟩ := own_twoF ho6
      have hj6 : w6.heap[jb]? = some (.cells [.slice (some ⟨h1, 0, none⟩) 1 1, .int .i64 0, .slice none 0 0, .int .i64 1000, .int .i64 50].toArray 29 (0, 0)) := (hg6.block jb (by rw [hsx]; omega) (by show some jb ≠ some h1; intro e; injection e; omega)).trans hjx
      have hq6 : w6.heap[w5.heap.size]? = some (.cells [.int .i64 1, .int .i64 0, .int .i64 18, .int .i64 0].toArray 24 (0, 0)) := (hg6.block w5.heap.size (by rw [hsx]; omega) (by show some w5.heap.size ≠ some h1; intro e; injection e; omega)).trans hgx
      have hb26 : Below w2.heap.size w2 w6 := hbx.grown hg6 (by rw [hsx]; omega) (fun q hq => by have hq' : some h1 = some q := hq; injection hq'; omega)
      have hgj : g ≠ jb := by
        intro e
        subst e
        rw [hgc] at hj6
        simp at hj6
      clear hbx hgx hjx hcn o1 ho5 ho6 hja5' j0
      have j0 := cell_row (i := 0) hj6 rfl
      have f0 := frozen_row (i := 0) hj6
      have hgl := lt_row hgc
      have hq5 : w5.heap.size ≠ jb := by omega
      clear hg6 hsx
      go_upto_region 17 with fail
      have hj7' : (w6.setCell ⟨jb, 0, none⟩ (.slice (some ⟨g, 0, none⟩) 2 cap2)).heap[jb]? = some (.cells [.slice (some ⟨g, 0, none⟩) 2 cap2, .int .i64 0, .slice none 0 0, .int .i64 1000, .int .i64 50].toArray 29 (0, 0)) := set_row (i := 0) hj6 (.slice (some ⟨g, 0, none⟩) 2 cap2)
      have hb27 : Below w2.heap.size w2 (w6.setCell ⟨jb, 0, none⟩ (.slice (some ⟨g, 0, none⟩) 2 cap2)) := hb26.grown (grown_setCell w6 jb 0 _) hb26.size (fun q hq => by injection hq; omega)
      have hq7 : (w6.setCell ⟨jb, 0, none⟩ (.slice (some ⟨g, 0, none⟩) 2 cap2)).heap[w5.heap.size]? = some (.cells [.int .i64 1, .int .i64 0, .int .i64 18, .int .i64 0].toArray 24 (0, 0)) := ((grown_setCell w6 jb 0 (.slice (some ⟨g, 0, none⟩) 2 cap2)).block w5.heap.size (lt_row hq6) (by intro e; injection e; omega)).trans hq6
      have hJ := job_two (w := (w6.setCell ⟨jb, 0, none⟩ (.slice (some ⟨g, 0, none⟩) 2 cap2))) (g := g) (cn := k * (xs.length + 2) + 2) (cap := cap) (cap2 := cap2) (na := xs.length) (gb := w5.heap.size) (n := k) (a := a) (xs := xs) rfl (Nat.lt_of_lt_of_le hgl (grown_setCell w6 jb 0 (.slice (some ⟨g, 0, none⟩) 2 cap2)).size) hcap (by simp [spaC, spaG_len]) (fun i u hu => (grown_setCell w6 jb 0 (.slice (some ⟨g, 0, none⟩) 2 cap2)).cell (hcell i u hu) (by intro e; injection e with e; exact hgj e)) (hr.below hb27) (.inr ⟨w5.heap.size, 0, rfl, fun j u hu => by first | exact cell_row hq7 hu | (rw [Nat.zero_add]; exact cell_row hq7 hu)⟩)
      have hb07 := hb2.trans (hb27.mono hb2.size)
      generalize (w6.setCell ⟨jb, 0, none⟩ (.slice (some ⟨g, 0, none⟩) 2 cap2)) = w7 at *
      have hjb0 : w.heap.size ≤ jb := by omega
      clear hj6 hq6 hb26 hgj hq5 hcell hgc hgl j0 f0 hb27 hq7 hb2 hb25 hs25 hs02 hrow5 hjb5 hr hh1 hjb2 h1lt hgB hcap hi3 hy0 hy1 hy2 hi hz0 hz1 hz2
      have C2 := two_begin hJ (hE.below hb07) hm1 hm20 hna8
      have J0 := cell_row (i := 0) hj7' rfl
      have J1 := cell_row (i := 1) hj7' rfl
      have J2 := cell_row (i := 2) hj7' rfl
      have J3 := cell_row (i := 3) hj7' rfl
      have J4 := cell_row (i := 4) hj7' rfl
      have hjl := lt_row hj7'
      clear hj7'
      go_wp2_with (go_at_call 11; go_must (with_reducible refine C2.mono ?_; (rintro e w8 ⟨b, rfl, hb8⟩); refine Hid.out ?_))
      refine Lib.hid ?_
      have J0 := hide J0
      have J1 := hide J1
      have J2 := hide J2
      have J3 := hide J3
      have J4 := hide J4
      clear C2
      have hb9 := chain hb8 (alloc_below w8 (.cells #[.int .i64 0, .int .i64 0, .int .i64 0, .slice none 0 0, .slice (some ⟨b, 0, none⟩) 0 0, .int .i64 0, .bool false] 34))
      have hs9 := heap_alloc_new w8 (.cells #[.int .i64 0, .int .i64 0, .int .i64 0, .slice none 0 0, .slice (some ⟨b, 0, none⟩) 0 0, .int .i64 0, .bool false] 34)
      have hsb : w7.heap.size ≤ w8.heap.size := hb8.size
      have TN := tnum_any
      go_upto_region 18 with fail
      generalize w8.alloc (.cells #[.int .i64 0, .int .i64 0, .int .i64 0, .slice none 0 0, .slice (some ⟨b, 0, none⟩) 0 0, .int .i64 0, .bool false] 34) = w9 at *
      generalize w8.heap.size = sb at *
      clear hb8
      have HRUN := hide (fun (W : World) (i : Nat) (hi : i ≤ k) (hi16 : i ≤ 16) (hbr : Below w7.heap.size w7 W) => two_run (hJ.below hbr) (hE.below (hb07.trans (hbr.mono hb07.size))) hm1 hm20 hna8 i hi hi16 deep)
      have HB07 := hide hb07
      clear hJ hb07
      go_wp2_with (go_at_call 13; go_must (with_reducible refine (TN _ _).mono ?_; (rintro e wT ⟨rfl, rfl⟩)))
      clear TN
      go_loopw [14] (fun i wr => Hid (Below w7.heap.size w7 wr) ∧ ∃ c : Nat, c ≤ k ∧ c ≤ 16 ∧ (0 < c → deep < 12) ∧ i = .int .i64 (c : Nat) ∧ ∃ sa sc la lc, Hid (wr.heap[sb]? = some (.cells (stpRow (spaPc xs.length c) (spaK c) (c : Int) sa la sc lc).toArray 34 (0, 0))) ∧ Hid (Reads wr sa (iV (spaK c).reverse) ∧ (sa = none → (spaK c).length = 0 ∧ sc = 0) ∧ (la = none → lc = 0))) (fun i _ => k - (intOf i).toNat)
      case atStart => exact ⟨hb9, 0, Nat.zero_le _, by omega, fun h => by omega, rfl, none, 0, some ⟨b, 0, none⟩, 0, hs9, .inl rfl, fun _ => ⟨rfl, rfl⟩, fun e => by cases e⟩
      case round =>
        obtain ⟨hbr0, c, hc, hc16, hcd, rfl, sa, sc, la, lc, hst, hrd⟩ := hrel
        have hbr := hbr0.out
        have j0 : wr.cell? ⟨jb, 0, none⟩ = some (.slice (some ⟨g, 0, none⟩) 2 cap2) := keep_cell J0.out hbr
        have j1 : wr.cell? ⟨jb, 1, none⟩ = some (.int .i64 0) := keep_cell J1.out hbr
        have j2 : wr.cell? ⟨jb, 2, none⟩ = some (.slice none 0 0) := keep_cell J2.out hbr
        have j3 : wr.cell? ⟨jb, 3, none⟩ = some (.int .i64 1000) := keep_cell J3.out hbr
        have j4 : wr.cell? ⟨jb, 4, none⟩ = some (.int .i64 50) := keep_cell J4.out hbr
        have hst' := hst.out
        unfold stpRow at hst'
        have s0 := cell_row (i := 0) hst' rfl
        have s1 := cell_row (i := 1) hst' rfl
        have s2 := cell_row (i := 2) hst' rfl
        have s3 := cell_row (i := 3) hst' rfl
        have s4 := cell_row (i := 4) hst' rfl
        have s5 := cell_row (i := 5) hst' rfl
        have s6 := cell_row (i := 6) hst' rfl
        have hsl := lt_row hst'
        clear hst' hs9 hb9
        by_cases hlt : c < k
        · have hlt' : (c : Int) < (k : Int) := by omega
          obtain ⟨q, hq, hfin⟩ := spa_runP k c xs deep hlt hm20 hc16 hna8
          have C3 := HRUN.out wr c hc hc16 hbr sa la sc lc q hrd.out.1 hrd.out.2.1 hrd.out.2.2 hq
          have HF := hide hfin
          clear hq hfin
          unfold RunQ at C3
          generalize finM q = p at C3 HF
          obtain ⟨pfn, ppc, pfu, psk, plo, pkd, pwt, pek, pef, pei, pes, par, per, pev⟩ := p
          simp only at C3 HF
          go_wp2_with (go_at_call 12; go_must (with_reducible refine C3.mono ?_; (rintro e w9 ⟨sa', sc', la', lc', aa', ac', rfl, r1, n1, r2, n2, r3, n3, hbk, hb9⟩); refine Hid.out ?_))
          refine Lib.hid ?_
          clear C3 j0 j1 j2 j3 j4 s0 s1 s2 s3 s4 s5 s6 r2 n3
          try simp only [List.length_nil] at n2 ⊢
          have hbA : Below wr.heap.size wr ((w9.alloc (.cells #[.int .i64 (pfn : Int), .int .i64 (ppc : Int), .int .i64 (pfu : Int), .slice sa' psk.length sc', .slice la' plo.length lc', .int .i64 pkd, .bool pwt] 34)).alloc (.cells #[.int .i64 pek, .int .i64 pef, .int .i64 pei, .int .i64 (pes : Int), .slice aa' par.length ac', .int .i64 per, .int .i64 pev] 41)) := (hb9.alloc hb9.size _).alloc (by have := hb9.size; simp; omega) _
          have htA : ((w9.alloc (.cells #[.int .i64 (pfn : Int), .int .i64 (ppc : Int), .int .i64 (pfu : Int), .slice sa' psk.length sc', .slice la' plo.length lc', .int .i64 pkd, .bool pwt] 34)).alloc (.cells #[.int .i64 pek, .int .i64 pef, .int .i64 pei, .int .i64 (pes : Int), .slice aa' par.length ac', .int .i64 per, .int .i64 pev] 41)).heap[w9.heap.size]? = some (.cells [.int .i64 (pfn : Int), .int .i64 (ppc : Int), .int .i64 (pfu : Int), .slice sa' psk.length sc', .slice la' plo.length lc', .int .i64 pkd, .bool pwt].toArray 34 (0, 0)) := by
            rw [heap_alloc_old _ _ (by simp), heap_alloc_new]
          have heA : ((w9.alloc (.cells #[.int .i64 (pfn : Int), .int .i64 (ppc : Int), .int .i64 (pfu : Int), .slice sa' psk.length sc', .slice la' plo.length lc', .int .i64 pkd, .bool pwt] 34)).alloc (.cells #[.int .i64 pek, .int .i64 pef, .int .i64 pei, .int .i64 (pes : Int), .slice aa' par.length ac', .int .i64 per, .int .i64 pev] 41)).heap[w9.heap.size + 1]? = some (.cells [.int .i64 pek, .int .i64 pef, .int .i64 pei, .int .i64 (pes : Int), .slice aa' par.length ac', .int .i64 per, .int .i64 pev].toArray 41 (0, 0)) := by
            have := heap_alloc_new (w9.alloc (.cells #[.int .i64 (pfn : Int), .int .i64 (ppc : Int), .int .i64 (pfu : Int), .slice sa' psk.length sc', .slice la' plo.length lc', .int .i64 pkd, .bool pwt] 34)) (.cells #[.int .i64 pek, .int .i64 pef, .int .i64 pei, .int .i64 (pes : Int), .slice aa' par.length ac', .int .i64 per, .int .i64 pev] 41)
            simpa using this
          have rA := r1.below (((Below.refl w9.heap.size w9).alloc (Nat.le_refl _) (.cells #[.int .i64 (pfn : Int), .int .i64 (ppc : Int), .int .i64 (pfu : Int), .slice sa' psk.length sc', .slice la' plo.length lc', .int .i64 pkd, .bool pwt] 34)).alloc (by simp) (.cells #[.int .i64 pek, .int .i64 pef, .int .i64 pei, .int .i64 (pes : Int), .slice aa' par.length ac', .int .i64 per, .int .i64 pev] 41))
          have qA := r3.below (((Below.refl w9.heap.size w9).alloc (Nat.le_refl _) (.cells #[.int .i64 (pfn : Int), .int .i64 (ppc : Int), .int .i64 (pfu : Int), .slice sa' psk.length sc', .slice la' plo.length lc', .int .i64 pkd, .bool pwt] 34)).alloc (by simp) (.cells #[.int .i64 pek, .int .i64 pef, .int .i64 pei, .int .i64 (pes : Int), .slice aa' par.length ac', .int .i64 per, .int .i64 pev] 41))
          have htb : wr.heap.size ≤ w9.heap.size := hb9.size
          go_upto_region 24 with fail
          generalize ((w9.alloc (.cells #[.int .i64 (pfn : Int), .int .i64 (ppc : Int), .int .i64 (pfu : Int), .slice sa' psk.length sc', .slice la' plo.length lc', .int .i64 pkd, .bool pwt] 34)).alloc (.cells #[.int .i64 pek, .int .i64 pef, .int .i64 pei, .int .i64 (pes : Int), .slice aa' par.length ac', .int .i64 per, .int .i64 pev] 41)) = wA at *
          generalize w9.heap.size = tb at *
          have hstA := heap_row hst.out hbA
          unfold stpRow at hstA
          have t0 := cell_row (i := 0) htA rfl
          have z0 := cell_row (i := 0) hstA rfl
          have zf0 := frozen_row (i := 0) hstA
          have t1 := cell_row (i := 1) htA rfl
          have z1 := cell_row (i := 1) hstA rfl
          have zf1 := frozen_row (i := 1) hstA
          have t2 := cell_row (i := 2) htA rfl
          have z2 := cell_row (i := 2) hstA rfl
          have zf2 := frozen_row (i := 2) hstA
          have t3 := cell_row (i := 3) htA rfl
          have z3 := cell_row (i := 3) hstA rfl
          have zf3 := frozen_row (i := 3) hstA
          have t4 := cell_row (i := 4) htA rfl
          have z4 := cell_row (i := 4) hstA rfl
          have zf4 := frozen_row (i := 4) hstA
          have t5 := cell_row (i := 5) htA rfl
          have z5 := cell_row (i := 5) hstA rfl
          have zf5 := frozen_row (i := 5) hstA
          have t6 := cell_row (i := 6) htA rfl
          have z6 := cell_row (i := 6) hstA rfl
          have zf6 := frozen_row (i := 6) hstA
          have d1 : tb ≠ sb := by omega
          have d2 : sb ≠ tb := by omega
          have d3 : tb + 1 ≠ sb := by omega
          have d4 : sb ≠ tb + 1 := by omega
          clear r1 r3 hb9
          go_upto_region 25 with fail
          have hsB := setCells_row (vs := [.int .i64 (pfn : Int), .int .i64 (ppc : Int), .int .i64 (pfu : Int), .slice sa' psk.length sc', .slice la' plo.length lc', .int .i64 pkd, .bool pwt]) hstA rfl
          have heB : (wA.setCells sb 0 [.int .i64 (pfn : Int), .int .i64 (ppc : Int), .int .i64 (pfu : Int), .slice sa' psk.length sc', .slice la' plo.length lc', .int .i64 pkd, .bool pwt]).heap[tb + 1]? = _ := (setCells_out sb (tb + 1) _ 0 wA d3).trans heA
          have rB := reads_setCells (b := sb) (vs := [.int .i64 (pfn : Int), .int .i64 (ppc : Int), .int .i64 (pfu : Int), .slice sa' psk.length sc', .slice la' plo.length lc', .int .i64 pkd, .bool pwt]) rA (fun x hx => by have := hbk.1 x hx; omega) 0
          have qB := reads_setCells (b := sb) (vs := [.int .i64 (pfn : Int), .int .i64 (ppc : Int), .int .i64 (pfu : Int), .slice sa' psk.length sc', .slice la' plo.length lc', .int .i64 pkd, .bool pwt]) qA (fun x hx => by have := hbk.2.2 x hx; omega) 0
          have hbB : Below w7.heap.size w7 (wA.setCells sb 0 [.int .i64 (pfn : Int), .int .i64 (ppc : Int), .int .i64 (pfu : Int), .slice sa' psk.length sc', .slice la' plo.length lc', .int .i64 pkd, .bool pwt]) := setCells_below hsb _ _ (hbr.trans (hbA.mono hbr.size))
          have hW : (((((((wA.setCell ⟨sb, 0, none⟩ (.int .i64 (pfn : Int))).setCell ⟨sb, 1, none⟩ (.int .i64 (ppc : Int))).setCell ⟨sb, 2, none⟩ (.int .i64 (pfu : Int))).setCell ⟨sb, 3, none⟩ (.slice sa' psk.length sc')).setCell ⟨sb, 4, none⟩ (.slice la' plo.length lc')).setCell ⟨sb, 5, none⟩ (.int .i64 pkd)).setCell ⟨sb, 6, none⟩ (.bool pwt)) = (wA.setCells sb 0 [.int .i64 (pfn : Int), .int .i64 (ppc : Int), .int .i64 (pfu : Int), .slice sa' psk.length sc', .slice la' plo.length lc', .int .i64 pkd, .bool pwt]) := rfl
          rw [hW]
          clear hW
          generalize (wA.setCells sb 0 [.int .i64 (pfn : Int), .int .i64 (ppc : Int), .int .i64 (pfu : Int), .slice sa' psk.length sc', .slice la' plo.length lc', .int .i64 pkd, .bool pwt]) = wB at *
          clear hstA htA heA rA qA hbA t0 z0 zf0 t1 z1 zf1 t2 z2 zf2 t3 z3 zf3 t4 z4 zf4 t5 z5 zf5 t6 z6 zf6 hst hrd hbr hbr0 hbk d1 d2 d3 d4
          have e0 := cell_row (i := 0) heB rfl
          have e1 := cell_row (i := 1) heB rfl
          have e2 := cell_row (i := 2) heB rfl
          have e4 := cell_row (i := 4) heB rfl
          have e5 := cell_row (i := 5) heB rfl
          have e6 := cell_row (i := 6) heB rfl
          have s5 := cell_row (i := 5) hsB rfl
          clear heB
          by_cases hd : deep < 12
          · have hf := HF.out
            rw [if_pos hd] at hf
            clear HF
            by_cases h16 : c = 16
            · rw [if_pos h16] at hf
              have HF := hide hf
              clear hf
              have h16' : (c : Int) = 16 := by omega
              clear h16
              have HBZ := hide (HB07.out.trans (hbB.mono HB07.out.size))
              have TN := tnum_any
              obtain ⟨rfl, rfl⟩ := HF.out
              clear HF hbB hsB s5 rB qB n1 n2
              go_wp2_with (go_at_call 13; go_must (with_reducible refine (TN _ _).mono ?_; (rintro e w9 ⟨rfl, rfl⟩)))
              go_ret
              exact ⟨rfl, HBZ.out⟩
            · rw [if_neg h16] at hf
              obtain ⟨es, hp⟩ := hf
              cases hp
              have h16' : ¬ (c : Int) = 16 := by omega
              try simp only [List.length_nil] at *
              have C4 := same_ints aa' aa ac' ac xs.length xs wB rfl (by omega) qB (hxr.below (HB07.out.trans (hbB.mono HB07.out.size)))
              go_wp2_with (go_at_call 14; go_must (with_reducible refine C4.mono ?_; (rintro e wC ⟨rfl, hbC⟩); refine Hid.out ?_))
              refine Lib.hid ?_
              clear C4 e0 e1 e2 e4 e5 e6
              have s5' := keep_cell s5 hbC
              clear s5
              have HREL := hide (show Hid (Below w7.heap.size w7 wC) ∧ ∃ sa sc la lc, Hid (wC.heap[sb]? = some (.cells (stpRow (spaPc xs.length (c + 1)) (spaK (c + 1)) ((c + 1 : Nat) : Int) sa la sc lc).toArray 34 (0, 0))) ∧ Hid (Reads wC sa (iV (spaK (c + 1)).reverse) ∧ (sa = none → (spaK (c + 1)).length = 0 ∧ sc = 0) ∧ (la = none → lc = 0)) from
                ⟨hbB.trans (hbC.mono hbB.size), sa', sc', la', lc', heap_row hsB hbC, rB.below hbC, n1, fun e => (n2 e).2⟩)
              clear hbC hbB hsB rB qB n1 n2
              go_wp2_with fail
              go_roundw
              case rel => exact ⟨HREL.out.1, c + 1, by omega, by omega, fun _ => hd, by go_num, HREL.out.2⟩
              case measure => simp [intOf]; omega
          · have hf := HF.out
            rw [if_neg hd] at hf
            clear HF
            have HF := hide hf
            clear hf
            have HBZ := hide (HB07.out.trans (hbB.mono HB07.out.size))
            have TN := tnum_any
            obtain ⟨rfl, rfl⟩ := HF.out
            clear HF hbB hsB s5 rB qB n1 n2
            go_wp2_with (go_at_call 13; go_must (with_reducible refine (TN _ _).mono ?_; (rintro e w9 ⟨rfl, rfl⟩)))
            go_ret
            exact ⟨rfl, HBZ.out⟩
        · have hck : c = k := by omega
          subst hck
          obtain ⟨q, hq, hfin⟩ := spa_last c xs deep hm1 hc16 hna8
          have C3 := HRUN.out wr c hc hc16 hbr sa la sc lc q hrd.out.1 hrd.out.2.1 hrd.out.2.2 hq
          have HF := hide hfin
          clear hq hfin
          unfold RunQ at C3
          generalize finM q = p at C3 HF
          obtain ⟨pfn, ppc, pfu, psk, plo, pkd, pwt, pek, pef, pei, pes, par, per, pev⟩ := p
          simp only at C3 HF
          go_wp2_with (go_at_call 12; go_must (with_reducible refine C3.mono ?_; (rintro e w9 ⟨sa', sc', la', lc', aa', ac', rfl, r1, n1, r2, n2, r3, n3, hbk, hb9⟩); refine Hid.out ?_))
          refine Lib.hid ?_
          clear C3 j0 j1 j2 j3 j4 s0 s1 s2 s3 s4 s5 s6 r1 r2 r3 n1 n2 n3 hbk
          have HBZ := hide (HB07.out.trans ((hbr.trans (((hb9.alloc hb9.size (.cells #[.int .i64 (pfn : Int), .int .i64 (ppc : Int), .int .i64 (pfu : Int), .slice sa' psk.length sc', .slice la' plo.length lc', .int .i64 pkd, .bool pwt] 34)).alloc (by have := hb9.size; simp; omega) (.cells #[.int .i64 pek, .int .i64 pef, .int .i64 pei, .int .i64 (pes : Int), .slice aa' par.length ac', .int .i64 per, .int .i64 pev] 41)).mono hbr.size)).mono HB07.out.size))
          obtain ⟨rfl, rfl⟩ := HF.out
          clear HF hbr hbr0 hst hrd hb9
          go_wp2_with fail
          go_ret
          exact ⟨rfl, HBZ.out⟩
end Go.Proofs.YtlhfjeohhfdccaaDoor
