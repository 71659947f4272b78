/- TaskLocals: its job, plain. -/
import Derived.Test.YtlhfjeohhfdccaaDoorWalkN
import Derived.Test.YtlhfjeohhfdccaaDoorBegA
namespace Go.Proofs.YtlhfjeohhfdccaaDoor
open Go.RowKit Go.ChangeShapes Go.WideShapes Go.ChangeAt Go.Deep

theorem inB_iff {n lo hi : Int} : inB n lo hi = true ↔ lo ≤ n ∧ n ≤ hi := by simp [inB]
theorem hasB_iff {n h : Int} : hasB n h = true ↔ 0 ≤ h ∧ h < n := by
  simp [hasB, inB]
  omega
theorem ins_local {lo n : Int} {nc nf : Nat} (h : hasB lo n = true) : insErr lo nc nf 5 n = 0 := by
  unfold insErr
  simp [h]
  exact ⟨by decide +kernel, fun h => absurd h (by decide +kernel)⟩
theorem ins_store {lo n : Int} {nc nf : Nat} (h : hasB lo n = true) : insErr lo nc nf 6 n = 0 := by
  unfold insErr
  simp [h]
  exact ⟨by decide +kernel, fun h => absurd h (by decide +kernel)⟩
/-- Times 3, and the next local. -/
def locG : Nat → Nat → List (Int × Int)
  | _, 0 => []
  | k, n + 1 => (1, 3) :: (9, 0) :: (5, (k : Int)) :: (7, 0) :: locG (k + 1) n
theorem locG_snoc : ∀ k n, locG k (n + 1) = locG k n ++ [(1, 3), (9, 0), (5, ((k + n : Nat) : Int)), (7, 0)]
  | k, 0 => rfl
  | k, n + 1 => by
    have := locG_snoc (k + 1) n
    rw [show k + 1 + n = k + (n + 1) by omega] at this
    show ((1, 3) : Int × Int) :: (9, 0) :: (5, (k : Int)) :: (7, 0) :: locG (k + 1) (n + 1) = (1, 3) :: (9, 0) :: (5, (k : Int)) :: (7, 0) :: (locG (k + 1) n ++ _)
    rw [this]
theorem locG_len : ∀ k n, (locG k n).length = 4 * n
  | _, 0 => rfl
  | k, n + 1 => by
    simp [locG, locG_len (k + 1) n]
    omega
theorem locG_at : ∀ (n k i : Nat) (t : List (Int × Int)), i < n → (locG k n ++ t)[4 * i]? = some (1, 3) ∧ (locG k n ++ t)[4 * i + 1]? = some (9, 0) ∧ (locG k n ++ t)[4 * i + 2]? = some (5, ((k + i : Nat) : Int)) ∧ (locG k n ++ t)[4 * i + 3]? = some (7, 0)
  | 0, _, _, _, h => by omega
  | n + 1, k, 0, t, _ => ⟨rfl, rfl, rfl, rfl⟩
  | n + 1, k, i + 1, t, h => by
    have := locG_at n (k + 1) i t (by omega)
    rw [show k + 1 + i = k + (i + 1) by omega] at this
    rw [show 4 * (i + 1) = 4 * i + 1 + 1 + 1 + 1 by omega]
    simpa [locG] using this
theorem locG_tail (n k : Nat) (t : List (Int × Int)) : (locG k n ++ t)[4 * n]? = t[0]? := by
  rw [List.getElem?_append_right (by rw [locG_len]; omega), locG_len]
  simp
def locC (n : Nat) (p v : Int) : List (Int × Int) := (1, v) :: (6, p) :: (1, 0) :: (locG 0 n ++ [(18, 0)])
def locF (a n : Nat) (p v : Int) : Fun := ⟨fnm, (a : Int), (n : Int), locC n p v⟩
def locD : Nat → List Int
  | 0 => [1]
  | n + 1 => 1 :: 2 :: 1 :: 2 :: locD n
theorem locC_len (n : Nat) (p v : Int) : (locC n p v).length = 4 * n + 4 := by
  simp [locC, locG_len]
theorem loc_deps (a p v : Int) : ∀ n : Nat, 1 ≤ n → n ≤ 16 → depthsL [a] (locC n p v) = .ok (0 :: 1 :: 0 :: locD n)
  | 0, h, _ => by omega
  | 1, _, _ => by kernel_rfl
  | 2, _, _ => by kernel_rfl
  | 3, _, _ => by kernel_rfl
  | 4, _, _ => by kernel_rfl
  | 5, _, _ => by kernel_rfl
  | 6, _, _ => by kernel_rfl
  | 7, _, _ => by kernel_rfl
  | 8, _, _ => by kernel_rfl
  | 9, _, _ => by kernel_rfl
  | 10, _, _ => by kernel_rfl
  | 11, _, _ => by kernel_rfl
  | 12, _, _ => by kernel_rfl
  | 13, _, _ => by kernel_rfl
  | 14, _, _ => by kernel_rfl
  | 15, _, _ => by kernel_rfl
  | 16, _, _ => by kernel_rfl
  | n + 17, _, h => by omega
theorem locG_ins (lo : Int) (nc nf : Nat) : ∀ n k, ((k + n : Nat) : Int) ≤ lo → ∀ x ∈ locG k n, insErr lo nc nf x.1 x.2 = 0
  | 0, k, _, x, hx => by simp [locG] at hx
  | n + 1, k, h, x, hx => by
    simp only [locG, List.mem_cons] at hx
    rcases hx with rfl | rfl | rfl | rfl | hx
    · kernel_rfl
    · kernel_rfl
    · have hh : hasB lo (k : Int) = true := hasB_iff.2 ⟨by omega, by omega⟩
      exact ins_local hh
    · kernel_rfl
    · exact locG_ins lo nc nf n (k + 1) (by rw [show k + 1 + n = k + (n + 1) by omega]; exact h) x hx
theorem loc_err (a n : Nat) (p v : Int) (ha : a ≤ 8) (han : a ≤ n) (h1 : 1 ≤ n) (h16 : n ≤ 16) (hp : 0 ≤ p ∧ p < (n : Int)) : (funcErr [locF a n p v] 0 (locF a n p v)).2 = 0 := by
  have hh : headErr [locF a n p v] 0 (locF a n p v) = 0 := by
    unfold headErr
    rw [if_neg (by show ¬ ((isNameL fnm.data.toList && !(decide (0 ≤ findF fnm []))) = false); decide +kernel), if_neg (by rw [show inB (locF a n p v).args 0 8 = true from inB_iff.2 (show (0 : Int) ≤ (a : Int) ∧ (a : Int) ≤ 8 by omega)]; simp), if_neg (by rw [show inB (locF a n p v).locals (locF a n p v).args 16 = true from inB_iff.2 (show (a : Int) ≤ (n : Int) ∧ (n : Int) ≤ 16 by omega)]; simp), if_neg (by rw [show (locF a n p v).code.length = 4 * n + 4 from locC_len n p v, inB_iff.2 (show (1 : Int) ≤ ((4 * n + 4 : Nat) : Int) ∧ ((4 * n + 4 : Nat) : Int) ≤ 256 by omega)]; simp)]
  have hi : insFrom (locF a n p v).locals (locF a n p v).code.length [locF a n p v].length 0 (locF a n p v).code = (0, 0) := by
    refine insFrom_ok _ 0 (fun x hx => ?_)
    simp only [locF, locC, List.mem_cons, List.mem_append, List.not_mem_nil, or_false] at hx
    rcases hx with rfl | rfl | rfl | hx | rfl
    · kernel_rfl
    · exact ins_store (hasB_iff.2 ⟨hp.1, hp.2⟩)
    · kernel_rfl
    · exact locG_ins _ _ _ n 0 (by simp [locF]) x hx
    · kernel_rfl
  unfold funcErr
  rw [if_neg (by rw [hh]; simp), if_neg (by rw [hi]; simp)]
  have hd := loc_deps (a : Int) p v n h1 h16
  simp only [List.map_cons, List.map_nil, locF] at hd ⊢
  rw [hd]
/-- The sum, from one local on. -/
def accL : List Int → Int → Int
  | [], s => s
  | x :: r, s => accL r (wrap64 (wrap64 (3 * s) + x))
theorem accL_snoc : ∀ (l : List Int) (x s : Int), accL (l ++ [x]) s = wrap64 (wrap64 (3 * accL l s) + x)
  | [], _, _ => rfl
  | _ :: r, x, _ => accL_snoc r x _
theorem loc_code (n i : Nat) (p v : Int) (hi : i < n) : (locC n p v)[4 * i + 3]? = some (1, 3) ∧ (locC n p v)[4 * i + 4]? = some (9, 0) ∧ (locC n p v)[4 * i + 5]? = some (5, (i : Int)) ∧ (locC n p v)[4 * i + 6]? = some (7, 0) := by
  have := locG_at n 0 i [(18, 0)] hi
  rw [Nat.zero_add] at this
  simpa [locC] using this
theorem loc_code_end (n : Nat) (p v : Int) : (locC n p v)[4 * n + 3]? = some (18, 0) := by
  have := locG_tail n 0 [(18, 0)]
  simpa [locC] using this
theorem loc_round (a n i : Nat) (p v s x : Int) (lo : List Int) (J : Int) (hJ : 100000 < J) (hi : i < n) (hn : n ≤ 16) (hlo : lo.length = n) (hx : lo[i]? = some x) : walkN [locF a n p v] J 0 4 ⟨0, 4 * i + 3, 4 * i + 3, [s], lo, 0, false, 0, 0, 0, 4 * i + 3, [], 0, 0⟩ = some ⟨0, 4 * i + 7, 4 * i + 7, [wrap64 (wrap64 (s * 3) + x)], lo, 0, false, 0, 0, 0, 4 * i + 7, [], 0, 0⟩ := by
  obtain ⟨c0, c1, c2, c3⟩ := loc_code n i p v hi
  have t0 : walkN [locF a n p v] J 0 1 ⟨0, 4 * i + 3, 4 * i + 3, [s], lo, 0, false, 0, 0, 0, 4 * i + 3, [], 0, 0⟩ = some ⟨0, 4 * i + 4, 4 * i + 4, [3, s], lo, 0, false, 0, 0, 0, 4 * i + 4, [], 0, 0⟩ := walkN_one hJ rfl (by unfold PM.small; simp; omega) rfl (c0) (rfl)
  have t1 : walkN [locF a n p v] J 0 1 ⟨0, 4 * i + 4, 4 * i + 4, [3, s], lo, 0, false, 0, 0, 0, 4 * i + 4, [], 0, 0⟩ = some ⟨0, 4 * i + 5, 4 * i + 5, [wrap64 (s * 3)], lo, 0, false, 0, 0, 0, 4 * i + 5, [], 0, 0⟩ := walkN_one hJ rfl (by unfold PM.small; simp; omega) rfl (c1) (rfl)
  have t2 : walkN [locF a n p v] J 0 1 ⟨0, 4 * i + 5, 4 * i + 5, [wrap64 (s * 3)], lo, 0, false, 0, 0, 0, 4 * i + 5, [], 0, 0⟩ = some ⟨0, 4 * i + 6, 4 * i + 6, [x, wrap64 (s * 3)], lo, 0, false, 0, 0, 0, 4 * i + 6, [], 0, 0⟩ := walkN_one hJ rfl (by unfold PM.small; simp; omega) rfl (c2) (by
    unfold doM
    simp only
    rw [if_neg (by decide), if_neg (by decide), if_neg (by decide), if_neg (by decide), if_neg (by decide), if_neg (by decide), if_pos (by decide), if_pos (by omega)]
    simp only [Int.toNat_natCast, hx])
  have t3 : walkN [locF a n p v] J 0 1 ⟨0, 4 * i + 6, 4 * i + 6, [x, wrap64 (s * 3)], lo, 0, false, 0, 0, 0, 4 * i + 6, [], 0, 0⟩ = some ⟨0, 4 * i + 7, 4 * i + 7, [wrap64 (wrap64 (s * 3) + x)], lo, 0, false, 0, 0, 0, 4 * i + 7, [], 0, 0⟩ := walkN_one hJ rfl (by unfold PM.small; simp; omega) rfl (c3) (rfl)
  exact walkN_add 3 1 _ _ _ (walkN_add 2 1 _ _ _ (walkN_add 1 1 _ _ _ t0 t1) t2) t3
theorem loc_loop (a n : Nat) (p v : Int) (lo : List Int) (J : Int) (hJ : 100000 < J) (hn : n ≤ 16) (hlo : lo.length = n) : ∀ i : Nat, i ≤ n → walkN [locF a n p v] J 0 (4 * i) ⟨0, 3, 3, [0], lo, 0, false, 0, 0, 0, 3, [], 0, 0⟩ = some ⟨0, 4 * i + 3, 4 * i + 3, [accL (lo.take i) 0], lo, 0, false, 0, 0, 0, 4 * i + 3, [], 0, 0⟩
  | 0, _ => rfl
  | i + 1, h => by
    have q1 := loc_loop a n p v lo J hJ hn hlo i (by omega)
    have hx : lo[i]? = some (lo[i]'(by omega)) := List.getElem?_eq_getElem (by omega)
    have q2 := loc_round a n i p v (accL (lo.take i) 0) _ lo J hJ (by omega) hn hlo hx
    have := walkN_add _ 4 _ _ _ q1 q2
    rw [show 4 * i + 4 = 4 * (i + 1) by omega] at this
    rw [this, List.take_add_one, hx]
    simp only [Option.toList_some, accL_snoc, Int.mul_comm 3]
    rw [show 4 * (i + 1) + 3 = 4 * i + 7 by omega]
theorem loc_run (a n : Nat) (p v : Int) (lo : List Int) (h1 : 1 ≤ n) (hn : n ≤ 16) (hlo : lo.length = n) (hp : 0 ≤ p ∧ p < (n : Int)) : runW [locF a n p v] 200 0 1000 (4 * n + 10) ⟨0, 0, 0, [], lo, 0, false, 0, 0, 0, 0, [], 0, 0⟩ = some (⟨0, 4 * n + 3, 4 * n + 4, [accL (lo.set p.toNat v) 0], (lo.set p.toNat v), 0, false, 3, 0, 0, 4 * n + 4, [], 0, (accL (lo.set p.toNat v) 0)⟩, none) := by
  have hJ : (100000 : Int) < 100001 := by decide
  have t0 : walkN [locF a n p v] 100001 0 1 ⟨0, 0, 0, [], lo, 0, false, 0, 0, 0, 0, [], 0, 0⟩ = some ⟨0, 1, 1, [v], lo, 0, false, 0, 0, 0, 1, [], 0, 0⟩ := walkN_one hJ rfl (by unfold PM.small; simp; omega) rfl rfl rfl
  have t1 : walkN [locF a n p v] 100001 0 1 ⟨0, 1, 1, [v], lo, 0, false, 0, 0, 0, 1, [], 0, 0⟩ = some ⟨0, 2, 2, [], (lo.set p.toNat v), 0, false, 0, 0, 0, 2, [], 0, 0⟩ := walkN_one hJ rfl (by unfold PM.small; simp; omega) rfl rfl (by
    unfold doM
    simp only
    rw [if_neg (by decide), if_neg (by decide), if_neg (by decide), if_neg (by decide), if_neg (by decide), if_neg (by decide), if_neg (by decide), if_pos (by decide), if_pos ⟨hp.1, by omega⟩])
  have t2 : walkN [locF a n p v] 100001 0 1 ⟨0, 2, 2, [], (lo.set p.toNat v), 0, false, 0, 0, 0, 2, [], 0, 0⟩ = some ⟨0, 3, 3, [0], (lo.set p.toNat v), 0, false, 0, 0, 0, 3, [], 0, 0⟩ := walkN_one hJ rfl (by unfold PM.small; simp; omega) rfl rfl rfl
  have w3 := loc_loop a n p v (lo.set p.toNat v) 100001 hJ hn (by simpa using hlo) n (Nat.le_refl _)
  rw [List.take_of_length_le (by simp; omega)] at w3
  have t4 : walkN [locF a n p v] 100001 0 1 ⟨0, 4 * n + 3, 4 * n + 3, [accL (lo.set p.toNat v) 0], (lo.set p.toNat v), 0, false, 0, 0, 0, 4 * n + 3, [], 0, 0⟩ = some ⟨0, 4 * n + 3, 4 * n + 4, [accL (lo.set p.toNat v) 0], (lo.set p.toNat v), 0, false, 3, 0, 0, 4 * n + 4, [], 0, (accL (lo.set p.toNat v) 0)⟩ := walkN_one hJ rfl (by unfold PM.small; simp; omega) rfl (loc_code_end n p v) rfl
  have w := walkN_add _ 1 _ _ _ (walkN_add 3 _ _ _ _ (walkN_add 2 1 _ _ _ (walkN_add 1 1 _ _ _ t0 t1) t2) w3) t4
  unfold runW begM
  rw [if_neg (by simp)]
  simp only [Option.bind_some]
  have q := run_walk (steps := 1000) (jf := 200) (k := 6) hJ _ _ _ w (by show ((0 + (3 + 4 * n + 1) : Nat) : Int) ≤ 1000; omega) (by show ((0 + (3 + 4 * n + 1) : Nat) : Int) ≤ 200; omega)
  rw [show 3 + 4 * n + 1 + 6 = 4 * n + 10 by omega] at q
  exact q.trans (run_done (show (3 : Int) ≠ 0 by decide))
end Go.Proofs.YtlhfjeohhfdccaaDoor
