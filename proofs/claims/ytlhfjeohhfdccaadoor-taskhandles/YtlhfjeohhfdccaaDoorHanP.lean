/- TaskHandles: its job, plain. -/
import Derived.Test.YtlhfjeohhfdccaaDoorPlyG
namespace Go.Proofs.YtlhfjeohhfdccaaDoor
open Go.RowKit Go.ChangeShapes Go.WideShapes Go.ChangeAt Go.Deep

/-- So many spawns, each popped. -/
def hanC : Nat → List (Int × Int)
  | 0 => []
  | n + 1 => (16, 0) :: (2, 0) :: hanC n
theorem hanC_snoc : ∀ n, hanC (n + 1) = hanC n ++ [(16, 0), (2, 0)]
  | 0 => rfl
  | n + 1 => by
    show ((16, 0) : Int × Int) :: (2, 0) :: hanC (n + 1) = (16, 0) :: (2, 0) :: (hanC n ++ [(16, 0), (2, 0)])
    rw [hanC_snoc n]
theorem hanC_len : ∀ n, (hanC n).length = 2 * n
  | 0 => rfl
  | n + 1 => by
    rw [hanC]
    simp [hanC_len n]
    omega
theorem hanC_at : ∀ (n i : Nat) (t : List (Int × Int)), i < n → (hanC n ++ t)[2 * i]? = some (16, 0) ∧ (hanC n ++ t)[2 * i + 1]? = some (2, 0)
  | 0, _, _, h => by omega
  | n + 1, 0, t, _ => ⟨rfl, rfl⟩
  | n + 1, i + 1, t, h => by
    have := hanC_at n i t (by omega)
    rw [show 2 * (i + 1) = 2 * i + 1 + 1 by omega]
    simpa [hanC] using this
theorem hanC_tail (n i : Nat) (t : List (Int × Int)) : (hanC n ++ t)[2 * n + i]? = t[i]? := by
  rw [List.getElem?_append_right (by rw [hanC_len]; omega), hanC_len]
  congr 1
  omega
def hanT (h : Int) : List (Int × Int) := [(1, h), (17, 0), (18, 0)]
def hanD : Nat → List Int
  | 0 => [0, 1, 1]
  | n + 1 => 0 :: 1 :: hanD n
theorem han_one (h : Int) : ∀ n : Nat, n ≤ 16 → oneL (hanC n ++ hanT h) = (0, 0, 0)
  | 0, _ => by kernel_rfl
  | 1, _ => by kernel_rfl
  | 2, _ => by kernel_rfl
  | 3, _ => by kernel_rfl
  | 4, _ => by kernel_rfl
  | 5, _ => by kernel_rfl
  | 6, _ => by kernel_rfl
  | 7, _ => by kernel_rfl
  | 8, _ => by kernel_rfl
  | 9, _ => by kernel_rfl
  | 10, _ => by kernel_rfl
  | 11, _ => by kernel_rfl
  | 12, _ => by kernel_rfl
  | 13, _ => by kernel_rfl
  | 14, _ => by kernel_rfl
  | 15, _ => by kernel_rfl
  | 16, _ => by kernel_rfl
  | n + 17, hn => by omega
theorem han_deps (h : Int) : ∀ n : Nat, n ≤ 16 → depsOf (oneF (hanC n ++ hanT h)) 0 0 100 50 0 = hanD n
  | 0, _ => by kernel_rfl
  | 1, _ => by kernel_rfl
  | 2, _ => by kernel_rfl
  | 3, _ => by kernel_rfl
  | 4, _ => by kernel_rfl
  | 5, _ => by kernel_rfl
  | 6, _ => by kernel_rfl
  | 7, _ => by kernel_rfl
  | 8, _ => by kernel_rfl
  | 9, _ => by kernel_rfl
  | 10, _ => by kernel_rfl
  | 11, _ => by kernel_rfl
  | 12, _ => by kernel_rfl
  | 13, _ => by kernel_rfl
  | 14, _ => by kernel_rfl
  | 15, _ => by kernel_rfl
  | 16, _ => by kernel_rfl
  | n + 17, hn => by omega
theorem hanD_zero : ∀ n, (hanD n)[0]? = some 0
  | 0 => rfl
  | _ + 1 => rfl
theorem hanD_at : ∀ (n i : Nat), i < n → (hanD n)[2 * i + 1]? = some 1
  | 0, _, h => by omega
  | n + 1, 0, _ => rfl
  | n + 1, i + 1, h => by
    rw [show 2 * (i + 1) + 1 = 2 * i + 1 + 1 + 1 by omega]
    simpa [hanD] using hanD_at n i (by omega)
theorem hanD_len : ∀ n, (hanD n).length = 2 * n + 3
  | 0 => rfl
  | n + 1 => by
    simp [hanD, hanD_len n]
    omega
/-- Where it stands behind so many spawns. -/
def hanPc : Nat → Nat
  | 0 => 0
  | n + 1 => 2 * n + 1
def hanSk : Nat → List Int
  | 0 => []
  | n + 1 => [(n : Int)]
theorem hanSk_len (n : Nat) : (hanSk n).length ≤ 1 := by cases n <;> simp [hanSk]
theorem hanD_pc (n i : Nat) (h : i ≤ n) : (hanD n)[hanPc i]? = some ((hanSk i).length : Int) := by
  cases i with
  | zero => exact hanD_zero n
  | succ i => exact hanD_at n i (by omega)
def hanS (i : Nat) : PM := ⟨0, hanPc i, hanPc i, hanSk i, [], (i : Int), false, 0, 0, 0, 0, [], 0, 0⟩
theorem oneF_at (code : List (Int × Int)) : (oneF code)[0]? = some ⟨fnm, 0, 0, code⟩ := rfl
theorem runM_more {fs : List Fun} {jf deep steps : Int} {k : Nat} : ∀ {n : Nat} {s : PM} {q : PM × Option (Int × Int)}, runM fs jf deep steps n s = some q → runM fs jf deep steps (n + k) s = some q
  | 0, s, q, h => by
    unfold runM at h
    split at h
    · cases h
    · rename_i hc
      cases k with
      | zero => unfold runM; rw [if_neg hc]; exact h
      | succ k => show runM fs jf deep steps (0 + k + 1) s = some q; unfold runM; rw [if_neg hc]; exact h
  | n + 1, s, q, h => by
    rw [show n + 1 + k = n + k + 1 by omega]
    unfold runM at h ⊢
    split at h
    · rename_i hc
      rw [if_pos hc]
      cases hq : stepM fs jf deep s with
      | none => rw [hq] at h; cases h
      | some tu =>
        obtain ⟨t, u⟩ := tu
        rw [hq] at h
        cases u with
        | none => exact runM_more h
        | some e => exact h
    · rename_i hc
      rw [if_neg hc]
      exact h
/-- One spawn more. -/
theorem han_run (h : Int) (n i : Nat) (hi : i < n) (hn : n ≤ 16) : ∃ es : Nat, runW (oneF (hanC n ++ hanT h)) 100 0 100 3 (hanS i) = some (⟨0, hanPc (i + 1), hanPc (i + 1), hanSk (i + 1), [], ((i + 1 : Nat) : Int), false, 1, 0, (i : Int), es, [], 0, 0⟩, none) := by
  cases i with
  | zero =>
    obtain ⟨c0, c1⟩ := hanC_at n 0 (hanT h) hi
    refine ⟨1, ?_⟩
    simp at c0
    simp [runW, begM, hanS, hanPc, hanSk, runM, stepM, PM.small, doM, c0, oneF]
  | succ i =>
    obtain ⟨_, c1⟩ := hanC_at n i (hanT h) (by omega)
    obtain ⟨c2, _⟩ := hanC_at n (i + 1) (hanT h) hi
    rw [show 2 * (i + 1) = 2 * i + 1 + 1 by omega] at c2
    refine ⟨2, ?_⟩
    have k1 : ((i : Int) + 1 < 16) := by omega
    have k2 : (2 * (i : Int) + 1 < 100) := by omega
    have k3 : (2 * (i : Int) + 1 + 1 < 100) := by omega
    have s1 : PM.small ⟨0, 2 * i + 1, 2 * i + 1, [(i : Int)], [], ((i + 1 : Nat) : Int), false, 0, 0, 0, 0, [], 0, 0⟩ := by unfold PM.small; simp; omega
    have s2 : PM.small ⟨0, 2 * i + 1 + 1, 2 * i + 1 + 1, [], [], ((i + 1 : Nat) : Int), false, 0, 0, 0, 1, [], 0, 0⟩ := by unfold PM.small; simp; omega
    have t1 : stepM (oneF (hanC n ++ hanT h)) 100 0 ⟨0, 2 * i + 1, 2 * i + 1, [(i : Int)], [], ((i + 1 : Nat) : Int), false, 0, 0, 0, 0, [], 0, 0⟩ = some (⟨0, 2 * i + 1 + 1, 2 * i + 1 + 1, [], [], ((i + 1 : Nat) : Int), false, 0, 0, 0, 1, [], 0, 0⟩, none) := by
      unfold stepM
      rw [if_pos (by show ((2 * i + 1 : Nat) : Int) < 100; omega), if_pos s1]
      simp only [oneF_at, c1]
      rfl
    have t2 : stepM (oneF (hanC n ++ hanT h)) 100 0 ⟨0, 2 * i + 1 + 1, 2 * i + 1 + 1, [], [], ((i + 1 : Nat) : Int), false, 0, 0, 0, 1, [], 0, 0⟩ = some (⟨0, 2 * (i + 1) + 1, 2 * (i + 1) + 1, [((i + 1 : Nat) : Int)], [], ((i + 1 + 1 : Nat) : Int), false, 1, 0, ((i + 1 : Nat) : Int), 2, [], 0, 0⟩, none) := by
      unfold stepM
      rw [if_pos (by show ((2 * i + 1 + 1 : Nat) : Int) < 100; omega), if_pos s2]
      simp only [oneF_at, c2]
      unfold doM
      simp only [oneF]
      rw [if_neg (by decide), if_neg (by decide), if_pos (by decide), if_pos (by decide), if_pos (by show ((i + 1 : Nat) : Int) < 16; omega), if_pos (by decide)]
      rfl
    show runM (oneF (hanC n ++ hanT h)) 100 0 100 3 ⟨0, 2 * i + 1, 2 * i + 1, [(i : Int)], [], ((i + 1 : Nat) : Int), false, 0, 0, 0, 0, [], 0, 0⟩ = _
    unfold runM
    rw [if_pos ⟨rfl, by show ((0 : Nat) : Int) < 100; omega⟩, t1]
    simp only
    unfold runM
    rw [if_pos ⟨rfl, by show ((1 : Nat) : Int) < 100; omega⟩, t2]
    simp only
    unfold runM
    rw [if_neg (by simp)]
    rfl
/-- What the wait comes to. -/
theorem han_last (h : Int) (n : Nat) (hn : n ≤ 16) : ∃ q, runW (oneF (hanC n ++ hanT h)) 100 0 100 5 (hanS n) = some q ∧ (if hasB (n : Int) h = true then (finM q).ek = 2 ∧ (finM q).ei = h else (finM q).ek = 3 ∧ (finM q).er = 24 ∧ (finM q).ev = 0) := by
  have c0 := hanC_tail n 0 (hanT h)
  have c1 := hanC_tail n 1 (hanT h)
  simp only [hanT, List.getElem?_cons_zero, List.getElem?_cons_succ] at c0 c1
  have last : ∀ (fu es : Nat), fu ≤ 90 → es ≤ 10 → ∃ q, runM (oneF (hanC n ++ hanT h)) 100 0 100 3 ⟨0, 2 * n, fu, [], [], (n : Int), false, 0, 0, 0, es, [], 0, 0⟩ = some q ∧ (if hasB (n : Int) h = true then (finM q).ek = 2 ∧ (finM q).ei = h else (finM q).ek = 3 ∧ (finM q).er = 24 ∧ (finM q).ev = 0) := by
    intro fu es hfu hes
    have s1 : PM.small ⟨0, 2 * n, fu, [], [], (n : Int), false, 0, 0, 0, es, [], 0, 0⟩ := by unfold PM.small; simp; omega
    have s2 : PM.small ⟨0, 2 * n + 1, fu + 1, [h], [], (n : Int), false, 0, 0, 0, es + 1, [], 0, 0⟩ := by unfold PM.small; simp; omega
    have t1 : stepM (oneF (hanC n ++ hanT h)) 100 0 ⟨0, 2 * n, fu, [], [], (n : Int), false, 0, 0, 0, es, [], 0, 0⟩ = some (⟨0, 2 * n + 1, fu + 1, [h], [], (n : Int), false, 0, 0, 0, es + 1, [], 0, 0⟩, none) := by
      unfold stepM
      rw [if_pos (by show ((fu : Nat) : Int) < 100; omega), if_pos s1]
      simp only [oneF_at, hanT]
      rw [show 2 * n = 2 * n + 0 by omega, c0]
      rfl
    unfold runM
    rw [if_pos ⟨rfl, by show ((es : Nat) : Int) < 100; omega⟩, t1]
    simp only
    by_cases hh : hasB (n : Int) h = true
    · have t2 : stepM (oneF (hanC n ++ hanT h)) 100 0 ⟨0, 2 * n + 1, fu + 1, [h], [], (n : Int), false, 0, 0, 0, es + 1, [], 0, 0⟩ = some (⟨0, 2 * n + 1, fu + 2, [h], [], (n : Int), true, 2, 0, h, es + 2, [], 0, 0⟩, none) := by
        unfold stepM
        rw [if_pos (by show ((fu + 1 : Nat) : Int) < 100; omega), if_pos s2]
        simp only [oneF_at, hanT]
        rw [c1]
        unfold doM
        simp only
        rw [if_neg (by decide), if_neg (by decide), if_neg (by decide), if_pos (by decide), if_pos hh]
      unfold runM
      rw [if_pos ⟨rfl, by show ((es + 1 : Nat) : Int) < 100; omega⟩, t2]
      simp only
      unfold runM
      rw [if_neg (by simp)]
      exact ⟨_, rfl, by rw [if_pos hh]; exact ⟨rfl, rfl⟩⟩
    · have t2 : stepM (oneF (hanC n ++ hanT h)) 100 0 ⟨0, 2 * n + 1, fu + 1, [h], [], (n : Int), false, 0, 0, 0, es + 1, [], 0, 0⟩ = some (⟨0, 2 * n + 1, fu + 2, [h], [], (n : Int), false, 0, 0, 0, es + 2, [], 0, 0⟩, some (24, 0)) := by
        unfold stepM
        rw [if_pos (by show ((fu + 1 : Nat) : Int) < 100; omega), if_pos s2]
        simp only [oneF_at, hanT]
        rw [c1]
        unfold doM
        simp only
        rw [if_neg (by decide), if_neg (by decide), if_neg (by decide), if_pos (by decide), if_neg hh]
      unfold runM
      rw [if_pos ⟨rfl, by show ((es + 1 : Nat) : Int) < 100; omega⟩, t2]
      exact ⟨_, rfl, by rw [if_neg hh]; exact ⟨rfl, rfl, rfl⟩⟩
  have mono : ∀ q (s : PM), runM (oneF (hanC n ++ hanT h)) 100 0 100 3 s = some q → runM (oneF (hanC n ++ hanT h)) 100 0 100 5 s = some q := fun q s hq => runM_more (k := 2) hq
  cases n with
  | zero =>
    obtain ⟨q, h1, h2⟩ := last 0 0 (by omega) (by omega)
    exact ⟨q, mono q _ h1, h2⟩
  | succ i =>
    obtain ⟨_, d1⟩ := hanC_at (i + 1) i (hanT h) (by omega)
    have s1 : PM.small ⟨0, 2 * i + 1, 2 * i + 1, [(i : Int)], [], ((i + 1 : Nat) : Int), false, 0, 0, 0, 0, [], 0, 0⟩ := by unfold PM.small; simp; omega
    have t1 : stepM (oneF (hanC (i + 1) ++ hanT h)) 100 0 ⟨0, 2 * i + 1, 2 * i + 1, [(i : Int)], [], ((i + 1 : Nat) : Int), false, 0, 0, 0, 0, [], 0, 0⟩ = some (⟨0, 2 * (i + 1), 2 * i + 1 + 1, [], [], ((i + 1 : Nat) : Int), false, 0, 0, 0, 1, [], 0, 0⟩, none) := by
      unfold stepM
      rw [if_pos (by show ((2 * i + 1 : Nat) : Int) < 100; omega), if_pos s1]
      simp only [oneF_at, d1]
      rfl
    obtain ⟨q, h1, h2⟩ := last (2 * i + 1 + 1) 1 (by omega) (by omega)
    refine ⟨q, ?_, h2⟩
    show runM (oneF (hanC (i + 1) ++ hanT h)) 100 0 100 5 ⟨0, 2 * i + 1, 2 * i + 1, [(i : Int)], [], ((i + 1 : Nat) : Int), false, 0, 0, 0, 0, [], 0, 0⟩ = _
    unfold runM
    rw [if_pos ⟨rfl, by show ((0 : Nat) : Int) < 100; omega⟩, t1]
    exact runM_more (k := 1) h1
end Go.Proofs.YtlhfjeohhfdccaaDoor
