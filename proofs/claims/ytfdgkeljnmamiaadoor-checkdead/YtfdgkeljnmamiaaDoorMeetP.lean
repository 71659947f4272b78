/- Where two ways meet, plain. -/
import Derived.Test.YtfdgkeljnmamiaaDoorTallW
namespace Go.Proofs.YtfdgkeljnmamiaaDoor
open Go.RowKit Go.ChangeShapes Go.WideShapes Go.ChangeAt Go.Deep

def meetA (a k : Nat) : List (Int × Int) := [(1, 0), (15, 3 + (a : Int))] ++ List.replicate k (1, 0)
def meetB (a b k : Nat) : List (Int × Int) := (meetA a a ++ [(14, 3 + (a : Int) + (b : Int))]) ++ List.replicate k (1, 0)
def meetC (a b : Nat) : List (Int × Int) := meetB a b b ++ [(1, 0), (18, 0)]
theorem meetA_succ (a k : Nat) : meetA a (k + 1) = meetA a k ++ [(1, 0)] := by simp [meetA, List.replicate_succ']
theorem meetB_succ (a b k : Nat) : meetB a b (k + 1) = meetB a b k ++ [(1, 0)] := by simp [meetB, List.replicate_succ']
theorem meetC_len (a b : Nat) : (meetC a b).length = a + b + 5 := by simp [meetC, meetB, meetA]; omega
def oneD (code : List (Int × Int)) : List Int := depsOf (oneF code) 0 0 100 50 0
theorem meet_r0 : ∀ y : Fin 21, (oneL (meetC 0 y.1)).2.2 = if 0 = y.1 then 0 else 12 := by decide +kernel
theorem meet_r1 : ∀ y : Fin 21, (oneL (meetC 1 y.1)).2.2 = if 1 = y.1 then 0 else 12 := by decide +kernel
theorem meet_r2 : ∀ y : Fin 21, (oneL (meetC 2 y.1)).2.2 = if 2 = y.1 then 0 else 12 := by decide +kernel
theorem meet_r3 : ∀ y : Fin 21, (oneL (meetC 3 y.1)).2.2 = if 3 = y.1 then 0 else 12 := by decide +kernel
theorem meet_r4 : ∀ y : Fin 21, (oneL (meetC 4 y.1)).2.2 = if 4 = y.1 then 0 else 12 := by decide +kernel
theorem meet_r5 : ∀ y : Fin 21, (oneL (meetC 5 y.1)).2.2 = if 5 = y.1 then 0 else 12 := by decide +kernel
theorem meet_r6 : ∀ y : Fin 21, (oneL (meetC 6 y.1)).2.2 = if 6 = y.1 then 0 else 12 := by decide +kernel
theorem meet_r7 : ∀ y : Fin 21, (oneL (meetC 7 y.1)).2.2 = if 7 = y.1 then 0 else 12 := by decide +kernel
theorem meet_r8 : ∀ y : Fin 21, (oneL (meetC 8 y.1)).2.2 = if 8 = y.1 then 0 else 12 := by decide +kernel
theorem meet_r9 : ∀ y : Fin 21, (oneL (meetC 9 y.1)).2.2 = if 9 = y.1 then 0 else 12 := by decide +kernel
theorem meet_r10 : ∀ y : Fin 21, (oneL (meetC 10 y.1)).2.2 = if 10 = y.1 then 0 else 12 := by decide +kernel
theorem meet_r11 : ∀ y : Fin 21, (oneL (meetC 11 y.1)).2.2 = if 11 = y.1 then 0 else 12 := by decide +kernel
theorem meet_r12 : ∀ y : Fin 21, (oneL (meetC 12 y.1)).2.2 = if 12 = y.1 then 0 else 12 := by decide +kernel
theorem meet_r13 : ∀ y : Fin 21, (oneL (meetC 13 y.1)).2.2 = if 13 = y.1 then 0 else 12 := by decide +kernel
theorem meet_r14 : ∀ y : Fin 21, (oneL (meetC 14 y.1)).2.2 = if 14 = y.1 then 0 else 12 := by decide +kernel
theorem meet_r15 : ∀ y : Fin 21, (oneL (meetC 15 y.1)).2.2 = if 15 = y.1 then 0 else 12 := by decide +kernel
theorem meet_r16 : ∀ y : Fin 21, (oneL (meetC 16 y.1)).2.2 = if 16 = y.1 then 0 else 12 := by decide +kernel
theorem meet_r17 : ∀ y : Fin 21, (oneL (meetC 17 y.1)).2.2 = if 17 = y.1 then 0 else 12 := by decide +kernel
theorem meet_r18 : ∀ y : Fin 21, (oneL (meetC 18 y.1)).2.2 = if 18 = y.1 then 0 else 12 := by decide +kernel
theorem meet_r19 : ∀ y : Fin 21, (oneL (meetC 19 y.1)).2.2 = if 19 = y.1 then 0 else 12 := by decide +kernel
theorem meet_r20 : ∀ y : Fin 21, (oneL (meetC 20 y.1)).2.2 = if 20 = y.1 then 0 else 12 := by decide +kernel
theorem meet_res (a b : Nat) (h1 : a ≤ 20) (h2 : b ≤ 20) : (oneL (meetC a b)).2.2 = if a = b then 0 else 12 := by
  have hb : b < 21 := by omega
  match a, h1 with
  | 0, _ => exact meet_r0 ⟨b, hb⟩
  | 1, _ => exact meet_r1 ⟨b, hb⟩
  | 2, _ => exact meet_r2 ⟨b, hb⟩
  | 3, _ => exact meet_r3 ⟨b, hb⟩
  | 4, _ => exact meet_r4 ⟨b, hb⟩
  | 5, _ => exact meet_r5 ⟨b, hb⟩
  | 6, _ => exact meet_r6 ⟨b, hb⟩
  | 7, _ => exact meet_r7 ⟨b, hb⟩
  | 8, _ => exact meet_r8 ⟨b, hb⟩
  | 9, _ => exact meet_r9 ⟨b, hb⟩
  | 10, _ => exact meet_r10 ⟨b, hb⟩
  | 11, _ => exact meet_r11 ⟨b, hb⟩
  | 12, _ => exact meet_r12 ⟨b, hb⟩
  | 13, _ => exact meet_r13 ⟨b, hb⟩
  | 14, _ => exact meet_r14 ⟨b, hb⟩
  | 15, _ => exact meet_r15 ⟨b, hb⟩
  | 16, _ => exact meet_r16 ⟨b, hb⟩
  | 17, _ => exact meet_r17 ⟨b, hb⟩
  | 18, _ => exact meet_r18 ⟨b, hb⟩
  | 19, _ => exact meet_r19 ⟨b, hb⟩
  | 20, _ => exact meet_r20 ⟨b, hb⟩
  | n + 21, h => omega
theorem meet_deps (a : Nat) (h1 : a ≤ 20) : (oneD (meetC a a)).length = a + a + 5 ∧ (oneD (meetC a a)).getD (3 + a + a) 0 = (a : Int) := by
  have : ∀ x : Fin 21, (oneD (meetC x.1 x.1)).length = x.1 + x.1 + 5 ∧ (oneD (meetC x.1 x.1)).getD (3 + x.1 + x.1) 0 = (x.1 : Int) := by decide +kernel
  exact this ⟨a, by omega⟩
end Go.Proofs.YtfdgkeljnmamiaaDoor
