/- Views from which nodes go, plain. -/
import Derived.Test.YthjkfpcbbjmclaaPln
namespace Go.Proofs.Ythjkfpcbbjmclaa
open Go.RowKit

/-- The view of those that are still there, and the marks of those that are gone. -/
structure GoI (n : Nat) (p : Int) (L : List Mb) (G : List Bool) : Prop where
  may : mayV p L = true
  len : G.length = 16
  mem : ∀ j : Nat, j < 16 → inV L (j : Int) = (decide (j < n) && !(G[j]?.getD true))
  root : hasV L 0 1 = true
theorem GoI.start {n : Nat} (h1 : 1 ≤ n) (h2 : n ≤ 16) : GoI n 1 (fiL n) (List.replicate 16 false) := by
  refine ⟨fiL_may h1 h2 rfl, rfl, fun j hj => ?_, ?_⟩
  · rw [inV_fiL, List.getElem?_replicate, if_pos hj]; simp
  · have : ((0 : Int), (1 : Int)) ∈ fiL n := fiL_mem.2 ⟨0, by omega, rfl⟩
    simpa [hasV] using this
theorem GoI.no {n : Nat} {p : Int} {L : List Mb} {G : List Bool} {j : Nat} (h : GoI n p L G) (hj : j < 16) (hno : ¬ (0 < j ∧ j < n ∧ G[j]?.getD true = false)) : woE p L [(j : Int)] = 1 := by
  have ho : outOk L [(j : Int)] = false := by
    simp only [outOk, List.all_cons, List.all_nil, Bool.and_true, h.mem j hj]
    by_cases h0 : j = 0
    · subst h0; simp
    · by_cases h1 : j < n
      · have : G[j]?.getD true = true := by
          cases hg : G[j]?.getD true with
          | true => rfl
          | false => exact absurd ⟨by omega, h1, hg⟩ hno
        simp [this]
      · simp [h1]
  unfold woE
  rw [ho]; simp
structure GoY (n : Nat) (p : Int) (L L' : List Mb) (G : List Bool) (j : Nat) : Prop where
  e : woE p L [(j : Int)] = 0
  pp : woP p L [(j : Int)] = p + 1
  ll : woL p L [(j : Int)] = L'
  nx : GoI n (p + 1) L' (G.set j true)
  len : L'.length + 1 = L.length
  f1 : fenV (p + 1) L' (p + 1) (j : Int) 1 = true
  f2 : fenV (p + 1) L' (p + 1) 0 1 = false
  f3 : fenV (p + 1) L' p 0 1 = true
theorem GoI.yes {n : Nat} {p : Int} {L : List Mb} {G : List Bool} {j : Nat} (h : GoI n p L G) (hj : j < 16) (h0 : 0 < j) (hn : j < n) (hg : G[j]?.getD true = false) (hp : 1 ≤ p ∧ p ≤ 1000) : GoY n p L (L.filter (fun m => !decide (m.1 = (j : Int)))) G j := by
  have hi : inV L (j : Int) = true := by rw [h.mem j hj, hg]; simpa using hn
  have ho : outOk L [(j : Int)] = true := by
    simp only [outOk, List.all_cons, List.all_nil, Bool.and_true, hi]; simp; omega
  have he : woE p L [(j : Int)] = 0 := by
    have hne : p ≠ 2147483647 := by omega
    simp [woE, h.may, ho, hne]
  have hm := may_filter (q := p + 1) (p := fun m => !decide (m.1 = (j : Int))) h.may (by simp [okN]; omega) (fun m _ e => by simp; omega)
  have hr : hasV (L.filter (fun m => !decide (m.1 = (j : Int)))) 0 1 = true := by
    have := h.root
    simp only [hasV, decide_eq_true_eq] at this ⊢
    exact List.mem_filter.2 ⟨this, by simp; omega⟩
  refine ⟨he, by unfold woP; rw [he, if_pos rfl], by unfold woL; rw [he, if_pos rfl, filter_mem1], ⟨hm, by rw [List.length_set, h.len], fun i hi16 => ?_, hr⟩, filter_one_len L _ (mayV_iff.1 h.may).2.2.2 hi, ?_, ?_, ?_⟩
  · rw [List.getElem?_set]
    by_cases hij : j = i
    · subst hij
      rw [if_pos rfl, if_pos (by rw [h.len]; exact hj)]
      have : inV (L.filter (fun m => !decide (m.1 = (j : Int)))) (j : Int) = false := by
        cases hc : inV (L.filter (fun m => !decide (m.1 = (j : Int)))) (j : Int) with
        | false => rfl
        | true =>
          obtain ⟨m, hm, e⟩ := inV_iff.1 hc
          have := (List.mem_filter.1 hm).2
          simp [e] at this
      rw [this]; simp
    · rw [if_neg hij, ← h.mem i hi16, Bool.eq_iff_iff, inV_iff, inV_iff]
      constructor
      · rintro ⟨m, hm, e⟩; exact ⟨m, (List.mem_filter.1 hm).1, e⟩
      · rintro ⟨m, hm, e⟩; exact ⟨m, List.mem_filter.2 ⟨hm, by simp; omega⟩, e⟩
  · have : hasV (L.filter (fun m => !decide (m.1 = (j : Int)))) (j : Int) 1 = false := by
      simp only [hasV, decide_eq_false_iff_not]
      intro hm
      have := (List.mem_filter.1 hm).2
      simp at this
    simp [fenV, this]
  · simp [fenV, hr]
  · simp [fenV]; left; omega
theorem i64_mask (m : Nat) (hm : m < 63) (n : Int) : bits .and .i64 n ((2 ^ m - 1 : Nat) : Int) = n % ((2 ^ m : Nat) : Int) := by
  have hle : 2 ^ m ≤ 2 ^ 62 := Nat.pow_le_pow_right (by decide) (by omega)
  have h1 : (BitVec.ofInt 64 ((2 ^ m - 1 : Nat) : Int)).toNat = 2 ^ m - 1 := by
    rw [BitVec.ofInt_natCast, BitVec.toNat_ofNat]; exact Nat.mod_eq_of_lt (by omega)
  have key : (BitVec.ofInt 64 n &&& BitVec.ofInt 64 ((2 ^ m - 1 : Nat) : Int)).toNat = (n % ((2 ^ 64 : Nat) : Int)).toNat % 2 ^ m := by
    rw [BitVec.toNat_and, BitVec.toNat_ofInt, h1, Nat.and_two_pow_sub_one_eq_mod]
  show IntKind.i64.wrap ((BitVec.ofInt 64 n &&& BitVec.ofInt 64 ((2 ^ m - 1 : Nat) : Int)).toNat : Nat) = _
  have hp : 0 < 2 ^ m := Nat.two_pow_pos m
  have hd : (2 ^ m) ∣ 2 ^ 64 := Nat.pow_dvd_pow 2 (by omega)
  have h2 : (((n % ((2 ^ 64 : Nat) : Int)).toNat % 2 ^ m : Nat) : Int) = n % ((2 ^ m : Nat) : Int) := by
    rw [Int.natCast_emod, Int.toNat_of_nonneg (Int.emod_nonneg _ (by decide))]
    exact Int.emod_emod_of_dvd n (Int.natCast_dvd_natCast.2 hd)
  have h3 : (n % ((2 ^ 64 : Nat) : Int)).toNat % 2 ^ m < 2 ^ m := Nat.mod_lt _ hp
  rw [key, IntKind.wrap_i64, h2]
  have h4 : n % ((2 ^ m : Nat) : Int) < ((2 ^ m : Nat) : Int) := Int.emod_lt_of_pos _ (by omega)
  have h5 : 0 ≤ n % ((2 ^ m : Nat) : Int) := Int.emod_nonneg _ (by omega)
  omega

theorem i64_mask15 (n : Int) : bits .and .i64 n 15 = n % 16 := i64_mask 4 (by decide) n
end Go.Proofs.Ythjkfpcbbjmclaa
