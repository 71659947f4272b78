/- Views, plain: what the laws of there and back ask. -/
import Derived.Test.YthjkfpcbbjmclaaSm2
import Derived.Test.YthjkfpcbbjmclaaWth
namespace Go.Proofs.Ythjkfpcbbjmclaa
open Go.RowKit

theorem goV_of : ∀ (l : List Mb) (last : Int), (∀ m ∈ l, okM m = true ∧ last < m.1) → l.Pairwise (fun a b => a.1 < b.1) → goV last l = true
  | [], _, _, _ => rfl
  | m :: r, last, h, hp => by
    rw [List.pairwise_cons] at hp
    have hm := h m List.mem_cons_self
    have ih := goV_of r m.1 (fun x hx => ⟨(h x (List.mem_cons_of_mem _ hx)).1, hp.1 x hx⟩) hp.2
    rw [goV_yes (by omega) hm.1]
    exact ih
theorem goV_all : ∀ (l : List Mb) (last : Int), goV last l = true → ∀ m ∈ l, okM m = true
  | [], _, _, m, hm => by simp at hm
  | x :: r, last, h, m, hm => by
    simp only [goV, Bool.and_eq_true, Bool.not_eq_true', decide_eq_false_iff_not] at h
    rcases List.mem_cons.1 hm with rfl | hm
    · exact h.2.1
    · exact goV_all r x.1 h.2.2 m hm
theorem mayV_iff {ep : Int} {l : List Mb} : mayV ep l = true ↔ okN ep = true ∧ headZ l = true ∧ (∀ m ∈ l, okM m = true) ∧ l.Pairwise (fun a b => a.1 < b.1) := by
  constructor
  · intro h
    simp only [mayV, Bool.and_eq_true] at h
    exact ⟨h.1, h.2.1, goV_all l _ h.2.2, (goV_rise l _ h.2.2).2⟩
  · rintro ⟨h1, h2, h3, h4⟩
    simp only [mayV, Bool.and_eq_true]
    refine ⟨h1, h2, goV_of l (-1) (fun m hm => ⟨h3 m hm, ?_⟩) h4⟩
    have := (okM_iff m).1 (h3 m hm)
    omega
theorem fiL_get (n i : Nat) (h : i < n) : (fiL n)[i]? = some ((i : Int), 1) := by simp [fiL, h]
theorem fiL_mem {n : Nat} {m : Mb} : m ∈ fiL n ↔ ∃ i : Nat, i < n ∧ m = ((i : Int), 1) := by
  simp only [fiL, List.mem_map, List.mem_range]
  exact ⟨fun ⟨i, h, e⟩ => ⟨i, h, e.symm⟩, fun ⟨i, h, e⟩ => ⟨i, h, e.symm⟩⟩
theorem fiL_pair (n : Nat) : (fiL n).Pairwise (fun a b => a.1 < b.1) := by
  unfold fiL
  rw [List.pairwise_map]
  exact List.pairwise_lt_range.imp (fun h => by simpa using h)
theorem fiL_may {n : Nat} {p : Int} (h1 : 1 ≤ n) (h2 : n ≤ 16) (hp : okN p = true) : mayV p (fiL n) = true := by
  refine mayV_iff.2 ⟨hp, ?_, fun m hm => ?_, fiL_pair n⟩
  · obtain ⟨k, rfl⟩ : ∃ k, n = k + 1 := ⟨n - 1, by omega⟩
    unfold fiL
    rw [List.range_succ_eq_map]
    rfl
  · obtain ⟨i, hi, rfl⟩ := fiL_mem.1 hm
    exact (okM_iff _).2 (by simp only; omega)
theorem inV_iff {l : List Mb} {n : Int} : inV l n = true ↔ ∃ m ∈ l, m.1 = n := by simp [inV]
theorem inV_fiL (n j : Nat) : inV (fiL n) (j : Int) = decide (j < n) := by
  rw [Bool.eq_iff_iff, inV_iff, decide_eq_true_iff]
  constructor
  · rintro ⟨m, hm, e⟩
    obtain ⟨i, hi, rfl⟩ := fiL_mem.1 hm
    simp at e; omega
  · intro h
    exact ⟨((j : Int), 1), fiL_mem.2 ⟨j, h, rfl⟩, rfl⟩
theorem headZ_filter {l : List Mb} {p : Mb → Bool} (h : headZ l = true) (hp : ∀ m ∈ l, m.1 = 0 → p m = true) : headZ (l.filter p) = true := by
  cases l with
  | nil => simp [headZ] at h
  | cons x r =>
    have hx : x.1 = 0 := by simpa [headZ] using h
    rw [List.filter_cons_of_pos (hp x List.mem_cons_self hx)]
    simp [headZ, hx]
theorem may_filter {ep q : Int} {l : List Mb} {p : Mb → Bool} (h : mayV ep l = true) (hq : okN q = true) (hp : ∀ m ∈ l, m.1 = 0 → p m = true) : mayV q (l.filter p) = true := by
  obtain ⟨_, h2, h3, h4⟩ := mayV_iff.1 h
  exact mayV_iff.2 ⟨hq, headZ_filter h2 hp, fun m hm => h3 m (List.mem_filter.1 hm).1, h4.filter p⟩
theorem filter_one_len : ∀ (l : List Mb) (n : Int), l.Pairwise (fun a b => a.1 < b.1) → inV l n = true → (l.filter (fun m => !decide (m.1 = n))).length + 1 = l.length
  | [], n, _, h => by simp [inV] at h
  | x :: r, n, hp, h => by
    rw [List.pairwise_cons] at hp
    by_cases hx : x.1 = n
    · have hr : r.filter (fun m => !decide (m.1 = n)) = r := List.filter_eq_self.2 fun m hm => by have := hp.1 m hm; simp; omega
      rw [List.filter_cons_of_neg (by simp [hx]), hr]
      rfl
    · rw [List.filter_cons_of_pos (by simp [hx])]
      have h' : inV r n = true := by
        obtain ⟨m, hm, e⟩ := inV_iff.1 h
        rcases List.mem_cons.1 hm with rfl | hm
        · exact absurd e hx
        · exact inV_iff.2 ⟨m, hm, e⟩
      have := filter_one_len r n hp.2 h'
      simp only [List.length_cons]; omega
theorem filter_mem1 (l : List Mb) (n : Int) : l.filter (fun m => !decide (m.1 ∈ [n])) = l.filter (fun m => !decide (m.1 = n)) := by
  congr 1
  funext m
  simp
theorem filter_mem2 (l : List Mb) (n : Int) : l.filter (fun m => !decide (m.1 ∈ [n, n])) = l.filter (fun m => !decide (m.1 = n)) := by
  congr 1
  funext m
  simp

/-! There and back. -/
def AA (n : Nat) : List Mb := fiL n
def BB (n k : Nat) : List Mb := (List.range (n - k - 1)).map fun i => (((k + 1 + i : Nat) : Int), 1)
theorem fiL_cut (n k : Nat) (h : k < n) : fiL n = fiL k ++ ((k : Int), 1) :: BB n k := by
  apply List.ext_getElem?
  intro i
  rcases Nat.lt_trichotomy i k with h1 | rfl | h1
  · rw [fiL_get n i (by omega), List.getElem?_append_left (by rw [fiL_len]; exact h1), fiL_get k i h1]
  · rw [fiL_get n i h, List.getElem?_append_right (by rw [fiL_len]; omega), fiL_len, Nat.sub_self]; rfl
  · rw [List.getElem?_append_right (by rw [fiL_len]; omega), fiL_len]
    obtain ⟨j, rfl⟩ : ∃ j, i = k + 1 + j := ⟨i - k - 1, by omega⟩
    rw [show k + 1 + j - k = j + 1 by omega, List.getElem?_cons_succ]
    by_cases hj : k + 1 + j < n
    · rw [fiL_get n _ hj]
      simp [BB, show j < n - k - 1 by omega]
    · rw [List.getElem?_eq_none (by rw [fiL_len]; omega), List.getElem?_eq_none (by simp [BB]; omega)]
theorem BB_mem {n k : Nat} {m : Mb} (h : m ∈ BB n k) : (k : Int) < m.1 ∧ m.1 < n ∧ m.2 = 1 := by
  simp only [BB, List.mem_map, List.mem_range] at h
  obtain ⟨i, hi, rfl⟩ := h
  exact ⟨by show (k : Int) < ((k + 1 + i : Nat) : Int); omega, by show ((k + 1 + i : Nat) : Int) < (n : Int); omega, rfl⟩
theorem AA_mem {k : Nat} {m : Mb} (h : m ∈ fiL k) : 0 ≤ m.1 ∧ m.1 < (k : Int) ∧ m.2 = 1 := by
  obtain ⟨i, hi, rfl⟩ := fiL_mem.1 h
  exact ⟨by show (0 : Int) ≤ (i : Int); omega, by show (i : Int) < (k : Int); omega, rfl⟩
theorem filter_cut (n k : Nat) (h : k < n) : (fiL n).filter (fun m => !decide (m.1 = (k : Int))) = fiL k ++ BB n k := by
  rw [fiL_cut n k h, List.filter_append, List.filter_cons_of_neg (by simp)]
  congr 1
  · exact List.filter_eq_self.2 fun m hm => by have := AA_mem hm; simp; omega
  · exact List.filter_eq_self.2 fun m hm => by have := BB_mem hm; simp; omega
theorem ins_cut (n k : Nat) (lf : Int) : insV (fiL k ++ BB n k) ((k : Int), lf) = fiL k ++ ((k : Int), lf) :: BB n k := by
  have h := insV_at (fiL k ++ BB n k) ((k : Int), lf) k (by simp [fiL_len]) (fun j hj hjk => by
      rw [List.getElem_append_left (by rw [fiL_len]; exact hjk)]
      exact (AA_mem (List.getElem_mem _)).2.1) (fun j hj hjk => by
      rw [List.getElem_append_right (by rw [fiL_len]; exact hjk)]
      exact (BB_mem (List.getElem_mem _)).1)
  rw [h, List.take_left' (fiL_len k), List.drop_left' (fiL_len k)]
theorem back_len (n k : Nat) (lf : Int) (h : k < n) : (fiL k ++ ((k : Int), lf) :: BB n k).length = n := by
  simp [fiL_len, BB]; omega
theorem cut_len (n k : Nat) (h : k < n) : (fiL k ++ BB n k).length = n - 1 := by
  simp [fiL_len, BB]; omega
theorem back_at (n k : Nat) (lf : Int) : (fiL k ++ ((k : Int), lf) :: BB n k)[k]? = some ((k : Int), lf) := by
  rw [List.getElem?_append_right (by rw [fiL_len]; exact Nat.le_refl _), fiL_len, Nat.sub_self]; rfl
theorem back_may (n k : Nat) (lf p : Int) (h1 : 1 ≤ k) (h : k < n) (hn : n ≤ 16) (hl : 1 ≤ lf ∧ lf ≤ 2147483647) (hp : okN p = true) : mayV p (fiL k ++ ((k : Int), lf) :: BB n k) = true := by
  have hf := mayV_iff.1 (fiL_may (n := n) (p := p) (by omega) hn hp)
  rw [fiL_cut n k h] at hf
  obtain ⟨_, h2, h3, h4⟩ := hf
  refine mayV_iff.2 ⟨hp, ?_, fun m hm => ?_, ?_⟩
  · obtain ⟨j, rfl⟩ : ∃ j, k = j + 1 := ⟨k - 1, by omega⟩
    have : fiL (j + 1) = (0, 1) :: BB (j + 1) 0 := by rw [fiL_cut (j + 1) 0 (by omega)]; rfl
    rw [this]; rfl
  · rw [List.mem_append, List.mem_cons] at hm
    rcases hm with hm | rfl | hm
    · exact h3 m (List.mem_append_left _ hm)
    · exact (okM_iff _).2 (by simp only; omega)
    · exact h3 m (List.mem_append_right _ (List.mem_cons_of_mem _ hm))
  · rw [List.pairwise_append, List.pairwise_cons] at h4 ⊢
    refine ⟨h4.1, ⟨fun b hb => h4.2.1.1 b hb, h4.2.1.2⟩, fun a ha b hb => ?_⟩
    rcases List.mem_cons.1 hb with rfl | hb
    · exact (AA_mem ha).2.1
    · exact h4.2.2 a ha b (List.mem_cons_of_mem _ hb)
theorem cut_may (n k : Nat) (p : Int) (h1 : 1 ≤ k) (h : k < n) (hn : n ≤ 16) (hp : okN p = true) : mayV p (fiL k ++ BB n k) = true := by
  rw [← filter_cut n k h]
  exact may_filter (fiL_may (n := n) (p := p) (by omega) hn hp) hp (fun m _ e => by simp; omega)
theorem cut_in (n k : Nat) : inV (fiL k ++ BB n k) (k : Int) = false := by
  cases h : inV (fiL k ++ BB n k) (k : Int) with
  | false => rfl
  | true =>
    obtain ⟨m, hm, e⟩ := inV_iff.1 h
    rcases List.mem_append.1 hm with hm | hm
    · have := AA_mem hm; omega
    · have := BB_mem hm; omega
theorem back_in (n k : Nat) (lf : Int) : inV (fiL k ++ ((k : Int), lf) :: BB n k) (k : Int) = true := inV_iff.2 ⟨((k : Int), lf), by simp, rfl⟩
theorem back_has (n k : Nat) (lf : Int) : hasV (fiL k ++ ((k : Int), lf) :: BB n k) (k : Int) lf = true := by simp [hasV]
theorem back_not (n k : Nat) (lf : Int) (hl : 2 ≤ lf) : hasV (fiL k ++ ((k : Int), lf) :: BB n k) (k : Int) 1 = false := by
  unfold hasV
  rw [decide_eq_false_iff_not]
  intro hm
  rw [List.mem_append, List.mem_cons] at hm
  rcases hm with hm | e | hm
  · have := AA_mem hm; simp only at this; omega
  · have := (Prod.mk.inj e).2; omega
  · have := BB_mem hm; simp only at this; omega
end Go.Proofs.Ythjkfpcbbjmclaa
