/- Two ways to rising names are one: pure. -/
import Derived.Test.YtandbkbodlbjcaaPut
import Derived.Sort.Walk0
namespace Go.Proofs.Ytandbkbodlbjcaa
open Go.RowKit Go.ChangeShapes Go.WideShapes Go.ChangeAt Go.Deep Go.Sort

theorem less_lt (a b : ByteArray) : lessB a b = decide (a.data.toList < b.data.toList) := by
  unfold lessB
  rw [ByteArray.toList_eq, ByteArray.toList_eq]
  exact bytesLess_eq _ _
/-- Less, for names. -/
def ltB (a b : ByteArray) : Prop := a.data.toList < b.data.toList
theorem less_iff {a b : ByteArray} : lessB a b = true ↔ ltB a b := by rw [less_lt]; simp [ltB]
theorem less_not {a b : ByteArray} : lessB a b = false ↔ ¬ ltB a b := by rw [less_lt]; simp [ltB]
theorem ltB_irrefl (a : ByteArray) : ¬ ltB a a := List.lt_irrefl _
theorem ltB_trans {a b c : ByteArray} (h : ltB a b) (k : ltB b c) : ltB a c := List.lt_trans h k
theorem ltB_total {a b : ByteArray} (h : ¬ ltB a b) (k : a ≠ b) : ltB b a := by
  unfold ltB at *
  rw [List.not_lt] at h
  apply Decidable.byContradiction
  intro hn
  rw [List.not_lt] at hn
  exact k (bytes_inj (List.le_antisymm hn h))
theorem rise_unique : ∀ (l m : List ByteArray), l.Pairwise ltB → m.Pairwise ltB → (∀ x, x ∈ l ↔ x ∈ m) → l = m
  | [], [], _, _, _ => rfl
  | [], b :: m, _, _, h => by have := (h b).2 (by simp); simp at this
  | a :: l, [], _, _, h => by have := (h a).1 (by simp); simp at this
  | a :: l, b :: m, h1, h2, h => by
    rw [List.pairwise_cons] at h1 h2
    have hab : a = b := by
      apply Decidable.byContradiction
      intro hne
      have ha : a ∈ m := by have := (h a).1 (by simp); simpa [hne] using this
      have hb : b ∈ l := by have := (h b).2 (by simp); rw [List.mem_cons] at this; exact this.resolve_left (fun e => hne e.symm)
      exact ltB_irrefl a (ltB_trans (h1.1 b hb) (h2.1 a ha))
    subst hab
    rw [rise_unique l m h1.2 h2.2 (fun x => by
      have := h x
      simp only [List.mem_cons] at this
      constructor
      · intro hx
        rcases this.1 (.inr hx) with e | e
        · subst e; exact absurd (h1.1 x hx) (ltB_irrefl x)
        · exact e
      · intro hx
        rcases this.2 (.inr hx) with e | e
        · subst e; exact absurd (h2.1 x hx) (ltB_irrefl x)
        · exact e)]
/-- A name put into a rising list, by recursion. -/
def putR (x : ByteArray) : List ByteArray → List ByteArray
  | [] => [x]
  | a :: r => if lessB a x then a :: putR x r else if a = x then a :: r else x :: a :: r
theorem put_is (x : ByteArray) : ∀ L : List ByteArray, putB L x = putR x L
  | [] => by simp [putB, leadN, putR]
  | a :: r => by
    have ih := put_is x r
    unfold putB leadN putR
    cases h : lessB a x with
    | true =>
      rw [if_pos rfl, if_pos rfl, ← ih]
      unfold putB
      simp only [List.getElem?_cons_succ, List.take_succ_cons, List.drop_succ_cons]
      split <;> simp
    | false =>
      simp only [Bool.false_eq_true, if_false, List.getElem?_cons_zero, Option.some.injEq, List.take_zero, List.drop_zero]
      split <;> simp
theorem mem_put (x : ByteArray) : ∀ (L : List ByteArray) (y : ByteArray), y ∈ putR x L ↔ y = x ∨ y ∈ L
  | [], y => by simp [putR]
  | a :: r, y => by
    unfold putR
    split
    · rw [List.mem_cons, mem_put x r y, List.mem_cons]
      constructor
      · rintro (h | h | h) <;> simp [h]
      · rintro (h | h | h) <;> simp [h]
    · split
      · rename_i h
        subst h
        constructor
        · exact fun h => .inr h
        · rintro (h | h)
          · simp [h]
          · exact h
      · simp
theorem rise_put (x : ByteArray) : ∀ L : List ByteArray, L.Pairwise ltB → (putR x L).Pairwise ltB
  | [], _ => by simp [putR]
  | a :: r, h => by
    unfold putR
    rw [List.pairwise_cons] at h
    split
    · rename_i hl
      rw [List.pairwise_cons]
      refine ⟨fun y hy => ?_, rise_put x r h.2⟩
      rcases (mem_put x r y).1 hy with rfl | hy
      · exact less_iff.1 hl
      · exact h.1 y hy
    · rename_i hl
      split
      · exact List.pairwise_cons.2 h
      · rename_i hne
        have hxa : ltB x a := ltB_total (less_not.1 (by simpa using hl)) hne
        rw [List.pairwise_cons]
        refine ⟨fun y hy => ?_, List.pairwise_cons.2 h⟩
        rcases List.mem_cons.1 hy with rfl | hy
        · exact hxa
        · exact ltB_trans hxa (h.1 y hy)
/-- The document's own rising names. -/
def sortR (L : List ByteArray) : List ByteArray := L.foldl putB []
theorem fold_rise (L : List ByteArray) : ∀ acc : List ByteArray, acc.Pairwise ltB → (L.foldl putB acc).Pairwise ltB ∧ ∀ x, x ∈ L.foldl putB acc ↔ x ∈ acc ∨ x ∈ L := by
  induction L with
  | nil => intro acc h; exact ⟨h, fun x => by simp⟩
  | cons a r ih =>
    intro acc h
    obtain ⟨h1, h2⟩ := ih (putB acc a) (by rw [put_is]; exact rise_put a acc h)
    refine ⟨h1, fun x => ?_⟩
    show x ∈ r.foldl putB (putB acc a) ↔ _
    rw [h2 x, put_is, mem_put, List.mem_cons]
    constructor
    · rintro ((h | h) | h) <;> simp [h]
    · rintro (h | h | h) <;> simp [h]
theorem le_pairs {ms : List (List UInt8)} (h : ms.Pairwise (· ≤ ·)) {i j : Nat} (hj : j < ms.length) (hij : i ≤ j) : ms[i]'(by omega) ≤ ms[j] := by
  rcases Nat.lt_or_ge i j with q | q
  · exact (List.pairwise_iff_getElem.1 h) i j (by omega) hj q
  · have : i = j := by omega
    subst this
    exact List.le_refl _
theorem compact_rise {ms : List (List UInt8)} (h : ms.Pairwise (· ≤ ·)) : (Lib.compact ms).Pairwise (· < ·) ∧ ∀ x, x ∈ ms → x ∈ Lib.compact ms := by
  unfold Lib.compact Lib.compactUpTo
  constructor
  · rw [List.pairwise_map, List.pairwise_filter]
    refine (List.pairwise_lt_range).imp_of_mem ?_
    intro i j hi hj hij ki kj
    rw [List.mem_range] at hi hj
    simp only [Lib.keeps, decide_eq_true_eq] at kj
    have kj' := kj.resolve_left (by omega)
    rw [getElem!_pos _ _ (by simpa using hj), getElem!_pos _ _ (by simp; omega)] at kj'
    rw [getElem!_pos _ _ (by simpa using hi), getElem!_pos _ _ (by simpa using hj)]
    simp only [List.getElem_toArray] at kj' ⊢
    have h1 := le_pairs h (i := i) (j := j - 1) (by omega) (by omega)
    have h2 := le_pairs h (i := j - 1) (j := j) hj (by omega)
    apply Decidable.byContradiction
    intro hn
    rw [List.not_lt] at hn
    exact kj' (List.le_antisymm (List.le_trans hn h1) h2)
  · intro x hx
    obtain ⟨i, hi, e, hmin⟩ : ∃ i, ∃ hi : i < ms.length, ms[i] = x ∧ ∀ j (hj : j < i), ms[j] ≠ x := by
      have hlt : ms.findIdx (· == x) < ms.length := List.findIdx_lt_length_of_exists ⟨x, hx, by simp⟩
      refine ⟨ms.findIdx (· == x), hlt, ?_, fun j hj => ?_⟩
      · have := List.findIdx_getElem (w := hlt)
        simpa using this
      · have := List.not_of_lt_findIdx hj
        simpa using this
    rw [List.mem_map]
    refine ⟨i, List.mem_filter.2 ⟨List.mem_range.2 hi, ?_⟩, ?_⟩
    · simp only [Lib.keeps, decide_eq_true_eq]
      rcases Nat.eq_zero_or_pos i with h0 | h0
      · exact .inl h0
      · refine .inr ?_
        rw [getElem!_pos _ _ (by simpa using hi), getElem!_pos _ _ (by simp; omega)]
        simp only [List.getElem_toArray]
        rw [e]
        exact fun q => hmin (i - 1) (by omega) q.symm
    · rw [getElem!_pos _ _ (by simpa using hi)]
      simpa using e
theorem sortU_rise (ss : List (List UInt8)) : (sortU ss).Pairwise (· < ·) ∧ ∀ x, x ∈ sortU ss ↔ x ∈ ss := by
  have hs : (ss.mergeSort fun x y => decide (x ≤ y)).Pairwise (· ≤ ·) := by
    have := List.pairwise_mergeSort (le := fun x y : List UInt8 => decide (x ≤ y)) (fun a b c h1 h2 => by
      simp only [decide_eq_true_eq] at *
      exact List.le_trans h1 h2) (fun a b => by
      simp only [Bool.or_eq_true, decide_eq_true_eq]
      exact List.le_total a b) ss
    refine this.imp fun {a b} h => by simpa using h
  obtain ⟨h1, h2⟩ := compact_rise hs
  refine ⟨h1, fun x => ⟨fun h => mem_sortU h, fun h => h2 x (by simpa using h)⟩⟩
theorem sorts_eq (L : List ByteArray) : sortR L = (sortU (ssOf L)).map bs := by
  obtain ⟨h1, h2⟩ := fold_rise L [] (by simp)
  obtain ⟨h3, h4⟩ := sortU_rise (ssOf L)
  refine rise_unique _ _ h1 ?_ ?_
  · rw [List.pairwise_map]
    refine h3.imp fun {a b} h => ?_
    unfold ltB
    rw [bs_list, bs_list]
    exact h
  · intro x
    show x ∈ L.foldl putB [] ↔ _
    rw [h2 x, List.mem_map]
    constructor
    · rintro (h | h)
      · simp at h
      · exact ⟨x.data.toList, (h4 _).2 (List.mem_map.2 ⟨x, h, rfl⟩), bs_self x⟩
    · rintro ⟨y, hy, rfl⟩
      obtain ⟨s, hs, rfl⟩ := List.mem_map.1 ((h4 y).1 hy)
      rw [bs_self]
      exact .inr hs
end Go.Proofs.Ytandbkbodlbjcaa
