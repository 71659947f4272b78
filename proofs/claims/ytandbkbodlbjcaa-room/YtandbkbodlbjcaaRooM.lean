/- TableRoom: what stands, plain. -/
import Derived.Test.YtandbkbodlbjcaaPkd
import Derived.Test.YtandbkbodlbjcaaEndM
namespace Go.Proofs.Ytandbkbodlbjcaa
open Go.RowKit Go.ChangeShapes Go.WideShapes Go.ChangeAt Go.Deep Go.Maps Go.Sort

theorem nodup_le {l m : List ByteArray} (hl : l.Nodup) (hm : m.Nodup) (h : ∀ x ∈ l, x ∈ m) : l.length ≤ m.length := by
  induction l generalizing m with
  | nil => simp
  | cons a r ih =>
    obtain ⟨h1, h2⟩ := List.nodup_cons.1 hl
    have ha := h a (by simp)
    have hd := del_len hm a
    rw [inB_iff.2 ha] at hd
    have := ih h2 (del_nodup hm a) (fun x hx => mem_del.2 ⟨h x (by simp [hx]), fun e => h1 (e ▸ hx)⟩)
    simp at hd ⊢
    omega
theorem rise_nodup {l : List ByteArray} (h : l.Pairwise ltB) : l.Nodup := h.imp (fun {a b} hab (e : a = b) => by subst e; exact ltB_irrefl a hab)
theorem rise_len {R l : List ByteArray} (hR : R.Pairwise ltB) (hl : l.Nodup) (h : ∀ x, x ∈ R ↔ x ∈ l) : R.length = l.length :=
  Nat.le_antisymm (nodup_le (rise_nodup hR) hl (fun x hx => (h x).1 hx)) (nodup_le hl (rise_nodup hR) (fun x hx => (h x).2 hx))

namespace tableRoom
/-- The table's tasks, and how many there are. -/
structure RI (T : Tb) (m : Int) (k n : Nat) : Prop where
  mx : T.mx = m
  ids : ∀ x ∈ T.al, ∃ j, j < k ∧ x = idB (j % 16) (j / 16)
  g : T.goi = []
  mem : ∀ x, x ∈ T.al ↔ x ∈ T.rdy ∨ x ∈ T.prk.map Prod.fst
  nd : (T.rdy ++ T.prk.map Prod.fst).Nodup
  na : T.al.Nodup
  la : T.al.length = n
  ln : T.rdy.length + T.prk.length = n
  le : n ≤ k
  wt : T.wt ≤ k

theorem RI.new (m : Int) : RI (Tb.new m) m 0 0 := ⟨rfl, fun x hx => (by cases hx), rfl, fun x => by simp [Tb.new], List.nodup_nil, List.nodup_nil, rfl, rfl, Nat.le_refl _, Nat.le_refl _⟩
theorem RI.more {T : Tb} {m : Int} {k n : Nat} (h : RI T m k n) : RI T m (k + 1) n := ⟨h.mx, fun x hx => by obtain ⟨j, h1, h2⟩ := h.ids x hx; exact ⟨j, by omega, h2⟩, h.g, h.mem, h.nd, h.na, h.la, h.ln, by have := h.le; omega, by have := h.wt; omega⟩
theorem RI.fresh {T : Tb} {m : Int} {k n : Nat} (h : RI T m k n) (hk : k < 60) : idB (k % 16) (k / 16) ∉ T.al := fun hx => by
  obtain ⟨j, h1, h2⟩ := h.ids _ hx
  obtain ⟨e1, e2⟩ := idB_inj (by omega) (by omega) (by omega) (by omega) h2
  omega
theorem RI.add {T : Tb} {m : Int} {k n : Nat} (h : RI T m k n) (hk : k < 60) (hn : (n : Int) < m) : addT T (idB (k % 16) (k / 16)) = (0, { T with al := idB (k % 16) (k / 16) :: T.al, rdy := T.rdy ++ [idB (k % 16) (k / 16)] }) := by
  unfold addT
  have h1 := h.la
  have h2 := h.mx
  rw [if_neg, if_neg]
  · rw [h2]; omega
  · rw [idB_valid (by omega) (by omega), inB_no.2 (h.fresh hk)]; simp
theorem RI.full {T : Tb} {m : Int} {k n : Nat} (h : RI T m k n) (hk : k < 60) (hm : 1 ≤ m) (hn : ¬ (n : Int) < m) : addT T (idB (k % 16) (k / 16)) = (31, T) := by
  unfold addT
  have h1 := h.la
  have h2 := h.mx
  rw [if_neg, if_pos]
  · rw [h2]; omega
  · rw [idB_valid (by omega) (by omega), inB_no.2 (h.fresh hk)]; simp
theorem RI.added {T : Tb} {m : Int} {k n : Nat} (h : RI T m k n) (hk : k < 60) : RI { T with al := idB (k % 16) (k / 16) :: T.al, rdy := T.rdy ++ [idB (k % 16) (k / 16)] } m (k + 1) (n + 1) := by
  have hf := h.fresh hk
  generalize hid : idB (k % 16) (k / 16) = id at *
  refine ⟨h.mx, fun x hx => ?_, h.g, fun x => ?_, ?_, List.nodup_cons.2 ⟨hf, h.na⟩, by have := h.la; simp; omega, by have := h.ln; simp; omega, by have := h.le; omega, by have := h.wt; show T.wt ≤ k + 1; omega⟩
  · rcases List.mem_cons.1 hx with rfl | hx
    · exact ⟨k, by omega, hid.symm⟩
    · obtain ⟨j, h1, h2⟩ := h.ids x hx; exact ⟨j, by omega, h2⟩
  · have := h.mem x
    simp only [List.mem_cons, List.mem_append, this]
    constructor
    · rintro (rfl | h1 | h1)
      · exact .inl (.inr (.inl rfl))
      · exact .inl (.inl h1)
      · exact .inr h1
    · rintro ((h1 | h1 | h1) | h1)
      · exact .inr (.inl h1)
      · exact .inl h1
      · cases h1
      · exact .inr (.inr h1)
  · obtain ⟨n1, n2, n3⟩ := List.nodup_append.1 h.nd
    refine List.nodup_append.2 ⟨List.nodup_append.2 ⟨n1, by simp, fun x hx y hy => ?_⟩, n2, fun x hx y hy => ?_⟩
    · simp at hy; subst hy; intro e; subst e; exact hf ((h.mem _).2 (.inl hx))
    · rcases List.mem_append.1 hx with hx | hx
      · exact n3 x hx y hy
      · simp at hx; subst hx; intro e; subst e; exact hf ((h.mem _).2 (.inr hy))
theorem RI.parked {T : Tb} {m : Int} {k n : Nat} (h : RI T m k n) {L : List ByteArray} {x : ByteArray} (hr : T.rdy = L ++ [x]) (hw : T.wt + 1 ≤ k) : RI { T with rdy := L, goi := [], prk := T.prk ++ [(x, ⟨#[]⟩)], wt := T.wt + 1 } m k n := by
  have hd := h.nd
  rw [hr] at hd
  have hl := h.ln
  rw [hr] at hl
  simp at hl
  refine ⟨h.mx, h.ids, rfl, fun y => ?_, ?_, h.na, h.la, by simp; omega, h.le, hw⟩
  · have := h.mem y
    rw [hr] at this
    simp only [List.mem_append, List.mem_singleton, List.map_append, List.map_cons, List.map_nil] at this ⊢
    rw [this]
    constructor
    · rintro ((h1 | h1) | h1)
      · exact .inl h1
      · exact .inr (.inr h1)
      · exact .inr (.inl h1)
    · rintro (h1 | h1 | h1)
      · exact .inl (.inl h1)
      · exact .inr h1
      · exact .inl (.inr h1)
  · simp only [List.map_append, List.map_cons, List.map_nil]
    have e : (L ++ [x] ++ T.prk.map Prod.fst).Perm (L ++ (T.prk.map Prod.fst ++ [x])) := by
      rw [List.append_assoc]
      exact List.Perm.append_left _ List.perm_append_comm
    exact e.nodup_iff.1 hd
theorem RI.gone {T : Tb} {m : Int} {k n : Nat} (h : RI T m k n) {L : List ByteArray} {x : ByteArray} (hr : T.rdy.Perm (x :: L)) : RI { T with rdy := L, goi := [], al := del T.al x } m k (n - 1) ∧ 1 ≤ n ∧ x ∈ T.al := by
  have hx : x ∈ T.al := (h.mem x).2 (.inl (hr.mem_iff.2 (by simp)))
  have hdl := del_len h.na x
  rw [inB_iff.2 hx] at hdl
  simp at hdl
  have hla := h.la
  have hll := hr.length_eq
  simp at hll
  have hln := h.ln
  have hd : (x :: L ++ T.prk.map Prod.fst).Nodup := ((hr.append_right _).nodup_iff).1 h.nd
  simp only [List.cons_append, List.nodup_cons, List.mem_append, not_or] at hd
  refine ⟨⟨h.mx, fun y hy => h.ids y (mem_del.1 hy).1, rfl, fun y => ?_, hd.2, del_nodup h.na x, ?_, ?_, by have := h.le; omega, h.wt⟩, by omega, hx⟩
  · rw [mem_del, h.mem y, hr.mem_iff]
    constructor
    · rintro ⟨h1 | h1, h2⟩
      · rcases List.mem_cons.1 h1 with h1 | h1
        · exact absurd h1 h2
        · exact .inl h1
      · exact .inr h1
    · rintro (h1 | h1)
      · exact ⟨.inl (List.mem_cons_of_mem _ h1), fun e => hd.1.1 (e ▸ h1)⟩
      · exact ⟨.inr h1, fun e => hd.1.2 (e ▸ h1)⟩
  · show (del T.al x).length = n - 1
    omega
  · show L.length + T.prk.length = n - 1
    omega

theorem RI.stolen {T : Tb} {m : Int} {k n : Nat} (h : RI T m k n) {L : List ByteArray} {x : ByteArray} (hr : T.rdy.Perm (x :: L)) : RI { T with rdy := L, al := del T.al x } m k (n - 1) := by
  have g := (h.gone hr).1
  exact ⟨g.mx, g.ids, h.g, g.mem, g.nd, g.na, g.la, g.ln, g.le, g.wt⟩

theorem parked_n {κ : Cl} {w : World} {cb : Nat} {T : Tb} (h : TabM κ w cb T) (hp : T.prk.length ≤ 1000) (hd : (T.prk.map Prod.fst).Nodup) : Calls Try.prog 28 #[.pointer (some ⟨cb, 2, none⟩)] w fun e w' => ∃ a c, e = .returned (.slice a T.prk.length c) ∧ Below w.heap.size w w' := by
  refine (parked_any h hp).mono ?_
  rintro e w' ⟨v, R, rfl, h1, h2, h3, h4, h5⟩
  have hR : R.length = (T.prk.map Prod.fst).length := rise_len h2 hd (fun x => by rw [h3 x, List.mem_map])
  rw [List.length_map] at hR
  obtain ⟨a, c, rfl, _, _⟩ := own_formS h1
  rw [hR]
  exact ⟨a, c, rfl, h5⟩
theorem going_n {κ : Cl} {w : World} {cb : Nat} {T : Tb} (h : TabM κ w cb T) (hg : T.goi = []) : Calls Try.prog 29 #[.pointer (some ⟨cb, 1, none⟩)] w fun e w' => ∃ a c, e = .returned (.slice a 0 c) ∧ Below w.heap.size w w' := by
  refine (tab_going h (by rw [hg]; simp)).mono ?_
  rintro e w' ⟨v, R, rfl, h1, h2, h3, h4, h5⟩
  have hR : R = [] := List.eq_nil_iff_forall_not_mem.2 (fun x hx => by
    have := (h3 x).1 hx
    rw [hg] at this
    cases this)
  subst hR
  obtain ⟨a, c, rfl, _, _⟩ := own_formS h1
  exact ⟨a, c, rfl, h5⟩
theorem ready_n {κ : Cl} {w : World} {cb : Nat} {T : Tb} (h : TabM κ w cb T) (hl : T.rdy.length ≤ 100000) : Calls Try.prog 27 #[.pointer (some ⟨cb, 0, none⟩)] w fun e w' => ∃ a c, e = .returned (.slice a T.rdy.length c) ∧ Below w.heap.size w w' := by
  refine (tab_ready h hl).mono ?_
  rintro e w' ⟨v, rfl, h1, h5⟩
  obtain ⟨a, c, rfl, _, _⟩ := own_formS h1
  exact ⟨a, c, rfl, h5⟩
end tableRoom
end Go.Proofs.Ytandbkbodlbjcaa
