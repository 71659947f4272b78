/- Plain facts on depths. -/
import Derived.Test.YtnkfdpnommjlcaaGreatDoorMade
namespace Go.Proofs.YtnkfdpnommjlcaaGreatDoor
open Go.RowKit Go.ChangeShapes Go.WideShapes Go.ChangeAt Go.Deep

/-- All are depths, or none. -/
def Deps (d : List Int) : Prop := ∀ v ∈ d, -1 ≤ v ∧ v ≤ 32
theorem Deps.set {d : List Int} (h : Deps d) (k : Nat) {v : Int} (hv : -1 ≤ v ∧ v ≤ 32) : Deps (d.set k v) := fun x hx => by
  rcases List.mem_or_eq_of_mem_set hx with h' | rfl
  · exact h x h'
  · exact hv
theorem leastFrom_spec (d : List Int) (g : List Bool) : ∀ (m l : Nat), l ≤ d.length → d.length ≤ m + l → leastFrom d g m l ≤ d.length ∧ l ≤ leastFrom d g m l ∧ (leastFrom d g m l < d.length → passed d g (leastFrom d g m l) = false)
  | 0, l, h1, h2 => ⟨h1, Nat.le_refl _, fun h => by
      have : leastFrom d g 0 l = l := rfl
      rw [this] at h; omega⟩
  | m + 1, l, h1, h2 => by
    rw [leastFrom]
    split
    · rename_i h
      obtain ⟨a, b, c⟩ := leastFrom_spec d g m (l + 1) (by omega) (by omega)
      exact ⟨a, by omega, c⟩
    · rename_i h
      refine ⟨h1, Nat.le_refl _, fun hl => ?_⟩
      cases hp : passed d g l with
      | false => rfl
      | true => exact absurd ⟨hl, by simpa [passed] using hp⟩ h
theorem nextGo_bound (n : Nat) (beh : Int) (hb : 0 ≤ beh ∧ beh ≤ 32) : ∀ (L : List Int) (d : List Int) (l : Nat) (d' : List Int) (l' : Nat), nextGo n beh L d l = .ok (d', l') → Deps d → Deps d' ∧ d'.length = d.length ∧ l' ≤ l
  | [], d, l, d', l', h, hd => by
    simp [nextGo] at h
    obtain ⟨rfl, rfl⟩ := h
    exact ⟨hd, rfl, Nat.le_refl _⟩
  | t :: ts, d, l, d', l', h, hd => by
    rw [nextGo] at h
    split at h
    · split at h
      · obtain ⟨a, b, c⟩ := nextGo_bound n beh hb ts _ _ d' l' h (hd.set _ (by omega))
        exact ⟨a, by simpa using b, by omega⟩
      · split at h
        · exact nextGo_bound n beh hb ts _ _ d' l' h hd
        · cases h
    · cases h
theorem overL_bound {ns : List Int} {code : List (Int × Int)} {d : List Int} {q l : Nat} {d' : List Int} {l' : Nat} (h : overL ns code d q l = .ok (d', l')) (hd : Deps d) : Deps d' ∧ d'.length = d.length ∧ l' ≤ l := by
  unfold overL at h
  cases hb : behL ns (code.getD q (0, 0)) (d.getD q 0) with
  | none => rw [hb] at h; cases h
  | some v =>
    rw [hb] at h
    exact nextGo_bound _ v (behL_bound hb) _ d l d' l' h hd
theorem count_set (g : List Bool) (k : Nat) (hk : k < g.length) (hf : g.getD k true = false) : (g.set k true).count false + 1 = g.count false := by
  induction g generalizing k with
  | nil => simp at hk
  | cons a r ih =>
    cases k with
    | zero =>
      simp [List.getD] at hf
      subst hf
      simp
    | succ k =>
      have := ih k (by simpa using hk) (by simpa [List.getD] using hf)
      simp only [List.set_cons_succ, List.count_cons]
      omega
theorem passed_no {d : List Int} {g : List Bool} {k : Nat} (hd : Deps d) (hk : k < d.length) (h : passed d g k = false) : (0 ≤ d.getD k 0 ∧ d.getD k 0 ≤ 32) ∧ g.getD k true = false := by
  simp [passed] at h
  have hm : d.getD k 0 ∈ d := by simp [List.getD, hk]
  have := hd _ hm
  have h1 : d.getD k 0 ≠ -1 := by simpa [List.getD, hk] using h.1
  refine ⟨⟨by omega, this.2⟩, ?_⟩
  simpa [List.getD] using h.2
end Go.Proofs.YtnkfdpnommjlcaaGreatDoor
