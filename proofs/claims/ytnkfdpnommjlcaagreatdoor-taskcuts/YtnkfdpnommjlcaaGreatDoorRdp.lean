/- The document's depths, plain; that they are the depths. -/
import Derived.Test.YtnkfdpnommjlcaaGreatDoorDepP
namespace Go.Proofs.YtnkfdpnommjlcaaGreatDoor
open Go.RowKit Go.ChangeShapes Go.WideShapes Go.ChangeAt Go.Deep

/-- The depth behind is handed on. -/
def rNext (n : Nat) (beh : Int) : List Int → List Int → Except Int (List Int)
  | [], d => .ok d
  | t :: ts, d => if (n : Int) ≤ t then .error 11 else if 0 ≤ d.getD t.toNat 0 ∧ d.getD t.toNat 0 ≠ beh then .error 12 else rNext n beh ts (d.set t.toNat beh)
def rBeh (ns : List Int) (i : Int × Int) (dep : Int) : Int := wrap64 (wrap64 (dep - popsOf i.1 i.2 ns) + (kindOf i.1).pushes)
def rOver (ns : List Int) (code : List (Int × Int)) (d : List Int) (p : Nat) : Except Int (List Int) :=
  if d.getD p 0 < popsOf (code.getD p (0, 0)).1 (code.getD p (0, 0)).2 ns ∨ 32 < rBeh ns (code.getD p (0, 0)) (d.getD p 0) then .error 12
  else rNext code.length (rBeh ns (code.getD p (0, 0)) (d.getD p 0)) (nextL (code.getD p (0, 0)).1 (code.getD p (0, 0)).2 ((p + 1 : Nat) : Int)) d
/-- The first one that has a depth and was not gone over. -/
def rFrom (d : List Int) (g : List Bool) : Nat → Nat → Nat
  | 0, a => a
  | k + 1, a => if a < d.length ∧ (d.getD a 0 < 0 ∨ g.getD a true = true) then rFrom d g k (a + 1) else a
def rWalk (ns : List Int) (code : List (Int × Int)) : Nat → List Int → List Bool → Except (Int × Int) (List Int)
  | 0, d, _ => .ok d
  | k + 1, d, g =>
    if rFrom d g d.length 0 < d.length then
      match rOver ns code d (rFrom d g d.length 0) with
      | .error e => .error ((rFrom d g d.length 0 : Nat), e)
      | .ok d' => rWalk ns code k d' (g.set (rFrom d g d.length 0) true)
    else .ok d
def rDepths (ns : List Int) (code : List (Int × Int)) : Except (Int × Int) (List Int) :=
  rWalk ns code (code.length + 1) ((List.replicate code.length (-1 : Int)).set 0 0) (List.replicate code.length false)

theorem rNext_len (n : Nat) (beh : Int) : ∀ (L d d' : List Int), rNext n beh L d = .ok d' → d'.length = d.length
  | [], d, d', h => by cases h; rfl
  | t :: ts, d, d', h => by
    rw [rNext] at h
    split at h
    · cases h
    · split at h
      · cases h
      · have := rNext_len n beh ts _ _ h
        simpa using this
theorem rFrom_spec (d : List Int) (g : List Bool) : ∀ (k a : Nat), a ≤ d.length → d.length ≤ k + a → rFrom d g k a ≤ d.length ∧ a ≤ rFrom d g k a ∧ (rFrom d g k a < d.length → 0 ≤ d.getD (rFrom d g k a) 0 ∧ g.getD (rFrom d g k a) true = false)
  | 0, a, h1, h2 => ⟨h1, Nat.le_refl _, fun h => by
      have : rFrom d g 0 a = a := rfl
      rw [this] at h; omega⟩
  | k + 1, a, h1, h2 => by
    rw [rFrom]
    split
    · rename_i h
      obtain ⟨x, y, z⟩ := rFrom_spec d g k (a + 1) (by omega) (by omega)
      exact ⟨x, by omega, z⟩
    · rename_i h
      refine ⟨h1, Nat.le_refl _, fun hl => ?_⟩
      have h' : ¬ (d.getD a 0 < 0 ∨ g.getD a true = true) := fun e => h ⟨hl, e⟩
      refine ⟨by omega, ?_⟩
      cases hg : g.getD a true with
      | false => rfl
      | true => exact absurd (.inr hg) h'

/-- Nothing goes round. -/
def Small (ns : List Int) : Prop := ∀ a ∈ ns, 0 ≤ a ∧ a ≤ 8
theorem popsOf_small {ns : List Int} (h : Small ns) (op n : Int) : 0 ≤ popsOf op n ns ∧ popsOf op n ns ≤ 8 := by
  unfold popsOf
  split
  · unfold argsOf
    split
    · rename_i h1
      have h2 : n.toNat < ns.length := by omega
      have : ns.getD n.toNat 0 ∈ ns := by simp [List.getD, h2]
      exact h _ this
    · omega
  · rw [pops_spec]
    split
    · omega
    · split <;> omega
theorem pushes_small (op : Int) : 0 ≤ (kindOf op).pushes ∧ (kindOf op).pushes ≤ 2 := by
  rw [pushes_spec]
  split
  · omega
  · split <;> omega
theorem rBeh_small {ns : List Int} (h : Small ns) (i : Int × Int) {dep : Int} (hd : 0 ≤ dep ∧ dep ≤ 32) : rBeh ns i dep = dep - popsOf i.1 i.2 ns + (kindOf i.1).pushes := by
  have h1 := popsOf_small h i.1 i.2
  have h2 := pushes_small i.1
  unfold rBeh wrap64
  omega
theorem from_same {d : List Int} (g : List Bool) (hd : Deps d) : ∀ (k a : Nat), rFrom d g k a = leastFrom d g k a
  | 0, _ => rfl
  | k + 1, a => by
    unfold rFrom leastFrom
    have e : (a < d.length ∧ (d.getD a 0 < 0 ∨ g.getD a true = true)) ↔ (a < d.length ∧ (d.getD a 0 = -1 ∨ g.getD a true = true)) := by
      refine and_congr_right fun ha => or_congr_left ?_
      have hm : d.getD a 0 ∈ d := by simp [List.getD, ha]
      have := hd _ hm
      omega
    simp only [e, from_same g hd k (a + 1)]
theorem from_low {d : List Int} {g : List Bool} : ∀ (low k : Nat), low ≤ d.length → (∀ j, j < low → passed d g j = true) → leastFrom d g (low + k) 0 = leastFrom d g k low
  | 0, k, _, _ => by rw [Nat.zero_add]
  | low + 1, k, hl, h => by
    have := from_low low (k + 1) (by omega) (fun j hj => h j (by omega))
    rw [show low + 1 + k = low + (k + 1) by omega, this]
    exact leastFrom_more (by omega) (h low (by omega))
theorem from_fuel {d : List Int} {g : List Bool} : ∀ (k k' a : Nat), d.length ≤ k + a → d.length ≤ k' + a → leastFrom d g k a = leastFrom d g k' a
  | 0, 0, a, _, _ => rfl
  | 0, k' + 1, a, h1, h2 => by
    rw [leastFrom_stop (m := k' + 1) (.inl (by omega))]; rfl
  | k + 1, 0, a, h1, h2 => by
    rw [leastFrom_stop (m := k + 1) (.inl (by omega))]; rfl
  | k + 1, k' + 1, a, h1, h2 => by
    unfold leastFrom
    split
    · exact from_fuel k k' (a + 1) (by omega) (by omega)
    · rfl
theorem from_eq {d : List Int} {g : List Bool} {low : Nat} (hd : Deps d) (hl : low ≤ d.length) (h : ∀ j, j < low → passed d g j = true) : rFrom d g d.length 0 = leastFrom d g d.length low := by
  rw [from_same g hd]
  have h1 := from_low (d := d) (g := g) low (d.length - low) hl h
  rw [show low + (d.length - low) = d.length by omega] at h1
  rw [h1]
  exact from_fuel _ _ _ (by omega) (by omega)
theorem next_same (n : Nat) (beh : Int) (hb : 0 ≤ beh ∧ beh ≤ 32) : ∀ (L d : List Int) (low : Nat), d.length = n → Deps d → (∀ t ∈ L, 0 ≤ t) →
    (∀ e, nextGo n beh L d low = .error e → rNext n beh L d = .error e) ∧ (∀ d' low', nextGo n beh L d low = .ok (d', low') → rNext n beh L d = .ok d' ∧ ∀ j, j < low' → d'.getD j 0 = d.getD j 0)
  | [], d, low, hl, hd, _ => by
    refine ⟨fun e h => (by cases h), fun d' low' h => ?_⟩
    simp [nextGo] at h
    obtain ⟨rfl, rfl⟩ := h
    exact ⟨rfl, fun _ _ => rfl⟩
  | t :: ts, d, low, hl, hd, hp => by
    have ht := hp t (by simp)
    have hp' : ∀ t ∈ ts, 0 ≤ t := fun x hx => hp x (List.mem_cons_of_mem _ hx)
    rw [nextGo, rNext]
    by_cases hin : hasB n t = true
    · have hlt : t.toNat < d.length := by simp [hasB, inB] at hin; omega
      have hn : ¬ (n : Int) ≤ t := by simp [hasB, inB] at hin; omega
      have hm := hd (d.getD t.toNat 0) (by simp [List.getD, hlt])
      rw [if_pos hin, if_neg hn]
      by_cases h1 : d.getD t.toNat 0 = -1
      · rw [if_pos h1, if_neg (by omega)]
        obtain ⟨a, b⟩ := next_same n beh hb ts (d.set t.toNat beh) (min low t.toNat) (by simpa using hl) (hd.set _ (by omega)) hp'
        refine ⟨a, fun d' low' h => ?_⟩
        obtain ⟨c1, c2⟩ := b d' low' h
        refine ⟨c1, fun j hj => ?_⟩
        have hb2 := nextGo_bound n beh hb ts _ _ d' low' h (hd.set _ (by omega))
        rw [c2 j hj]
        have : t.toNat ≠ j := by have := hb2.2.2; omega
        simp [List.getD, this]
      · rw [if_neg h1]
        by_cases h2 : d.getD t.toNat 0 = beh
        · rw [if_pos h2, if_neg (by omega)]
          have hs : d.set t.toNat beh = d := by
            rw [← h2]
            have : d.getD t.toNat 0 = d[t.toNat] := by simp [List.getD, hlt]
            rw [this]; exact List.set_getElem_self hlt
          rw [hs]
          exact next_same n beh hb ts d low hl hd hp'
        · rw [if_neg h2, if_pos (by omega)]
          refine ⟨fun e h => (by cases h; rfl), fun d' low' h => (by cases h)⟩
    · have hn : (n : Int) ≤ t := by simp [hasB, inB] at hin; omega
      rw [if_neg hin, if_pos hn]
      refine ⟨fun e h => (by cases h; rfl), fun d' low' h => (by cases h)⟩
theorem over_same {ns : List Int} (hS : Small ns) {code : List (Int × Int)} {d : List Int} {p : Nat} (hl : d.length = code.length) (hd : Deps d) (hdp : 0 ≤ d.getD p 0 ∧ d.getD p 0 ≤ 32) (hN : ∀ t ∈ nextL (code.getD p (0, 0)).1 (code.getD p (0, 0)).2 ((p + 1 : Nat) : Int), 0 ≤ t) (low : Nat) :
    (∀ e, overL ns code d p low = .error e → rOver ns code d p = .error e) ∧ (∀ d' low', overL ns code d p low = .ok (d', low') → rOver ns code d p = .ok d' ∧ ∀ j, j < low' → d'.getD j 0 = d.getD j 0) := by
  have hb := rBeh_small hS (code.getD p (0, 0)) hdp
  unfold overL rOver
  rw [hb]
  unfold behL inB
  by_cases hc : popsOf (code.getD p (0, 0)).1 (code.getD p (0, 0)).2 ns ≤ d.getD p 0 ∧ d.getD p 0 + (kindOf (code.getD p (0, 0)).1).pushes - 32 ≤ popsOf (code.getD p (0, 0)).1 (code.getD p (0, 0)).2 ns
  · have h1 : (decide (d.getD p 0 + (kindOf (code.getD p (0, 0)).1).pushes - 32 ≤ popsOf (code.getD p (0, 0)).1 (code.getD p (0, 0)).2 ns) && decide (popsOf (code.getD p (0, 0)).1 (code.getD p (0, 0)).2 ns ≤ d.getD p 0)) = true := by rw [decide_eq_true hc.1, decide_eq_true hc.2]; rfl
    have h2 : ¬ (d.getD p 0 < popsOf (code.getD p (0, 0)).1 (code.getD p (0, 0)).2 ns ∨ 32 < d.getD p 0 - popsOf (code.getD p (0, 0)).1 (code.getD p (0, 0)).2 ns + (kindOf (code.getD p (0, 0)).1).pushes) := by omega
    rw [if_pos h1, if_neg h2]
    have hp := pushes_small (code.getD p (0, 0)).1
    exact next_same code.length _ (by omega) _ d low hl hd hN
  · have h1 : ¬ (decide (d.getD p 0 + (kindOf (code.getD p (0, 0)).1).pushes - 32 ≤ popsOf (code.getD p (0, 0)).1 (code.getD p (0, 0)).2 ns) && decide (popsOf (code.getD p (0, 0)).1 (code.getD p (0, 0)).2 ns ≤ d.getD p 0)) = true := by
      simp only [Bool.and_eq_true, decide_eq_true_eq]; omega
    have h2 : d.getD p 0 < popsOf (code.getD p (0, 0)).1 (code.getD p (0, 0)).2 ns ∨ 32 < d.getD p 0 - popsOf (code.getD p (0, 0)).1 (code.getD p (0, 0)).2 ns + (kindOf (code.getD p (0, 0)).1).pushes := by omega
    rw [if_neg h1, if_pos h2]
    exact ⟨fun e h => (by cases h; rfl), fun d' low' h => (by cases h)⟩
/-- Where it leads on to is no number below nought. -/
def Fwd (code : List (Int × Int)) : Prop := ∀ p, p < code.length → ∀ t ∈ nextL (code.getD p (0, 0)).1 (code.getD p (0, 0)).2 ((p + 1 : Nat) : Int), 0 ≤ t
theorem walk_same {ns : List Int} (hS : Small ns) {code : List (Int × Int)} (hF : Fwd code) : ∀ (k : Nat) (d : List Int) (g : List Bool) (low : Nat), d.length = code.length → g.length = code.length → Deps d → low ≤ d.length → (∀ j, j < low → passed d g j = true) → rWalk ns code k d g = walkL ns code k d g low
  | 0, _, _, _, _, _, _, _, _ => rfl
  | k + 1, d, g, low, hl, hg, hd, hlow, hp => by
    have he := from_eq hd hlow hp
    unfold rWalk walkL
    rw [he]
    obtain ⟨q, hq⟩ : ∃ q, q = leastFrom d g d.length low := ⟨_, rfl⟩
    rw [← hq] at he ⊢
    obtain ⟨s1, s2, s3⟩ := leastFrom_spec d g d.length low hlow (by omega)
    rw [← hq] at s1 s2 s3
    by_cases hlt : q < d.length
    · rw [if_pos hlt, if_pos hlt]
      obtain ⟨hdp, hgq⟩ := passed_no hd hlt (s3 hlt)
      obtain ⟨o1, o2⟩ := over_same hS hl hd hdp (hF q (by omega)) q
      cases ho : overL ns code d q q with
      | error e => rw [o1 e ho]
      | ok r =>
        obtain ⟨d', low'⟩ := r
        obtain ⟨o3, o4⟩ := o2 d' low' ho
        obtain ⟨b1, b2, b3⟩ := overL_bound ho hd
        rw [o3]
        refine walk_same hS hF k d' (g.set q true) low' (by omega) (by simpa using hg) b1 (by omega) (fun j hj => ?_)
        have hpj : passed d g j = true := by
          rcases Nat.lt_or_ge j low with h | h
          · exact hp j h
          · cases hpj : passed d g j with
            | true => rfl
            | false =>
              have h1 := from_low (d := d) (g := g) j (d.length - j) (by omega) (fun i hi => by
                by_cases hil : i < low
                · exact hp i hil
                · cases hpi : passed d g i with
                  | true => rfl
                  | false =>
                    exfalso
                    have : ∀ (m a : Nat), a ≤ i → i ≤ m + a → leastFrom d g m a ≤ i := by
                      intro m
                      induction m with
                      | zero => intro a h1 h2; have : leastFrom d g 0 a = a := rfl; omega
                      | succ m ih =>
                        intro a h1 h2
                        by_cases e : a = i
                        · subst e; rw [leastFrom_stop (.inr hpi)]; exact Nat.le_refl _
                        · unfold leastFrom
                          split
                          · exact ih (a + 1) (by omega) (by omega)
                          · omega
                    have := this d.length low (by omega) (by omega)
                    omega)
              have : ∀ (m a : Nat), a ≤ j → j ≤ m + a → leastFrom d g m a ≤ j := by
                intro m
                induction m with
                | zero => intro a h1 h2; have : leastFrom d g 0 a = a := rfl; omega
                | succ m ih =>
                  intro a h1 h2
                  by_cases e : a = j
                  · subst e; rw [leastFrom_stop (.inr hpj)]; exact Nat.le_refl _
                  · unfold leastFrom
                    split
                    · exact ih (a + 1) (by omega) (by omega)
                    · omega
              have := this d.length low (by omega) (by omega)
              omega
        have hjq : q ≠ j := by omega
        unfold passed at hpj ⊢
        rw [o4 j hj]
        have : (g.set q true).getD j true = g.getD j true := by simp [List.getD, hjq]
        rw [this]
        exact hpj
    · rw [if_neg hlt, if_neg hlt]
theorem depths_same {ns : List Int} (hS : Small ns) {code : List (Int × Int)} (hF : Fwd code) : rDepths ns code = depthsL ns code := by
  unfold rDepths depthsL
  refine walk_same hS hF _ _ _ 0 (by simp) (by simp) (fun v hv => ?_) (Nat.zero_le _) (fun j hj => by omega)
  rcases List.mem_or_eq_of_mem_set hv with h | h
  · have := List.eq_of_mem_replicate h; omega
  · omega
end Go.Proofs.YtnkfdpnommjlcaaGreatDoor
