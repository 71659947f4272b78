/- The depths of code that goes straight on. -/
import Derived.Test.YtbpcibnomkfglaaGreatDoorEvF
namespace Go.Proofs.YtbpcibnomkfglaaGreatDoor
open Go.RowKit Go.ChangeShapes Go.WideShapes Go.ChangeAt Go.Deep

/-- Does an instruction go on to the next one alone? -/
def onB (op : Int) : Bool := decide (1 ≤ op) && decide (op ≤ 17) && !(op == 14) && !(op == 15)
/-- Is it an end? -/
def endB (op : Int) : Bool := op == 18 || op == 19
/-- The depths of code that goes straight on to its end. -/
def strL (ns : List Int) : List (Int × Int) → Int → Option (List Int)
  | [], _ => none
  | [i], dep => if endB i.1 = true ∧ (behL ns i dep).isSome ∧ 0 ≤ dep then some [dep] else none
  | i :: j :: r, dep => if onB i.1 = true ∧ 0 ≤ dep then
      (match behL ns i dep with
      | some b => (match strL ns (j :: r) b with | some D => some (dep :: D) | none => none)
      | none => none) else none
theorem leastFrom_at (d : List Int) (g : List Bool) (p : Nat) (hp : p < d.length) (hd : d.getD p 0 ≠ -1) (hg : g.getD p true = false) : ∀ (k l : Nat), l ≤ p → p - l < k → (∀ i, l ≤ i → i < p → g.getD i true = true) → leastFrom d g k l = p
  | 0, l, _, h, _ => by omega
  | k + 1, l, hl, hk, ha => by
    rw [leastFrom]
    by_cases e : l = p
    · subst e
      rw [if_neg (fun z => by rcases z.2 with q | q; exact hd q; rw [hg] at q; cases q)]
    · rw [if_pos ⟨by omega, .inr (ha l (Nat.le_refl _) (by omega))⟩]
      exact leastFrom_at d g p hp hd hg k (l + 1) (by omega) (by omega) (fun i h1 h2 => ha i (by omega) h2)
theorem leastFrom_end (d : List Int) (g : List Bool) : ∀ (k l : Nat), l ≤ d.length → d.length - l ≤ k → (∀ i, l ≤ i → i < d.length → g.getD i true = true) → leastFrom d g k l = d.length
  | 0, l, h1, h2, _ => by rw [leastFrom]; omega
  | k + 1, l, h1, h2, ha => by
    rw [leastFrom]
    by_cases e : l < d.length
    · rw [if_pos ⟨e, .inr (ha l (Nat.le_refl _) e)⟩]
      exact leastFrom_end d g k (l + 1) (by omega) (by omega) (fun i h1 h2 => ha i (by omega) h2)
    · rw [if_neg (fun z => e z.1)]
      omega
theorem onB_parts {op : Int} (h : onB op = true) : 1 ≤ op ∧ op ≤ 17 ∧ op ≠ 14 ∧ op ≠ 15 := by
  simp [onB] at h
  omega
theorem nextL_on {op : Int} (h : onB op = true) (n s : Int) : nextL op n s = [s] := by
  obtain ⟨h1, h2, h3, h4⟩ := onB_parts h
  unfold nextL
  rw [if_neg (by omega), if_neg h3, if_neg (fun z => h4 z.1)]
theorem nextL_end {op : Int} (h : endB op = true) (n s : Int) : nextL op n s = [] := by
  simp [endB] at h
  unfold nextL
  rw [if_pos (by omega)]
theorem strL_len {ns : List Int} : ∀ (r : List (Int × Int)) (dep : Int) (D : List Int), strL ns r dep = some D → D.length = r.length
  | [], _, _, h => by cases h
  | [i], dep, D, h => by
    rw [strL] at h
    split at h
    · cases h; rfl
    · cases h
  | i :: j :: r, dep, D, h => by
    rw [strL] at h
    split at h
    · split at h
      · split at h
        · rename_i D' hD
          cases h
          have := strL_len (j :: r) _ D' hD
          simp at this ⊢
          omega
        · cases h
      · cases h
    · cases h
/-- The walk from the p-th instruction on. -/
theorem walk_str {ns : List Int} {code : List (Int × Int)} : ∀ (r pre : List (Int × Int)) (dep : Int) (D P : List Int) (G : List Bool) (l k : Nat), code = pre ++ r → strL ns r dep = some D → P.length = pre.length → G.length = pre.length → (∀ b ∈ G, b = true) → l ≤ pre.length → r.length < k →
    walkL ns code k (P ++ dep :: List.replicate (r.length - 1) (-1)) (G ++ List.replicate r.length false) l = .ok (P ++ D)
  | [], _, _, _, _, _, _, _, _, h, _, _, _, _, _ => by cases h
  | [i], pre, dep, D, P, G, l, k, hc, h, hP, hG, hGt, hl, hk => by
    rw [strL] at h
    split at h
    · rename_i hx
      cases h
      obtain ⟨b, hb⟩ := Option.isSome_iff_exists.1 hx.2.1
      obtain ⟨k, rfl⟩ : ∃ k', k = k' + 1 := ⟨k - 1, by simp at hk; omega⟩
      have hdl : (P ++ dep :: List.replicate ([i].length - 1) (-1)).length = pre.length + 1 := by simp [hP]
      have hdp : (P ++ dep :: List.replicate ([i].length - 1) (-1)).getD pre.length 0 = dep := by simp [List.getD, ← hP]
      have hgp : (G ++ List.replicate [i].length false).getD pre.length true = false := by simp [List.getD, ← hG]
      have hgi : ∀ j, l ≤ j → j < pre.length → (G ++ List.replicate [i].length false).getD j true = true := fun j _ hj => by
        rw [List.getD, List.getElem?_append_left (by omega)]
        rw [List.getElem?_eq_getElem (by omega)]
        exact hGt _ (List.getElem_mem _)
      have hl1 := leastFrom_at _ _ pre.length (by rw [hdl]; omega) (by rw [hdp]; omega) hgp (P ++ dep :: List.replicate ([i].length - 1) (-1)).length l hl (by rw [hdl]; omega) hgi
      rw [walkL, hl1, if_pos (by rw [hdl]; omega)]
      have hci : code.getD pre.length (0, 0) = i := by rw [hc]; simp [List.getD]
      unfold overL
      rw [hdp, hci, hb]
      simp only
      rw [nextL_end hx.1, nextGo]
      simp only
      have hgs : (G ++ List.replicate [i].length false).set pre.length true = G ++ [true] := by
        rw [← hG, List.set_append_right _ _ (Nat.le_refl _)]
        simp
      rw [hgs]
      cases k with
      | zero => simp at hk
      | succ k =>
        have hl2 := leastFrom_end (P ++ dep :: List.replicate ([i].length - 1) (-1)) (G ++ [true]) (P ++ dep :: List.replicate ([i].length - 1) (-1)).length pre.length (by rw [hdl]; omega) (by omega) (fun j h1 h2 => by
          rw [hdl] at h2
          have : j = pre.length := by omega
          subst this
          simp [List.getD, ← hG])
        rw [walkL, hl2, if_neg (by omega)]
        simp
    · cases h
  | i :: j :: r, pre, dep, D, P, G, l, k, hc, h, hP, hG, hGt, hl, hk => by
    rw [strL] at h
    split at h
    · rename_i hx
      split at h
      · rename_i b hb
        split at h
        · rename_i D' hD
          cases h
          obtain ⟨k, rfl⟩ : ∃ k', k = k' + 1 := ⟨k - 1, by simp at hk; omega⟩
          have hdl : (P ++ dep :: List.replicate ((i :: j :: r).length - 1) (-1)).length = pre.length + r.length + 2 := by simp [hP]; omega
          have hdp : (P ++ dep :: List.replicate ((i :: j :: r).length - 1) (-1)).getD pre.length 0 = dep := by simp [List.getD, ← hP]
          have hgp : (G ++ List.replicate (i :: j :: r).length false).getD pre.length true = false := by simp [List.getD, ← hG]
          have hgi : ∀ q, l ≤ q → q < pre.length → (G ++ List.replicate (i :: j :: r).length false).getD q true = true := fun q _ hq => by
            rw [List.getD, List.getElem?_append_left (by omega)]
            rw [List.getElem?_eq_getElem (by omega)]
            exact hGt _ (List.getElem_mem _)
          have hl1 := leastFrom_at _ _ pre.length (by rw [hdl]; omega) (by rw [hdp]; omega) hgp (P ++ dep :: List.replicate ((i :: j :: r).length - 1) (-1)).length l hl (by rw [hdl]; omega) hgi
          rw [walkL, hl1, if_pos (by rw [hdl]; omega)]
          have hci : code.getD pre.length (0, 0) = i := by rw [hc]; simp [List.getD]
          have hcl : code.length = pre.length + r.length + 2 := by rw [hc]; simp; omega
          unfold overL
          rw [hdp, hci, hb]
          simp only
          rw [nextL_on hx.1, nextGo]
          have hn1 : (P ++ dep :: List.replicate ((i :: j :: r).length - 1) (-1)).getD (((pre.length + 1 : Nat) : Int)).toNat 0 = -1 := by
            rw [Int.toNat_natCast, List.getD, List.getElem?_append_right (by omega), hP]
            simp
          rw [if_pos (by simp [hasB, inB]; omega), if_pos hn1, nextGo]
          simp only
          have hds : (P ++ dep :: List.replicate ((i :: j :: r).length - 1) (-1)).set (((pre.length + 1 : Nat) : Int)).toNat b = (P ++ [dep]) ++ b :: List.replicate ((j :: r).length - 1) (-1) := by
            rw [Int.toNat_natCast, List.set_append_right _ _ (by omega), hP]
            simp [List.replicate_succ]
          have hgs : (G ++ List.replicate (i :: j :: r).length false).set pre.length true = (G ++ [true]) ++ List.replicate (j :: r).length false := by
            rw [← hG, List.set_append_right _ _ (Nat.le_refl _)]
            simp [List.replicate_succ]
          rw [hds, hgs, show min pre.length (((pre.length + 1 : Nat) : Int)).toNat = pre.length by rw [Int.toNat_natCast]; omega]
          have := walk_str (code := code) (j :: r) (pre ++ [i]) b D' (P ++ [dep]) (G ++ [true]) pre.length k (by rw [hc]; simp) hD (by simp [hP]) (by simp [hG]) (fun q hq => by
            rcases List.mem_append.1 hq with q1 | q1
            · exact hGt _ q1
            · simpa using q1) (by simp) (by simp at hk ⊢; omega)
          rw [this]
          simp
        · cases h
      · cases h
    · cases h
theorem depths_str {ns : List Int} {code : List (Int × Int)} {D : List Int} (h : strL ns code 0 = some D) : depthsL ns code = .ok D := by
  cases code with
  | nil => cases h
  | cons i r =>
    have := walk_str (code := i :: r) (i :: r) [] 0 D [] [] 0 ((i :: r).length + 1) rfl h rfl rfl (fun b hb => by cases hb) (Nat.le_refl _) (by omega)
    unfold depthsL
    simpa [List.replicate_succ] using this
end Go.Proofs.YtbpcibnomkfglaaGreatDoor
