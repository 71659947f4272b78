/- Numbers as they are written, plain. -/
import Derived.Test.YtfnloomcianbiaaGreatDoorEval
namespace Go.Proofs.YtfnloomcianbiaaGreatDoor
open Go.RowKit Go.ChangeShapes Go.WideShapes Go.ChangeAt Go.Deep

def val (l : List UInt8) : Nat := l.foldl (fun a c => 10 * a + (c.toNat - 48)) 0
theorem val_snoc (l : List UInt8) (c : UInt8) : val (l ++ [c]) = 10 * val l + (c.toNat - 48) := by simp [val]
def Digs (l : List UInt8) : Prop := ∀ c ∈ l, 48 ≤ c.toNat ∧ c.toNat ≤ 57
structure Canon (d : List UInt8) : Prop where
  ne : d ≠ []
  digs : Digs d
  head : d.length = 1 ∨ d.head? ≠ some 48

theorem snoc_of {α : Type} {l : List α} (h : l ≠ []) : ∃ e c, l = e ++ [c] := ⟨l.dropLast, l.getLast h, (List.dropLast_concat_getLast h).symm⟩
theorem byte_back {c : UInt8} (h : 48 ≤ c.toNat ∧ c.toNat ≤ 57) : UInt8.ofNat (48 + (c.toNat - 48)) = c := by
  have : 48 + (c.toNat - 48) = c.toNat := by omega
  rw [this]
  simp
theorem canon_dec : ∀ (n : Nat) (d : List UInt8), d.length = n → Canon d → Lib.decDigits (val d) = d
  | 0, d, hl, h => absurd (List.eq_nil_of_length_eq_zero hl) h.ne
  | n + 1, d, hl, h => by
    obtain ⟨e, c, rfl⟩ := snoc_of h.ne
    have hc := h.digs c (by simp)
    rw [val_snoc]
    by_cases he : e = []
    · subst he
      have : val [] = 0 := rfl
      rw [this, Lib.decDigits, dif_pos (by omega)]
      simp only [Nat.mul_zero, Nat.zero_add, List.nil_append]
      rw [byte_back hc]
    · have hee : Canon e := ⟨he, fun x hx => h.digs x (by simp [hx]), by
        right
        rcases h.head with h1 | h1
        · simp at h1
          exact absurd h1 he
        · intro h2
          apply h1
          cases e with
          | nil => exact absurd rfl he
          | cons a r => simpa using h2⟩
      have ih := canon_dec n e (by simpa using hl) hee
      have hpos : 0 < val e := by
        rcases Nat.eq_zero_or_pos (val e) with h0 | h0
        · rw [h0] at ih
          have e1 : Lib.decDigits 0 = [48] := by kernel_rfl
          rw [e1] at ih
          rcases h.head with h1 | h1
          · simp at h1
            exact absurd h1 he
          · rw [← ih] at h1
            simp at h1
        · exact h0
      rw [Lib.decDigits, dif_neg (by omega)]
      have e1 : (10 * val e + (c.toNat - 48)) / 10 = val e := by omega
      have e2 : (10 * val e + (c.toNat - 48)) % 10 = c.toNat - 48 := by omega
      rw [e1, e2, ih, byte_back hc]
theorem val_dec (u : Nat) : val (Lib.decDigits u) = u := by
  induction u using Nat.strongRecOn with
  | _ u ih =>
    rw [Lib.decDigits]
    split
    · rename_i h
      have := digit_byte u h
      show 10 * 0 + ((UInt8.ofNat (48 + u)).toNat - 48) = u
      rw [this]
      omega
    · rename_i h
      have := digit_byte (u % 10) (by omega)
      rw [val_snoc, ih (u / 10) (by omega), this]
      omega
theorem dec_canon (u : Nat) : Canon (Lib.decDigits u) := by
  refine ⟨dec_ne u, dec_bytes u, ?_⟩
  induction u using Nat.strongRecOn with
  | _ u ih =>
    rw [Lib.decDigits]
    split
    · exact .inl rfl
    · rename_i h
      right
      have h2 := ih (u / 10) (by omega)
      intro h3
      have hne := dec_ne (u / 10)
      have h4 : (Lib.decDigits (u / 10)).head? = some 48 := by
        cases hd : Lib.decDigits (u / 10) with
        | nil => exact absurd hd hne
        | cons a r => rw [hd] at h3; simpa using h3
      rcases h2 with h5 | h5
      · -- one digit
        have h6 : u / 10 < 10 := by
          rcases Nat.lt_or_ge (u / 10) 10 with h | h
          · exact h
          · rw [Lib.decDigits, dif_neg (by omega)] at h5
            have := dec_ne (u / 10 / 10)
            cases hd : Lib.decDigits (u / 10 / 10) with
            | nil => exact absurd hd this
            | cons a r => rw [hd] at h5; simp at h5
        rw [Lib.decDigits, dif_pos h6] at h4
        have h7 := digit_byte (u / 10) h6
        have h8 : UInt8.ofNat (48 + u / 10) = 48 := Option.some.inj h4
        rw [h8] at h7
        have : (48 : UInt8).toNat = 48 := rfl
        omega
      · exact h5 h4
theorem dec_inj_canon {d : List UInt8} (h : Canon d) : Lib.decDigits (val d) = d := canon_dec _ d rfl h

theorem atoi_range {l : List UInt8} {v : Int} (h : Lib.atoiAll l = .ok v) : -9223372036854775808 ≤ v ∧ v ≤ 9223372036854775807 := by
  cases l with
  | nil => simp [Lib.atoiAll] at h
  | cons c r =>
    unfold Lib.atoiAll at h
    simp only at h
    cases hp : Lib.parseMag (if c.toNat = 43 ∨ c.toNat = 45 then r else c :: r) with
    | «syntax» => rw [hp] at h; cases h
    | range => rw [hp] at h; cases h
    | ok u =>
      rw [hp] at h
      simp only at h
      by_cases h1 : ¬ c.toNat = 45 ∧ 9223372036854775808 ≤ u
      · rw [if_pos h1] at h; cases h
      · rw [if_neg h1] at h
        by_cases h2 : c.toNat = 45 ∧ 9223372036854775808 < u
        · rw [if_pos h2] at h; cases h
        · rw [if_neg h2] at h
          have h3 := Lib.NumEnd.ok.inj h
          by_cases h4 : c.toNat = 45
          · rw [if_pos h4] at h3; omega
          · rw [if_neg h4] at h3; omega

/-- What num says of a text. -/
theorem num_of {s : ByteArray} {v : Int} (h : num s = some v) : (∃ d, s.data.toList = d ∧ Canon d ∧ val d ≤ 9223372036854775807 ∧ v = (val d : Nat)) ∨ (∃ d, s.data.toList = 45 :: d ∧ Canon d ∧ 0 < val d ∧ val d ≤ 9223372036854775808 ∧ v = -((val d : Nat) : Int)) := by
  unfold num at h
  split at h
  · rename_i u hu
    split at h
    · rename_i he
      injection h with h
      subst h
      have hr := atoi_range hu
      by_cases hn : u < 0
      · have e : Lib.itoa u = 45 :: Lib.decDigits u.natAbs := by unfold Lib.itoa; rw [if_pos hn]
        exact .inr ⟨Lib.decDigits u.natAbs, by rw [← he, e], dec_canon _, by rw [val_dec]; omega, by rw [val_dec]; omega, by rw [val_dec]; omega⟩
      · have e : Lib.itoa u = Lib.decDigits u.toNat := by unfold Lib.itoa; rw [if_neg hn]
        exact .inl ⟨Lib.decDigits u.toNat, by rw [← he, e], dec_canon _, by rw [val_dec]; omega, by rw [val_dec]; omega⟩
    · cases h
  · cases h
theorem num_pos {s : ByteArray} {d : List UInt8} (hs : s.data.toList = d) (hc : Canon d) (hv : val d ≤ 9223372036854775807) : num s = some ((val d : Nat) : Int) := by
  have e : Lib.itoa ((val d : Nat) : Int) = d := by
    have : Lib.itoa ((val d : Nat) : Int) = Lib.decDigits (val d) := by unfold Lib.itoa; rw [if_neg (by omega)]; rfl
    rw [this, dec_inj_canon hc]
  have hb : s = bs (Lib.itoa ((val d : Nat) : Int)) := by rw [e, ← hs]; exact (by apply bytes_inj; rw [bs_list])
  rw [hb]
  exact num_itoa _ (by omega)
theorem num_neg {s : ByteArray} {d : List UInt8} (hs : s.data.toList = 45 :: d) (hc : Canon d) (h0 : 0 < val d) (hv : val d ≤ 9223372036854775808) : num s = some (-((val d : Nat) : Int)) := by
  have e : Lib.itoa (-((val d : Nat) : Int)) = 45 :: d := by
    have : Lib.itoa (-((val d : Nat) : Int)) = 45 :: Lib.decDigits (val d) := by
      unfold Lib.itoa
      rw [if_pos (by omega)]
      simp
    rw [this, dec_inj_canon hc]
  have hb : s = bs (Lib.itoa (-((val d : Nat) : Int))) := by rw [e, ← hs]; exact (by apply bytes_inj; rw [bs_list])
  rw [hb]
  exact num_itoa _ (by omega)
theorem num_no {s : ByteArray} (h1 : ∀ d, s.data.toList = d → Canon d → val d ≤ 9223372036854775807 → False) (h2 : ∀ d, s.data.toList = 45 :: d → Canon d → 0 < val d → val d ≤ 9223372036854775808 → False) : num s = none := by
  cases h : num s with
  | none => rfl
  | some v =>
    rcases num_of h with ⟨d, a, b, c, _⟩ | ⟨d, a, b, c, e, _⟩
    · exact (h1 d a b c).elim
    · exact (h2 d a b c e).elim
theorem foldl_ge : ∀ (l : List UInt8) (a : Nat), a ≤ l.foldl (fun a c => 10 * a + (c.toNat - 48)) a
  | [], a => Nat.le_refl _
  | c :: r, a => by
    have := foldl_ge r (10 * a + (c.toNat - 48))
    simp only [List.foldl_cons]
    omega
theorem val_take (d : List UInt8) (k : Nat) : val (d.take k) ≤ val d := by
  have : val d = (d.drop k).foldl (fun a c => 10 * a + (c.toNat - 48)) (val (d.take k)) := by
    unfold val
    rw [← List.foldl_append, List.take_append_drop]
  rw [this]
  exact foldl_ge _ _
theorem val_pos {d : List UInt8} (h : Canon d) (hh : d.head? ≠ some 48) : 0 < val d := by
  rcases Nat.eq_zero_or_pos (val d) with h0 | h0
  · have := dec_inj_canon h
    rw [h0] at this
    have e1 : Lib.decDigits 0 = [48] := by kernel_rfl
    rw [e1] at this
    rw [← this] at hh
    simp at hh
  · exact h0
theorem val_long : ∀ (n : Nat) (d : List UInt8), d.length = n + 1 → Canon d → d.head? ≠ some 48 → 10 ^ n ≤ val d
  | 0, d, hl, h, hh => val_pos h hh
  | n + 1, d, hl, h, hh => by
    obtain ⟨e, c, rfl⟩ := snoc_of h.ne
    have hle : e.length = n + 1 := by simpa using hl
    have hne : e ≠ [] := fun h => by rw [h] at hle; simp at hle
    have hhe : e.head? ≠ some 48 := by
      intro h2
      apply hh
      cases e with
      | nil => exact absurd rfl hne
      | cons a r => simpa using h2
    have ih := val_long n e hle ⟨hne, fun x hx => h.digs x (by simp [hx]), .inr hhe⟩ hhe
    rw [val_snoc, Nat.pow_succ]
    omega
end Go.Proofs.YtfnloomcianbiaaGreatDoor
