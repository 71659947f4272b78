/- Plain facts on reading numbers of seven bits a byte: no Go text is named here. -/
import Derived.Test.YtdhekagkhhejpaaMath
namespace Go.Proofs.Ytdhekagkhhejpaa

/-- What stands first in a row of bytes, from place i on, u read so far: the number and its width, or none. -/
def decI : Nat → Nat → Nat → List Nat → Option (Nat × Nat)
  | 0, _, _, _ => none
  | _ + 1, _, _, [] => none
  | f + 1, i, u, x :: r =>
    if i = 9 ∧ 1 < x then none
    else if 128 ≤ x then decI f (i + 1) (u + x % 128 * 2 ^ (7 * i)) r
    else if 0 < i ∧ x = 0 then none
    else some (u + x % 128 * 2 ^ (7 * i), i + 1)

def dec (bs : List Nat) : Option (Nat × Nat) := decI 10 0 0 bs

/-- All are bytes. -/
def Byt (bs : List Nat) : Prop := ∀ x ∈ bs, x < 256

theorem decI_enc (f i c u : Nat) (r : List Nat) (hf : f + i = 9) (hc : c < 2 ^ (7 * f + 1)) (hi : i = 0 ∨ 0 < c) :
    decI (f + 1) i u (encF f c ++ r) = some (u + c * 2 ^ (7 * i), i + (encF f c).length) := by
  induction f generalizing i c u with
  | zero =>
    have h9 : i = 9 := by omega
    subst h9
    have hc2 : c < 2 := by simpa using hc
    simp only [encF, List.cons_append, List.nil_append, decI]
    rw [if_neg (by omega), if_neg (by omega), if_neg (by omega), Nat.mod_eq_of_lt (by omega)]; rfl
  | succ f ih =>
    have h9 : i ≠ 9 := by omega
    by_cases hs : c < 128
    · rw [encF_small _ _ hs]
      simp only [List.cons_append, List.nil_append, decI]
      rw [if_neg (by omega), if_neg (by omega), if_neg (by omega), Nat.mod_eq_of_lt hs]; rfl
    · rw [encF_great f c (by omega)]
      obtain ⟨g, hg, hl⟩ := step_bound (f + 1) c hc (by omega)
      obtain rfl : f = g := by omega
      simp only [List.cons_append]
      rw [decI, if_neg (by omega), if_pos (by omega), ih (i + 1) (c / 128) _ (by omega) hl (.inr (by omega))]
      have e : c * 2 ^ (7 * i) = (c % 128 + 128) % 128 * 2 ^ (7 * i) + c / 128 * 2 ^ (7 * (i + 1)) := by
        rw [show 7 * (i + 1) = 7 + 7 * i from by omega, Nat.pow_add, ← Nat.mul_assoc, ← Nat.add_mul]
        congr 1; omega
      rw [e, List.length_cons, Nat.add_assoc, show i + 1 + (encF f (c / 128)).length = i + ((encF f (c / 128)).length + 1) from by omega]

theorem dec_enc (u : Nat) (r : List Nat) (h : u < 2 ^ (7 * 9 + 1)) : dec (enc u ++ r) = some (u, (enc u).length) := by
  unfold dec enc
  rw [decI_enc 9 0 u 0 r rfl h (.inl rfl)]; simp

/-- What is read is not longer than what is there, and has a width. -/
theorem decI_width (f i u : Nat) (bs : List Nat) (v k : Nat) (h : decI f i u bs = some (v, k)) : i < k ∧ k ≤ i + bs.length ∧ k ≤ i + f := by
  induction f generalizing i u bs with
  | zero => simp [decI] at h
  | succ f ih =>
    cases bs with
    | nil => simp [decI] at h
    | cons x r =>
      rw [decI] at h
      split at h
      · cases h
      · split at h
        · have := ih _ _ _ h; simp; omega
        · split at h
          · cases h
          · simp at h; simp; omega

theorem pow_le (i : Nat) (h : i ≤ 8) : 2 ^ (7 * i) ≤ 2 ^ 56 := Nat.pow_le_pow_right (by omega) (by omega)

theorem step_small (i x : Nat) (hi : i < 10) (h9 : i = 9 → x ≤ 1) : x % 128 * 2 ^ (7 * i) < 18446744073709551616 := by
  by_cases h : i = 9
  · subst h
    have := h9 rfl
    have e : x % 128 ≤ 1 := by omega
    have := Nat.mul_le_mul_right (2 ^ (7 * 9)) e
    omega
  · have h1 := pow_le i (by omega)
    have h2 : x % 128 ≤ 127 := by omega
    have := Nat.mul_le_mul h2 h1
    omega

/-- One byte more: the bits go beside those that are there. -/
theorem step_bits (i u x : Nat) (hi : i < 10) (hx : x < 256) (hu : u < 2 ^ (7 * i)) (h9 : i = 9 → x ≤ 1) :
    bits .or .u64 (u : Int) (IntKind.u64.wrap (IntKind.u64.wrap (bits .and .u8 (x : Int) 127) * 2 ^ (7 * i))) = ((u + x % 128 * 2 ^ (7 * i) : Nat) : Int) := by
  have hs := step_small i x hi h9
  have hu64 : u < 18446744073709551616 := by
    have : 2 ^ (7 * i) ≤ 2 ^ 63 := Nat.pow_le_pow_right (by omega) (by omega)
    omega
  have e1 : bits .and .u8 (x : Int) 127 = ((x % 128 : Nat) : Int) := by
    rw [show (127 : Int) = ((127 : Nat) : Int) from rfl, u8_and_nat x 127 hx (by omega), nat_mask7]
  have e2 : IntKind.u64.wrap ((x % 128 : Nat) : Int) = ((x % 128 : Nat) : Int) := by rw [IntKind.wrap_u64]; omega
  have e3 : ((x % 128 : Nat) : Int) * 2 ^ (7 * i) = ((x % 128 * 2 ^ (7 * i) : Nat) : Int) := by
    rw [Int.natCast_mul, Int.natCast_pow]; rfl
  rw [e1, e2, e3]
  generalize hm : x % 128 * 2 ^ (7 * i) = m at *
  have e4 : IntKind.u64.wrap (m : Int) = (m : Int) := by rw [IntKind.wrap_u64]; omega
  rw [e4, u64_or_nat u m hu64 hs, Nat.or_comm, nat_join (7 * i) m u (by rw [← hm]; exact Nat.mul_mod_left _ _) hu, Nat.add_comm]

theorem step_lt (i u x : Nat) (hu : u < 2 ^ (7 * i)) : u + x % 128 * 2 ^ (7 * i) < 2 ^ (7 * (i + 1)) := by
  have h2 : x % 128 ≤ 127 := by omega
  have h3 := Nat.mul_le_mul_right (2 ^ (7 * i)) h2
  rw [show 7 * (i + 1) = 7 + 7 * i from by omega, Nat.pow_add]
  omega

theorem dec_step (bs : List Nat) (i u : Nat) (h2 : i < 10) (h1 : i < bs.length) : decI (10 - i) i u (bs.drop i) =
    if i = 9 ∧ 1 < bs[i] then none else if 128 ≤ bs[i] then decI (10 - (i + 1)) (i + 1) (u + bs[i] % 128 * 2 ^ (7 * i)) (bs.drop (i + 1))
    else if 0 < i ∧ bs[i] = 0 then none else some (u + bs[i] % 128 * 2 ^ (7 * i), i + 1) := by
  rw [List.drop_eq_getElem_cons h1, show 10 - i = (9 - i) + 1 from by omega, decI, show 10 - (i + 1) = 9 - i from by omega]

theorem dec_stop (bs : List Nat) (i u : Nat) (h : bs.length ≤ i ∨ 10 ≤ i) : decI (10 - i) i u (bs.drop i) = none := by
  rcases h with h | h
  · rw [List.drop_eq_nil_of_le h]; cases 10 - i <;> rfl
  · rw [show 10 - i = 0 from by omega]; rfl

/-- The number that u stands for. -/
def unfoldN (u : Nat) : Int := if u % 2 = 1 then -((u / 2 : Nat) : Int) - 1 else ((u / 2 : Nat) : Int)

theorem unfold_fold (n : Int) : unfoldN (foldN n) = n := by
  unfold unfoldN foldN; split <;> split <;> omega


theorem decI_lt (f i u : Nat) (bs : List Nat) (v k : Nat) (hf : f + i ≤ 10) (hu : u < 2 ^ (7 * i)) (h : decI f i u bs = some (v, k)) : v < 18446744073709551616 := by
  induction f generalizing i u bs with
  | zero => simp [decI] at h
  | succ f ih =>
    cases bs with
    | nil => simp [decI] at h
    | cons x r =>
      rw [decI] at h
      by_cases h9 : i = 9 ∧ 1 < x
      · rw [if_pos h9] at h; cases h
      · rw [if_neg h9] at h
        by_cases h1 : 128 ≤ x
        · rw [if_pos h1] at h
          exact ih (i + 1) _ r (by omega) (step_lt i u x hu) h
        · rw [if_neg h1] at h
          by_cases h2 : 0 < i ∧ x = 0
          · rw [if_pos h2] at h; cases h
          · rw [if_neg h2] at h
            simp only [Option.some.injEq, Prod.mk.injEq] at h
            have hs := step_lt i u x hu
            by_cases hi : i = 9
            · subst hi
              have hx : x % 128 ≤ 1 := by omega
              have := Nat.mul_le_mul_right (2 ^ (7 * 9)) hx
              omega
            · have : 2 ^ (7 * (i + 1)) ≤ 2 ^ 63 := Nat.pow_le_pow_right (by omega) (by omega)
              omega

theorem dec_facts (bs : List Nat) (u k : Nat) (h : dec bs = some (u, k)) : u < 18446744073709551616 ∧ 1 ≤ k ∧ k ≤ bs.length ∧ k ≤ 10 := by
  have h1 := decI_lt 10 0 0 bs u k (by omega) (by simp) h
  have h2 := decI_width 10 0 0 bs u k h
  omega

/-- What reading a number answers and leaves: the number, the bytes that are left, whether it is bad. -/
def rdInt (bs : List Nat) (bad : Bool) : Int × List Nat × Bool :=
  match dec bs with
  | none => (0, [], true)
  | some (u, k) => (unfoldN u, bs.drop k, bad)

/-- What reading a text answers and leaves. -/
def rdBytes (bs : List Nat) (bad : Bool) : List Nat × List Nat × Bool :=
  if (rdInt bs bad).1 < 0 ∨ ((rdInt bs bad).2.1.length : Int) < (rdInt bs bad).1 then ([], [], true)
  else ((rdInt bs bad).2.1.take (rdInt bs bad).1.toNat, (rdInt bs bad).2.1.drop (rdInt bs bad).1.toNat, (rdInt bs bad).2.2)

theorem Byt.drop {bs : List Nat} (h : Byt bs) (k : Nat) : Byt (bs.drop k) := fun x hx => h x (List.mem_of_mem_drop hx)
theorem Byt.take {bs : List Nat} (h : Byt bs) (k : Nat) : Byt (bs.take k) := fun x hx => h x (List.mem_of_mem_take hx)

theorem and1_u64 (u : Nat) (h : u < 18446744073709551616) : bits .and .u64 (u : Int) 1 = ((u % 2 : Nat) : Int) := by
  rw [show (1 : Int) = ((1 : Nat) : Int) from rfl, u64_and_nat u 1 h (by omega), nat_mask1]

theorem unfold_odd (u : Nat) (h : u < 18446744073709551616) (h1 : u % 2 = 1) : Go.RowKit.wrap64 (bits .xor .u64 IntKind.u64.max ((u : Int) / 2)) = unfoldN u := by
  rw [show (u : Int) / 2 = ((u / 2 : Nat) : Int) from by omega, not_u64 (u / 2) (by omega)]
  unfold unfoldN
  rw [if_pos h1]
  unfold Go.RowKit.wrap64
  omega

theorem unfold_even (u : Nat) (h1 : ¬ u % 2 = 1) : (u : Int) / 2 = unfoldN u := by
  unfold unfoldN
  rw [if_neg h1]; omega


/-- The bytes of a number: all but the last are 128 or more. -/
theorem encF_shape (f u : Nat) (h : u < 2 ^ (7 * f + 1)) : ∃ l x, encF f u = l ++ [x] ∧ x < 128 ∧ ∀ y ∈ l, 128 ≤ y ∧ y < 256 := by
  induction f generalizing u with
  | zero => exact ⟨[], u, rfl, by simp at h; omega, by simp⟩
  | succ f ih =>
    by_cases hu : u < 128
    · exact ⟨[], u, encF_small _ _ hu, hu, by simp⟩
    · rw [encF_great f u (by omega)]
      obtain ⟨g, hg, hl⟩ := step_bound (f + 1) u h (by omega)
      obtain rfl : f = g := by omega
      obtain ⟨l, x, e, hx, hy⟩ := ih _ hl
      refine ⟨_ :: l, x, by rw [e]; rfl, hx, ?_⟩
      intro y hm
      rcases List.mem_cons.1 hm with rfl | hm
      · omega
      · exact hy y hm

theorem enc_byt (n : Int) (h1 : -9223372036854775808 ≤ n) (h2 : n ≤ 9223372036854775807) : Byt (enc (foldN n)) := by
  obtain ⟨l, x, e, hx, hy⟩ := encF_shape 9 (foldN n) (foldN_lt n h1 h2)
  intro z hz
  rw [enc, e] at hz
  rcases List.mem_append.1 hz with h | h
  · exact (hy z h).2
  · simp at h; omega

/-- Bytes of 128 and more with no end are no number. -/
theorem decI_open (f i u : Nat) (l : List Nat) (h : ∀ y ∈ l, 128 ≤ y) : decI f i u l = none := by
  induction f generalizing i u l with
  | zero => rfl
  | succ f ih =>
    cases l with
    | nil => rfl
    | cons x r =>
      have hx := h x (by simp)
      rw [decI]
      split
      · rfl
      · exact ih _ _ r (fun y hy => h y (by simp [hy]))

/-- With a nought behind they are none either. -/
theorem decI_nought (f i u : Nat) (l : List Nat) (h : ∀ y ∈ l, 128 ≤ y) (hl : 0 < i ∨ l ≠ []) : decI f i u (l ++ [0]) = none := by
  induction f generalizing i u l with
  | zero => rfl
  | succ f ih =>
    cases l with
    | nil =>
      have hi : 0 < i := by rcases hl with h | h <;> simp_all
      rw [List.nil_append, decI, if_neg (by omega), if_neg (by omega), if_pos ⟨hi, rfl⟩]
    | cons x r =>
      have hx := h x (by simp)
      rw [List.cons_append, decI]
      split
      · rfl
      · exact ih _ _ r (fun y hy => h y (by simp [hy])) (.inl (by omega))

end Go.Proofs.Ytdhekagkhhejpaa
