/- Plain facts on numbers written seven bits a byte: no Go text is named here. -/
import Derived.Test.YtpieagcijfkpnaaDoorBase
import Derived.WalkKit
import Derived.Laws.BitsAllLaws
namespace Go.Proofs.YtpieagcijfkpnaaDoor

/-- The number that stands for n: 2 n, or -2 n - 1 below nought. -/
def foldN (n : Int) : Nat := if n < 0 then (-2 * n - 1).toNat else (2 * n).toNat

/-- The bytes of u, seven bits a byte, the lowest first, at most f + 1 of them. -/
def encF : Nat → Nat → List Nat
  | 0, u => [u]
  | f + 1, u => if u < 128 then [u] else (u % 128 + 128) :: encF f (u / 128)

def enc (u : Nat) : List Nat := encF 9 u

theorem encF_length (f u : Nat) : 1 ≤ (encF f u).length ∧ (encF f u).length ≤ f + 1 := by
  induction f generalizing u with
  | zero => simp [encF]
  | succ f ih =>
    simp only [encF]
    split
    · simp
    · have := ih (u / 128); simp; omega

theorem encF_small (f u : Nat) (h : u < 128) : encF f u = [u] := by
  cases f <;> simp [encF, h]

theorem encF_great (f u : Nat) (h : 128 ≤ u) : encF (f + 1) u = (u % 128 + 128) :: encF f (u / 128) := by
  simp only [encF]; rw [if_neg (by omega)]

theorem foldN_lt (n : Int) (h1 : -9223372036854775808 ≤ n) (h2 : n ≤ 9223372036854775807) : foldN n < 2 ^ (7 * 9 + 1) := by
  unfold foldN; split <;> omega


theorem not_u64 (x : Nat) (hx : x < 18446744073709551616) : bits .xor .u64 IntKind.u64.max (x : Int) = 18446744073709551615 - (x : Int) := by
  have hm : IntKind.u64.max = ((18446744073709551615 : Nat) : Int) := by decide
  rw [hm]
  show IntKind.u64.wrap ((BitVec.ofInt 64 ((18446744073709551615 : Nat) : Int) ^^^ BitVec.ofInt 64 (x : Int)).toNat : Int) = _
  have h1 : BitVec.ofInt 64 ((18446744073709551615 : Nat) : Int) = BitVec.allOnes 64 := by decide
  rw [h1, BitVec.allOnes_xor, BitVec.toNat_not, ofInt_u64 x (by omega)]
  simp [IntKind.wrap, IntKind.bits, IntKind.signed]
  omega

theorem fold_neg_bits (n : Int) (h1 : -9223372036854775808 ≤ n) (h2 : n < 0) :
    bits .xor .u64 IntKind.u64.max (IntKind.u64.wrap (IntKind.u64.wrap n * 2)) = (foldN n : Nat) := by
  rw [IntKind.wrap_u64, IntKind.wrap_u64]
  obtain ⟨x, hx⟩ : ∃ x : Nat, (n % 18446744073709551616 * 2) % 18446744073709551616 = (x : Int) := ⟨((n % 18446744073709551616 * 2) % 18446744073709551616).toNat, by omega⟩
  rw [hx, not_u64 x (by omega)]
  unfold foldN
  rw [if_pos h2]
  omega

theorem or128 (c : Nat) : bits .or .u8 (IntKind.u8.wrap (c : Int)) 128 = ((c % 128 + 128 : Nat) : Int) := by
  rw [IntKind.wrap_u8']
  have e : ((c : Int) % 256) = ((c % 256 : Nat) : Int) := by omega
  rw [e, show (128 : Int) = ((128 : Nat) : Int) from rfl, u8_or_nat _ _ (by omega) (by omega)]
  congr 1
  by_cases h : c % 256 < 128
  · have h1 : (128 : Nat) ||| (c % 256) = 128 + c % 256 := nat_join 7 128 (c % 256) (by decide) (by omega)
    rw [Nat.or_comm, h1]; omega
  · have h2 : c % 256 = 128 + c % 128 := by omega
    have h1 : (128 : Nat) ||| (c % 128) = 128 + c % 128 := nat_join 7 128 (c % 128) (by decide) (by omega)
    rw [h2, ← h1, Nat.or_comm _ 128, ← Nat.or_assoc, Nat.or_self, h1]; omega


theorem or128' (c : Nat) : bits .or .u8 ((c : Int) % 256) 128 = ((c % 128 + 128 : Nat) : Int) := by
  rw [← or128 c, IntKind.wrap_u8']

theorem step_bound (f c : Nat) (h : c < 2 ^ (7 * f + 1)) (hc : 128 ≤ c) : ∃ g, f = g + 1 ∧ c / 128 < 2 ^ (7 * g + 1) := by
  cases f with
  | zero => simp at h; omega
  | succ g =>
    refine ⟨g, rfl, ?_⟩
    rw [show 7 * (g + 1) + 1 = 7 * g + 1 + 7 from by omega, Nat.pow_add] at h
    exact Nat.div_lt_of_lt_mul (by rw [Nat.mul_comm]; simpa using h)

theorem byte_small (c : Nat) (h : c < 128) : IntKind.u8.wrap (c : Int) = ((c : Nat) : Int) := by
  rw [IntKind.wrap_u8']; omega

/-- How many bytes a number has, reckoned as the law does: while 64 or more is left, seven bits go. -/
def wantF : Nat → Nat → Nat
  | 0, _ => 1
  | f + 1, u => if u < 64 then 1 else wantF f (u / 128) + 1

theorem encF_two (f u b : Nat) (hb : b < 2) : (encF f (2 * u + b)).length = wantF f u := by
  induction f generalizing u b with
  | zero => simp [encF, wantF]
  | succ f ih =>
    simp only [encF, wantF]
    by_cases h : u < 64
    · rw [if_pos (by omega), if_pos h]; rfl
    · rw [if_neg (by omega), if_neg h, List.length_cons, show (2 * u + b) / 128 = 2 * (u / 128) + u / 64 % 2 from by omega, ih _ _ (by omega)]

/-- What the law reckons from: n itself, or -(n + 1). -/
def absN (n : Int) : Nat := if n < 0 then (-(n + 1)).toNat else n.toNat

theorem enc_want (n : Int) : (enc (foldN n)).length = wantF 9 (absN n) := by
  unfold enc foldN absN
  by_cases h : n < 0
  · rw [if_pos h, if_pos h, show (-2 * n - 1).toNat = 2 * (-(n + 1)).toNat + 1 from by omega, encF_two _ _ _ (by omega)]
  · rw [if_neg h, if_neg h, show (2 * n).toNat = 2 * n.toNat + 0 from by omega, encF_two _ _ _ (by omega)]

theorem wantF_great (f u : Nat) (hu : 64 ≤ u) : wantF (f + 1) u = wantF f (u / 128) + 1 := by
  simp only [wantF]; rw [if_neg (by omega)]

theorem want_round (n : Int) (f u c : Nat) (h : wantF 9 (absN n) + 1 = c + wantF (f + 1) u) (hu : 64 ≤ u) : wantF 9 (absN n) + 1 = c + 1 + wantF f (u / 128) := by
  rw [wantF_great f u hu] at h; omega

theorem want_end (f u : Nat) (h : u < 64 ∨ f = 0) : wantF f u = 1 := by
  cases f with
  | zero => rfl
  | succ f => simp only [wantF]; rw [if_pos (by omega)]

theorem encF_last (f u : Nat) (h : u < 2 ^ (7 * f + 1)) : ∃ l x, encF f u = l ++ [x] ∧ x < 128 := by
  induction f generalizing u with
  | zero => exact ⟨[], u, rfl, by simp at h; omega⟩
  | succ f ih =>
    by_cases hu : u < 128
    · exact ⟨[], u, encF_small _ _ hu, hu⟩
    · rw [encF_great f u (by omega)]
      obtain ⟨g, hg, hl⟩ := step_bound (f + 1) u h (by omega)
      obtain rfl : f = g := by omega
      obtain ⟨l, x, e, hx⟩ := ih _ hl
      exact ⟨_ :: l, x, by rw [e]; rfl, hx⟩

end Go.Proofs.YtpieagcijfkpnaaDoor
