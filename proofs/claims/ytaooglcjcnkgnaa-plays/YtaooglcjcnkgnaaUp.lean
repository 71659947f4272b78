/- How many places a ring has: ring.roundUp. -/
import Derived.Test.YtaooglcjcnkgnaaBase
import Derived.Test.YtaooglcjcnkgnaaShelf
import Derived.Lib.ItoaNum
import Derived.BigQuiet
namespace Go.Proofs.Ytaooglcjcnkgnaa
open Go.RowKit Go.ChangeShapes Go.WideShapes Go.ChangeAt Go.Deep

/-- A ring's size. -/
def Pow (n : Nat) : Prop := ∃ e, e ≤ 16 ∧ n = 2 ^ e
/-- The size of a ring that is asked for s places. -/
def UpTo (s : Int) (n : Nat) : Prop := Pow n ∧ (s ≤ (n : Int) ∨ n = 65536) ∧ (n = 1 ∨ (n : Int) < 2 * s)

theorem Pow.pos {n : Nat} (h : Pow n) : 1 ≤ n ∧ n ≤ 65536 := by
  obtain ⟨e, he, rfl⟩ := h
  have h1 := Nat.two_pow_pos e
  have h2 : 2 ^ e ≤ 2 ^ 16 := Nat.pow_le_pow_right (by decide) he
  omega

theorem pow_lt {e f : Nat} (h : e < f) : 2 * 2 ^ e ≤ 2 ^ f := by
  have : 2 ^ (e + 1) ≤ 2 ^ f := Nat.pow_le_pow_right (by decide) h
  rw [Nat.pow_succ] at this
  omega

theorem Pow.double {n : Nat} (h : Pow n) (hn : n < 65536) : Pow (2 * n) := by
  obtain ⟨e, he, rfl⟩ := h
  refine ⟨e + 1, ?_, by rw [Nat.pow_succ]; omega⟩
  rcases Nat.lt_or_ge e 16 with h | h
  · exact h
  · have : e = 16 := by omega
    subst this
    simp at hn

theorem upTo_le {s : Int} {n m : Nat} (h : UpTo s n) (k : UpTo s m) : ¬ n < m := by
  intro hlt
  obtain ⟨⟨e, he, rfl⟩, h1, _⟩ := h
  obtain ⟨hm, _, k2⟩ := k
  have hp := hm.pos
  obtain ⟨f, hf, rfl⟩ := hm
  have hef : e < f := by
    rcases Nat.lt_or_ge e f with h | h
    · exact h
    · have : 2 ^ f ≤ 2 ^ e := Nat.pow_le_pow_right (by decide) h
      omega
  have h3 := pow_lt hef
  have h4 := Nat.two_pow_pos e
  omega

theorem UpTo.same {s : Int} {n m : Nat} (h : UpTo s n) (k : UpTo s m) : n = m := by
  have h1 := upTo_le h k
  have h2 := upTo_le k h
  omega

/-- The power of two behind x's bits. -/
theorem upTo_bits (s : Int) (x : Nat) (hx : x < 65536) (h : s = (x : Int) + 1 ∨ (s ≤ 1 ∧ x = 0) ∨ (65536 ≤ s ∧ x = 65535)) : UpTo s (2 ^ Lib.bitLen x) := by
  by_cases h0 : x = 0
  · subst h0
    have e : Lib.bitLen 0 = 0 := by decide
    rw [e]
    refine ⟨⟨0, by omega, rfl⟩, .inl ?_, .inl rfl⟩
    simp
    omega
  · obtain ⟨b1, b2, b3⟩ := Lib.bitLenAux_bounds 64 x (by omega) h0
    have e : Lib.bitLenAux 64 x = Lib.bitLen x := rfl
    rw [e] at b1 b2 b3
    have hle : Lib.bitLen x ≤ 16 := Lib.bitLen_le x 16 (by omega) (by omega)
    have hP : Pow (2 ^ Lib.bitLen x) := ⟨_, hle, rfl⟩
    have hpp := hP.pos
    have hd : 2 ^ Lib.bitLen x = 2 * 2 ^ (Lib.bitLen x - 1) := by
      rw [← Nat.pow_succ']
      congr 1
      omega
    refine ⟨hP, ?_, ?_⟩
    · generalize 2 ^ Lib.bitLen x = m at *
      omega
    · right
      generalize 2 ^ Lib.bitLen x = m at *
      omega

def UpPost (s : Int) (e : Ending) : Prop := ∃ n : Nat, e = .returned (.int .i64 (n : Int)) ∧ UpTo s n

theorem len_any (x : Nat) (w : World) (h : x < 65536) : Calls Try.prog 43 #[.int .u64 (x : Int)] w fun e w' => e = .returned (.int .i64 ((Lib.bitLen x : Nat) : Int)) ∧ w' = w :=
  Try.bits_Len (x : Int) w (by omega) (by omega)

set_option maxRecDepth 100000 in
theorem roundUp_any (s : Int) (w : World) : Calls Try.prog 34 #[.int .i64 s] w fun e w' => UpPost s e ∧ w' = w := by
  obtain ⟨x, hx, hs⟩ : ∃ x : Nat, x < 65536 ∧ (s = (x : Int) + 1 ∨ (s ≤ 1 ∧ x = 0) ∨ (65536 ≤ s ∧ x = 65535)) := by
    by_cases h1 : s ≤ 1
    · exact ⟨0, by omega, by omega⟩
    · by_cases h2 : 65536 ≤ s
      · exact ⟨65535, by omega, by omega⟩
      · exact ⟨(s - 1).toNat, by omega, by omega⟩
  have HU := hide (upTo_bits s x hx hs)
  have HL := hide (Lib.bitLen_le x 16 (by omega) (by omega))
  have C20 := hide (fun w => len_any x w hx)
  generalize hb : Lib.bitLen x = b at HU HL C20
  clear hb
  have hm : min (max s 1) 65536 = (x : Int) + 1 := by omega
  have hx1 : (x : Int) + 1 - 1 = (x : Int) := by omega
  have hb16 : (b : Int) ≤ 16 := by have := HL.out; omega
  have hsh : wrap64 (2 ^ b) = ((2 ^ b : Nat) : Int) := by
    have h1 : 2 ^ b ≤ 2 ^ 16 := Nat.pow_le_pow_right (by decide) HL.out
    rw [show (2 : Int) ^ b = ((2 ^ b : Nat) : Int) by simp]
    generalize 2 ^ b = z at h1
    unfold wrap64
    omega
  have HSH := hide hsh
  clear hs hsh
  go_enter Try.func34, Try.ntmps34
  go_wp2_with (first | (go_at_call 43; go_must ((with_reducible refine (C20.out _).mono ?_); rintro e w1 ⟨rfl, rfl⟩)))
  go_ret
  exact ⟨⟨_, by rw [HSH.out]; rfl, HU.out⟩, rfl⟩
end Go.Proofs.Ytaooglcjcnkgnaa
