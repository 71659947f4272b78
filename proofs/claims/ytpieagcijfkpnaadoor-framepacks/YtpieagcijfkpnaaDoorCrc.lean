/- Plain facts on the sum of 32 bits: no Go text is named here. -/
import Derived.WalkKit
import Derived.Laws.BitsAllLaws
namespace Go.Proofs.YtpieagcijfkpnaaDoor

/-- One bit goes out at the low end. -/
def sb (c : Nat) : Nat := if c % 2 = 1 then (c / 2) ^^^ 3988292384 else c / 2
/-- n bits go out. -/
def it : Nat → Nat → Nat
  | 0, c => c
  | n + 1, c => it n (sb c)
/-- One byte comes in. -/
def byteStep (c x : Nat) : Nat := it 8 (c ^^^ x)
/-- All bytes come in. -/
def crcF (c : Nat) (bs : List Nat) : Nat := bs.foldl byteStep c
/-- The sum goes on from a sum. -/
def crcMore (sum : Nat) (bs : List Nat) : Nat := crcF (sum % 4294967296 ^^^ 4294967295) bs ^^^ 4294967295
def crcSum (bs : List Nat) : Nat := crcMore 0 bs
/-- The bytes as one number, the first lowest. -/
def val : List Nat → Nat
  | [] => 0
  | x :: r => x ^^^ 256 * val r

theorem xor_mod_two (a b : Nat) : (a ^^^ b) % 2 = (a % 2 + b % 2) % 2 := by
  have h : (a ^^^ b).testBit 0 = (a.testBit 0 ^^ b.testBit 0) := Nat.testBit_xor a b 0
  simp only [Nat.testBit_zero] at h
  rcases Nat.mod_two_eq_zero_or_one a with ha | ha <;> rcases Nat.mod_two_eq_zero_or_one b with hb | hb <;> rcases Nat.mod_two_eq_zero_or_one (a ^^^ b) with hc | hc <;> simp [ha, hb, hc] at h ⊢

theorem sb_xor (a b : Nat) : sb (a ^^^ b) = sb a ^^^ sb b := by
  have hd : (a ^^^ b) / 2 = a / 2 ^^^ b / 2 := Nat.xor_div_two
  have hm : (a ^^^ b) % 2 = (a % 2 + b % 2) % 2 := xor_mod_two a b
  unfold sb
  rw [hd, hm]
  rcases Nat.mod_two_eq_zero_or_one a with ha | ha <;> rcases Nat.mod_two_eq_zero_or_one b with hb | hb
  · simp [ha, hb]
  · simp [ha, hb, Nat.xor_assoc]
  · simp only [ha, hb]
    simp
    rw [Nat.xor_assoc, Nat.xor_comm (b / 2), ← Nat.xor_assoc]
  · simp only [ha, hb]
    simp
    rw [Nat.xor_assoc, ← Nat.xor_assoc 3988292384, Nat.xor_comm 3988292384 (b / 2), Nat.xor_assoc (b / 2), Nat.xor_self, Nat.xor_zero]

theorem sb_lt (c : Nat) (h : c < 4294967296) : sb c < 4294967296 := by
  unfold sb
  split
  · exact Nat.xor_lt_two_pow (n := 32) (by omega) (by omega)
  · omega

theorem sb_zero : sb 0 = 0 := rfl

theorem sb_ne (c : Nat) (h : c < 4294967296) (h0 : c ≠ 0) : sb c ≠ 0 := by
  unfold sb
  split
  · intro h1
    have h2 := congrArg (· ^^^ 3988292384) h1
    simp only [Nat.xor_assoc, Nat.xor_self, Nat.xor_zero, Nat.zero_xor] at h2
    omega
  · omega

theorem sb_two (c : Nat) : sb (2 * c) = c := by
  unfold sb
  rw [if_neg (by omega)]; omega

theorem it_xor (n a b : Nat) : it n (a ^^^ b) = it n a ^^^ it n b := by
  induction n generalizing a b with
  | zero => rfl
  | succ n ih => simp only [it]; rw [sb_xor, ih]

theorem it_lt (n c : Nat) (h : c < 4294967296) : it n c < 4294967296 := by
  induction n generalizing c with
  | zero => exact h
  | succ n ih => exact ih _ (sb_lt c h)

theorem it_ne (n c : Nat) (h : c < 4294967296) (h0 : c ≠ 0) : it n c ≠ 0 := by
  induction n generalizing c with
  | zero => exact h0
  | succ n ih => exact ih _ (sb_lt c h) (sb_ne c h h0)

theorem it_add (m n c : Nat) : it (m + n) c = it n (it m c) := by
  induction m generalizing c with
  | zero => rw [Nat.zero_add]; rfl
  | succ m ih => rw [show m + 1 + n = (m + n) + 1 from by omega]; simp only [it]; exact ih _

theorem it_pow (n c : Nat) : it n (2 ^ n * c) = c := by
  induction n generalizing c with
  | zero => simp [it]
  | succ n ih =>
    simp only [it]
    rw [Nat.pow_succ, Nat.mul_comm (2 ^ n) 2, Nat.mul_assoc, sb_two, ih]

/-- All bytes at once. -/
theorem crcF_val (c : Nat) (bs : List Nat) : crcF c bs = it (8 * bs.length) (c ^^^ val bs) := by
  induction bs generalizing c with
  | nil => simp [crcF, val, it]
  | cons x r ih =>
    have h1 : crcF c (x :: r) = crcF (byteStep c x) r := rfl
    rw [h1, ih, List.length_cons, show 8 * (r.length + 1) = 8 + 8 * r.length from by omega, it_add]
    congr 1
    simp only [val, byteStep]
    rw [← Nat.xor_assoc, it_xor 8 (c ^^^ x), show (256 : Nat) = 2 ^ 8 from rfl, it_pow]

theorem crcF_append (c : Nat) (a b : List Nat) : crcF c (a ++ b) = crcF (crcF c a) b := by
  unfold crcF; rw [List.foldl_append]

theorem byteStep_lt (c x : Nat) (hc : c < 4294967296) (hx : x < 256) : byteStep c x < 4294967296 :=
  it_lt 8 _ (Nat.xor_lt_two_pow (n := 32) (by omega) (by omega))

theorem crcF_lt (c : Nat) (bs : List Nat) (hc : c < 4294967296) (hb : ∀ x ∈ bs, x < 256) : crcF c bs < 4294967296 := by
  induction bs generalizing c with
  | nil => exact hc
  | cons x r ih => exact ih _ (byteStep_lt c x hc (hb x (by simp))) (fun y hy => hb y (by simp [hy]))

theorem xor_all_lt (c : Nat) (h : c < 4294967296) : c ^^^ 4294967295 < 4294967296 := Nat.xor_lt_two_pow (n := 32) h (by omega)

theorem xor_twice (a b : Nat) : a ^^^ b ^^^ b = a := by rw [Nat.xor_assoc, Nat.xor_self, Nat.xor_zero]

theorem crcMore_lt (s : Nat) (bs : List Nat) (hb : ∀ x ∈ bs, x < 256) : crcMore s bs < 4294967296 :=
  xor_all_lt _ (crcF_lt _ _ (xor_all_lt _ (by omega)) hb)

/-- A sum goes on with more bytes. -/
theorem crcMore_append (s : Nat) (a b : List Nat) (ha : ∀ x ∈ a, x < 256) : crcMore s (a ++ b) = crcMore (crcMore s a) b := by
  have h := crcMore_lt s a ha
  have e : crcMore s a % 4294967296 ^^^ 4294967295 = crcF (s % 4294967296 ^^^ 4294967295) a := by
    rw [Nat.mod_eq_of_lt h]; unfold crcMore; rw [xor_twice]
  show crcF _ (a ++ b) ^^^ _ = crcF (crcMore s a % 4294967296 ^^^ 4294967295) b ^^^ _
  rw [e, crcF_append]

theorem crcMore_nil (s : Nat) (h : s < 4294967296) : crcMore s [] = s := by
  show (s % 4294967296 ^^^ 4294967295) ^^^ 4294967295 = s
  rw [xor_twice, Nat.mod_eq_of_lt h]

theorem mul256_xor (u v : Nat) : 256 * (u ^^^ v) = 256 * u ^^^ 256 * v := by
  have h := Nat.shiftLeft_xor_distrib (i := 8) (a := u) (b := v)
  simpa [Nat.shiftLeft_eq, Nat.mul_comm] using h

/-- The number of lists whose bits are put together is put together likewise. -/
theorem val_xor (a b : List Nat) (h : a.length = b.length) : val (List.zipWith (· ^^^ ·) a b) = val a ^^^ val b := by
  induction a generalizing b with
  | nil => cases b with
    | nil => rfl
    | cons _ _ => simp at h
  | cons x r ih =>
    cases b with
    | nil => simp at h
    | cons y s =>
      simp only [List.zipWith_cons_cons, val]
      rw [ih s (by simpa using h), mul256_xor]
      rw [Nat.xor_assoc, Nat.xor_assoc, ← Nat.xor_assoc y, Nat.xor_comm y, Nat.xor_assoc (256 * val r)]

/-- One byte is turned. -/
theorem val_set (bs : List Nat) (i m : Nat) (h : i < bs.length) : val (bs.set i (bs[i] ^^^ m)) = val bs ^^^ 256 ^ i * m := by
  induction bs generalizing i with
  | nil => simp at h
  | cons x r ih =>
    cases i with
    | zero =>
      simp only [List.set_cons_zero, val, List.getElem_cons_zero, Nat.pow_zero, Nat.one_mul]
      rw [Nat.xor_assoc, Nat.xor_assoc, Nat.xor_comm m]
    | succ i =>
      simp only [List.set_cons_succ, val, List.getElem_cons_succ]
      rw [ih i (by simpa using h), mul256_xor, Nat.pow_succ, ← Nat.xor_assoc]
      congr 1
      rw [Nat.mul_comm (256 ^ i) 256, Nat.mul_assoc]

/-- Turned bits, up to 32 side by side, turn the sum. -/
theorem crc_turned (s : Nat) (b x : List Nat) (wd at_ : Nat) (hl : x.length = b.length) (hw : wd < 4294967296) (hw0 : wd ≠ 0) (hat : at_ ≤ 8 * b.length) (hv : val x = val b ^^^ 2 ^ at_ * wd) : crcMore s x ≠ crcMore s b := by
  unfold crcMore
  intro h
  have h1 : crcF (s % 4294967296 ^^^ 4294967295) x = crcF (s % 4294967296 ^^^ 4294967295) b := by
    have := congrArg (· ^^^ 4294967295) h
    simp only [xor_twice] at this
    exact this
  rw [crcF_val, crcF_val, hl, hv, ← Nat.xor_assoc, it_xor] at h1
  have h2 : it (8 * b.length) (2 ^ at_ * wd) = 0 := by
    have h3 := congrArg (· ^^^ it (8 * b.length) (s % 4294967296 ^^^ 4294967295 ^^^ val b)) h1
    simp only [Nat.xor_self] at h3
    rw [Nat.xor_comm, ← Nat.xor_assoc, Nat.xor_self, Nat.zero_xor] at h3
    exact h3
  rw [show 8 * b.length = at_ + (8 * b.length - at_) from by omega, it_add, it_pow] at h2
  exact it_ne _ wd hw hw0 h2

/-- Of three lists of one length the sums go together as their bits do. -/
theorem crc_linear (a b c x : List Nat) (hb : b.length = a.length) (hc : c.length = a.length) (hx : x.length = a.length) (hv : val x = val a ^^^ val b ^^^ val c) : crcSum x = crcSum a ^^^ crcSum b ^^^ crcSum c := by
  unfold crcSum crcMore
  rw [crcF_val, crcF_val, crcF_val, crcF_val, hb, hc, hx, hv]
  have e : (0 % 4294967296 ^^^ 4294967295 : Nat) = 4294967295 := by decide
  rw [e]
  simp only [it_xor]
  generalize it (8 * a.length) 4294967295 = p
  generalize it (8 * a.length) (val a) = q
  generalize it (8 * a.length) (val b) = r
  generalize it (8 * a.length) (val c) = t
  generalize (4294967295 : Nat) = f
  apply Nat.eq_of_testBit_eq
  intro i
  simp only [Nat.testBit_xor]
  cases p.testBit i <;> cases q.testBit i <;> cases r.testBit i <;> cases t.testBit i <;> cases f.testBit i <;> rfl

theorem crc_example : crcSum [49, 50, 51, 52, 53, 54, 55, 56, 57] = 3421780262 := by decide +kernel

end Go.Proofs.YtpieagcijfkpnaaDoor
