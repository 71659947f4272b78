/- The walk of CrcTurned. -/
import Derived.Test.YtojpdokkenghbaaDoorMoreW
namespace Go.Proofs.YtojpdokkenghbaaDoor
open Go.RowKit Go.ChangeShapes Go.WideShapes Go.ChangeAt Go.Deep

theorem bit_of (n : Int) (k : Nat) (hk : k < 32) : bits .and .i64 (n / 2 ^ k) 1 = ((s32 n / 2 ^ k % 2 : Nat) : Int) := by
  have h1 := i64_mask 1 (by decide) (n / 2 ^ k)
  have h2 : bits .and .i64 (n / 2 ^ k) 1 = n / 2 ^ k % 2 := h1
  rw [h2]
  have hp : (0 : Int) < 2 ^ k := Int.pow_pos (by decide)
  have hs := s32_cast n
  have e1 : n = (s32 n : Int) + 2 ^ k * (2 ^ (32 - k) * (n / 4294967296)) := by
    rw [← Int.mul_assoc, ← Int.pow_add, show k + (32 - k) = 32 from by omega, ← hs]
    have := Int.emod_add_mul_ediv n 4294967296
    omega
  have e2 : n / 2 ^ k = (s32 n : Int) / 2 ^ k + 2 ^ (32 - k) * (n / 4294967296) := by
    conv => lhs; rw [e1]
    exact Int.add_mul_ediv_left _ _ (by omega)
  have e3 : (2 : Int) ^ (32 - k) = 2 * 2 ^ (31 - k) := by
    rw [show 32 - k = (31 - k) + 1 from by omega, Int.pow_succ, Int.mul_comm]
  rw [e2, e3, Int.mul_assoc, Int.add_mul_emod_self_left]
  push_cast
  rfl

theorem two_pow_byte (A k : Nat) : 256 ^ ((A + k) / 8) * 2 ^ ((A + k) % 8) = 2 ^ (A + k) := by
  rw [show (256 : Nat) = 2 ^ 8 from rfl, ← Nat.pow_mul, ← Nat.pow_add]
  congr 1; omega

theorem mod_bit_one (n k : Nat) (h : n / 2 ^ k % 2 = 1) : n % 2 ^ (k + 1) = n % 2 ^ k ^^^ 2 ^ k := by
  apply Nat.eq_of_testBit_eq
  intro i
  rw [Nat.testBit_xor, Nat.testBit_mod_two_pow, Nat.testBit_mod_two_pow, Nat.testBit_two_pow]
  have hk : n.testBit k = true := by
    rw [Nat.testBit_eq_decide_div_mod_eq, h]; rfl
  by_cases h1 : i < k
  · simp [h1, show i < k + 1 from by omega, show ¬ k = i from by omega]
  · by_cases h2 : i = k
    · subst h2; simp [hk]
    · simp [h1, show ¬ i < k + 1 from by omega, show ¬ k = i from by omega]
theorem mod_bit_zero (n k : Nat) (h : n / 2 ^ k % 2 = 0) : n % 2 ^ (k + 1) = n % 2 ^ k := by
  apply Nat.eq_of_testBit_eq
  intro i
  rw [Nat.testBit_mod_two_pow, Nat.testBit_mod_two_pow]
  have hk : n.testBit k = false := by
    rw [Nat.testBit_eq_decide_div_mod_eq, h]; rfl
  by_cases h1 : i < k
  · simp [h1, show i < k + 1 from by omega]
  · by_cases h2 : i = k
    · subst h2; simp [hk]
    · simp [h1, show ¬ i < k + 1 from by omega]
theorem pow_mul_xor (A u v : Nat) : 2 ^ A * (u ^^^ v) = 2 ^ A * u ^^^ 2 ^ A * v := by
  have h := Nat.shiftLeft_xor_distrib (i := A) (a := u) (b := v)
  simpa [Nat.shiftLeft_eq, Nat.mul_comm] using h

/-- One bit more is turned. -/
theorem turn_val (xs b : List Nat) (A k n : Nat) (hj : (A + k) / 8 < xs.length) (hv : val xs = val b ^^^ 2 ^ A * (n % 2 ^ k)) (h : n / 2 ^ k % 2 = 1) :
    val (xs.set ((A + k) / 8) (xs[(A + k) / 8] ^^^ 2 ^ ((A + k) % 8))) = val b ^^^ 2 ^ A * (n % 2 ^ (k + 1)) := by
  rw [val_set xs _ _ hj, hv, two_pow_byte, mod_bit_one n k h, pow_mul_xor, ← Nat.pow_add, Nat.xor_assoc]

theorem own_cell {w : World} {B g n cap j : Nat} {zs : List Nat} (ho : w.ownsRow B 5 1 (.slice (some ⟨g, 0, none⟩) n cap) n (bV zs)) (hj : j < zs.length) :
    w.cell? ⟨g, j, none⟩ = some (.int .u8 (zs[j] : Nat)) := by
  have hl : zs.length = n := by have := ho.1; rw [bV_length] at this; omega
  rw [ho.cellAt j (by omega)]
  simp [bV, hj]

/-- A byte of one's own row is put. -/
theorem own_put {w : World} {B g n cap : Nat} {zs : List Nat} (ho : w.ownsRow B 5 1 (.slice (some ⟨g, 0, none⟩) n cap) n (bV zs)) (j y : Nat) :
    (w.setCell ⟨g, j, none⟩ (.int .u8 (y : Nat))).ownsRow B 5 1 (.slice (some ⟨g, 0, none⟩) n cap) n (bV (zs.set j y)) ∧ w.grownBy (w.setCell ⟨g, j, none⟩ (.int .u8 (y : Nat))) (some g) := by
  have h := ho.stored j (.int .u8 (y : Nat))
  refine ⟨?_, h.2⟩
  have e : (bV zs).set j (.int .u8 (y : Nat)) = bV (zs.set j y) := by simp [bV, List.map_set]
  rw [← e]; exact h.1

theorem xor_bit (x j : Nat) (hx : x < 256) (hj : j < 8) : bits .xor .u8 (x : Int) ((2 : Int) ^ j % 256) = ((x ^^^ 2 ^ j : Nat) : Int) ∧ x ^^^ 2 ^ j < 256 := by
  have hp : 2 ^ j < 256 := Nat.pow_lt_pow_right (by decide) hj
  have e : (2 : Int) ^ j % 256 = ((2 ^ j : Nat) : Int) := by
    have : ((2 ^ j : Nat) : Int) = (2 : Int) ^ j := by push_cast; rfl
    rw [← this]
    exact Int.emod_eq_of_lt (Int.natCast_nonneg _) (Int.ofNat_lt.2 hp)
  rw [e, u8_xor_nat _ _ hx hp]
  exact ⟨rfl, Nat.xor_lt_two_pow (n := 8) hx hp⟩

namespace crcTurned
set_option maxRecDepth 100000 in
set_option maxHeartbeats 400000 in
theorem bad (ab : Option Addr) (lb cb : Nat) (at_ by_ : Int) (w : World) (hT : Tab w) (hlb : lb ≤ cb) (hmb : cb ≤ maxLen)
    (h : lb < 8 ∨ 2000 < lb ∨ at_ < 0 ∨ 8 * (lb : Int) - 32 < at_ ∨ by_ % 4294967296 = 0) :
    Calls Tryd.prog 5 #[.slice ab lb cb, .int .i64 at_, .int .i64 by_] w fun e w' => e = .returned (.bool true) ∧ Below w.heap.size w w' := by
  have hmk := i64_mask32 by_
  have hlm : lb ≤ 9223372036854775807 := by unfold maxLen at hmb; omega
  clear hmb
  go_enter Tryd.func5, Tryd.ntmps5
  by_cases h1 : lb < 8
  · go_wp2_with (first | (go_at_call 8; go_must (refine (alive_any _ hT).mono ?_; rintro e w1 ⟨rfl, hb1⟩)))
    go_ret; exact ⟨rfl, hb1⟩
  by_cases h2 : 2000 < lb
  · go_wp2_with (first | (go_at_call 8; go_must (refine (alive_any _ hT).mono ?_; rintro e w1 ⟨rfl, hb1⟩)))
    go_ret; exact ⟨rfl, hb1⟩
  by_cases h3 : at_ < 0
  · go_wp2_with (first | (go_at_call 8; go_must (refine (alive_any _ hT).mono ?_; rintro e w1 ⟨rfl, hb1⟩)))
    go_ret; exact ⟨rfl, hb1⟩
  by_cases h4 : 8 * (lb : Int) - 32 < at_
  · go_wp2_with (first | (go_at_call 8; go_must (refine (alive_any _ hT).mono ?_; rintro e w1 ⟨rfl, hb1⟩)))
    go_ret; exact ⟨rfl, hb1⟩
  have h5 : by_ % 4294967296 = 0 := by omega
  rw [h5] at hmk
  go_wp2_with (first | (go_at_call 8; go_must (refine (alive_any _ hT).mono ?_; rintro e w1 ⟨rfl, hb1⟩)))
  go_ret; exact ⟨rfl, hb1⟩

set_option maxRecDepth 100000 in
set_option maxHeartbeats 1000000 in
theorem good (ab : Option Addr) (lb cb : Nat) (b : List Nat) (A : Nat) (by_ : Int) (w : World) (hT : Tab w)
    (hlb : b.length = lb) (hBb : Byt b) (hcb : lb ≤ cb) (hmb : cb ≤ maxLen) (hnb : ab = none → lb = 0 ∧ cb = 0) (hrb : Reads w ab (bV b))
    (h8 : 8 ≤ lb) (h2000 : lb ≤ 2000) (hA : A ≤ 8 * lb - 32) (hby : s32 by_ ≠ 0) :
    Calls Tryd.prog 5 #[.slice ab lb cb, .int .i64 (A : Nat), .int .i64 by_] w fun e w' => e = .returned (.bool true) ∧ Below w.heap.size w w' := by
  have hmk := i64_mask32 by_
  have hnz : ¬ by_ % 4294967296 = 0 := by have := s32_cast by_; omega
  have hnz' : (by_ % 4294967296 == 0) = false := by simpa using hnz
  have hi3 : (A : Int) ≤ 8 * (lb : Int) - 32 := by omega
  have HTY := hide (⟨hlb, hBb, ⟨hcb, hmb⟩, hnb, hrb⟩ : b.length = lb ∧ Byt b ∧ (lb ≤ cb ∧ cb ≤ maxLen) ∧ (ab = none → lb = 0 ∧ cb = 0) ∧ Reads w ab (bV b))
  clear hlb hBb hcb hmb hnb hrb
  go_enter Tryd.func5, Tryd.ntmps5
  go_wp2_with (first
    | (go_at_call 8; go_must (refine (alive_any _ hT).mono ?_; rintro e w1 ⟨rfl, hb1⟩; have HRB := hide (HTY.out.2.2.2.2.below hb1)))
    | (at_builtin; go_must (refine append_bytes rfl (.const (.slice none 0 0)) (.tmp 41) rfl w1.heap.size (.slice none 0 0) 0 [] rfl (World.ownsRow_nil _ _ _ _) ab lb cb b rfl HTY.out.2.2.2.1 HTY.out.1 HRB.out (by omega) (Nat.le_refl _) ?_; intro v2 w2 ho2 hg2 hnn; have hb2 : Below w.heap.size w w2 := hb1.trans ((below_of hg2).mono hb1.size); clear hnn)))
  rw [List.nil_append, Nat.zero_add] at ho2
  obtain ⟨a2, c2, rfl, hc2, hg⟩ := own_form ho2
  obtain ⟨g, rfl, hg1, hgs⟩ := hg (by omega)
  go_loopw [9] (fun i wr => ∃ (k : Nat) (xs : List Nat), k ≤ 32 ∧ i = .int .i64 (k : Nat) ∧ Hid (Byt xs) ∧ Hid (xs.length = lb) ∧ Hid (val xs = val b ^^^ 2 ^ A * (s32 by_ % 2 ^ k)) ∧ wr.ownsRow w1.heap.size 5 1 (.slice (some ⟨g, 0, none⟩) lb c2) lb (bV xs) ∧ Below w.heap.size w wr) (fun i _ => 32 - (intOf i).toNat)
  case atStart => exact ⟨0, b, by omega, rfl, hide HTY.out.2.1, hide HTY.out.1, hide (by simp [Nat.mod_one]), ho2, hb2⟩
  case round =>
    obtain ⟨k, xs, hk, rfl, hBx, hlx, hvx, ho, hbel⟩ := hrel
    by_cases hlt : k < 32
    · have hbit := bit_of by_ k hlt
      rcases Nat.mod_two_eq_zero_or_one (s32 by_ / 2 ^ k) with hd | hd
      · rw [hd] at hbit
        go_wp2
        go_roundw
        case rel => exact ⟨k + 1, xs, by omega, by go_num, hBx, hlx, hide (by rw [mod_bit_zero _ _ hd]; exact hvx.out), ho, hbel⟩
        case measure => simp [intOf]; omega
      · rw [hd] at hbit
        have hj : (A + k) / 8 < lb := by omega
        have hfr := ho.frozenAt ((A + k) / 8)
        have hjx : (A + k) / 8 < xs.length := by rw [hlx.out]; exact hj
        have hce := own_cell ho hjx
        have hx := hBx.out _ (List.getElem_mem hjx)
        have HV := hide (turn_val xs b A k _ hjx hvx.out hd)
        obtain ⟨x, hxe⟩ : ∃ x, x = xs[(A + k) / 8] := ⟨_, rfl⟩
        rw [← hxe] at hce hx HV
        clear hxe
        obtain ⟨hxo, hyl⟩ := xor_bit x ((A + k) % 8) hx (Nat.mod_lt _ (by decide))
        obtain ⟨y, hye⟩ : ∃ y, y = x ^^^ 2 ^ ((A + k) % 8) := ⟨_, rfl⟩
        rw [← hye] at hxo hyl HV
        clear hye
        have hput := own_put ho ((A + k) / 8) y
        have hsz := hbel.size
        have HP := hide hput
        have HZ := hide (show Below w.heap.size w (wr.setCell ⟨g, (A + k) / 8, none⟩ (.int .u8 (y : Nat))) from hbel.grown hput.2 hsz (fun q hq => by cases hq; exact Nat.le_trans hb1.size hg1))
        clear hput
        go_wp2
        go_roundw
        case rel => exact ⟨k + 1, xs.set ((A + k) / 8) y, by omega, by go_num, hide (fun z hz => by
            rcases List.mem_or_eq_of_mem_set hz with h | h
            · exact hBx.out z h
            · omega), hide (by rw [List.length_set]; exact hlx.out), HV, HP.out.1, HZ.out⟩
        case measure => simp [intOf]; omega
    · have hk32 : k = 32 := by omega
      subst hk32
      have hne : crcSum xs ≠ crcSum b := crc_turned 0 b xs (s32 by_) A (by rw [hlx.out, HTY.out.1]) (s32_lt by_) hby (by rw [HTY.out.1]; omega) (by have := hvx.out; rwa [Nat.mod_eq_of_lt (s32_lt by_)] at this)
      have hsz := hbel.size
      obtain ⟨ax, cx, mx, hxe, h1, h2, h3, h4⟩ := own_txt ho
      simp only [Value.slice.injEq] at hxe
      obtain ⟨rfl, rfl, rfl⟩ := hxe
      have C1 := sum_one wr wr.heap.size rfl _ _ _ xs h1.out h2.out.1 h2.out.2 h3.out hBx.out h4.out (hT.below hbel)
      have bel3 : Below w.heap.size w (wr.alloc (.cells #[.slice (some ⟨g, 0, none⟩) lb c2] 24)) := hbel.alloc hsz _
      have C2 := sum_one (wr.alloc (.cells #[.slice (some ⟨g, 0, none⟩) lb c2] 24)) (wr.heap.size + 1) (by simp) ab lb cb b HTY.out.1 HTY.out.2.2.1.1 HTY.out.2.2.1.2 HTY.out.2.2.2.1 HTY.out.2.1 (HTY.out.2.2.2.2.below bel3) (hT.below bel3)
      generalize crcSum xs = X at C1 hne
      generalize crcSum b = Y at C2 hne
      replace C1 := hide C1
      replace C2 := hide C2
      have hne' : ¬ ((X : Int) = (Y : Int)) := by omega
      go_wp2_with (first
        | (go_at_call 10; go_must (first
            | (with_reducible refine C1.out.mono ?_; rintro e w4 ⟨rfl, hw4⟩; subst w4)
            | (with_reducible refine C2.out.mono ?_; rintro e w4 ⟨rfl, hw4⟩; subst w4))))
      go_ret
      exact ⟨ret_bool (by simpa using hne'), bel3.alloc bel3.size _⟩

theorem walk (ab : Option Addr) (lb cb : Nat) (b : List Nat) (at_ by_ : Int) (w : World) (hT : Tab w)
    (hlb : b.length = lb) (hBb : Byt b) (hcb : lb ≤ cb) (hmb : cb ≤ maxLen) (hnb : ab = none → lb = 0 ∧ cb = 0) (hrb : Reads w ab (bV b))
    (_hat : -9223372036854775808 ≤ at_ ∧ at_ ≤ 9223372036854775807) (_hby : -9223372036854775808 ≤ by_ ∧ by_ ≤ 9223372036854775807) :
    Calls Tryd.prog 5 #[.slice ab lb cb, .int .i64 at_, .int .i64 by_] w fun e w' => e = .returned (.bool true) ∧ Below w.heap.size w w' := by
  by_cases h : lb < 8 ∨ 2000 < lb ∨ at_ < 0 ∨ 8 * (lb : Int) - 32 < at_ ∨ by_ % 4294967296 = 0
  · exact bad ab lb cb at_ by_ w hT hcb hmb h
  · obtain ⟨A, rfl⟩ : ∃ A : Nat, at_ = (A : Int) := ⟨at_.toNat, by omega⟩
    exact good ab lb cb b A by_ w hT hlb hBb hcb hmb hnb hrb (by omega) (by omega) (by omega) (by have := s32_cast by_; omega)
end crcTurned
end Go.Proofs.YtojpdokkenghbaaDoor
