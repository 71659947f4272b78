/- The walk of FrameTurned. -/
import Derived.Test.YtpieagcijfkpnaaDoorCutsW
namespace Go.Proofs.YtpieagcijfkpnaaDoor
open Go.RowKit Go.ChangeShapes Go.WideShapes Go.ChangeAt Go.Deep

theorem bit_of (n : Int) (k : Nat) (hk : k < 32) : bits .and .i64 (n / 2 ^ k) 1 = ((s32 n / 2 ^ k % 2 : Nat) : Int) := by
  have h1 := i64_mask 1 (by decide) (n / 2 ^ k)
  have h2 : bits .and .i64 (n / 2 ^ k) 1 = n / 2 ^ k % 2 := h1
  rw [h2]
  have hp : (0 : Int) < 2 ^ k := Int.pow_pos (by decide)
  have hs := s32_cast n
  have e1 : n = (s32 n : Int) + 2 ^ k * (2 ^ (32 - k) * (n / 4294967296)) := by
    rw [← Int.mul_assoc, ← Int.pow_add, show k + (32 - k) = 32 from by omega, ← hs]
    have := Int.emod_add_mul_ediv n 4294967296
    omega
  have e2 : n / 2 ^ k = (s32 n : Int) / 2 ^ k + 2 ^ (32 - k) * (n / 4294967296) := by
    conv => lhs; rw [e1]
    exact Int.add_mul_ediv_left _ _ (by omega)
  have e3 : (2 : Int) ^ (32 - k) = 2 * 2 ^ (31 - k) := by
    rw [show 32 - k = (31 - k) + 1 from by omega, Int.pow_succ, Int.mul_comm]
  rw [e2, e3, Int.mul_assoc, Int.add_mul_emod_self_left]
  push_cast
  rfl

theorem two_pow_byte (A k : Nat) : 256 ^ ((A + k) / 8) * 2 ^ ((A + k) % 8) = 2 ^ (A + k) := by
  rw [show (256 : Nat) = 2 ^ 8 from rfl, ← Nat.pow_mul, ← Nat.pow_add]
  congr 1; omega

theorem mod_bit_one (n k : Nat) (h : n / 2 ^ k % 2 = 1) : n % 2 ^ (k + 1) = n % 2 ^ k ^^^ 2 ^ k := by
  apply Nat.eq_of_testBit_eq
  intro i
  rw [Nat.testBit_xor, Nat.testBit_mod_two_pow, Nat.testBit_mod_two_pow, Nat.testBit_two_pow]
  have hk : n.testBit k = true := by
    rw [Nat.testBit_eq_decide_div_mod_eq, h]; rfl
  by_cases h1 : i < k
  · simp [h1, show i < k + 1 from by omega, show ¬ k = i from by omega]
  · by_cases h2 : i = k
    · subst h2; simp [hk]
    · simp [h1, show ¬ i < k + 1 from by omega, show ¬ k = i from by omega]
theorem mod_bit_zero (n k : Nat) (h : n / 2 ^ k % 2 = 0) : n % 2 ^ (k + 1) = n % 2 ^ k := by
  apply Nat.eq_of_testBit_eq
  intro i
  rw [Nat.testBit_mod_two_pow, Nat.testBit_mod_two_pow]
  have hk : n.testBit k = false := by
    rw [Nat.testBit_eq_decide_div_mod_eq, h]; rfl
  by_cases h1 : i < k
  · simp [h1, show i < k + 1 from by omega]
  · by_cases h2 : i = k
    · subst h2; simp [hk]
    · simp [h1, show ¬ i < k + 1 from by omega]
theorem pow_mul_xor (A u v : Nat) : 2 ^ A * (u ^^^ v) = 2 ^ A * u ^^^ 2 ^ A * v := by
  have h := Nat.shiftLeft_xor_distrib (i := A) (a := u) (b := v)
  simpa [Nat.shiftLeft_eq, Nat.mul_comm] using h

/-- One bit more is turned. -/
theorem turn_val (xs b : List Nat) (A k n : Nat) (hj : (A + k) / 8 < xs.length) (hv : val xs = val b ^^^ 2 ^ A * (n % 2 ^ k)) (h : n / 2 ^ k % 2 = 1) :
    val (xs.set ((A + k) / 8) (xs[(A + k) / 8] ^^^ 2 ^ ((A + k) % 8))) = val b ^^^ 2 ^ A * (n % 2 ^ (k + 1)) := by
  rw [val_set xs _ _ hj, hv, two_pow_byte, mod_bit_one n k h, pow_mul_xor, ← Nat.pow_add, Nat.xor_assoc]

theorem xor_bit (x j : Nat) (hx : x < 256) (hj : j < 8) : bits .xor .u8 (x : Int) ((2 : Int) ^ j % 256) = ((x ^^^ 2 ^ j : Nat) : Int) ∧ x ^^^ 2 ^ j < 256 := by
  have hp : 2 ^ j < 256 := Nat.pow_lt_pow_right (by decide) hj
  have e : (2 : Int) ^ j % 256 = ((2 ^ j : Nat) : Int) := by
    have : ((2 ^ j : Nat) : Int) = (2 : Int) ^ j := by push_cast; rfl
    rw [← this]
    exact Int.emod_eq_of_lt (Int.natCast_nonneg _) (Int.ofNat_lt.2 hp)
  rw [e, u8_xor_nat _ _ hx hp]
  exact ⟨rfl, Nat.xor_lt_two_pow (n := 8) hx hp⟩


theorem turn_place (A m : Nat) (hm : 4 < m) : ∃ K : Nat, (A : Int) % (8 * (m : Int) - 31) = (K : Int) ∧ K + 32 ≤ 8 * m := by
  refine ⟨A % (8 * m - 31), ?_, ?_⟩
  · rw [Int.natCast_emod, show ((8 * m - 31 : Nat) : Int) = 8 * (m : Int) - 31 from by omega]
  · have := Nat.mod_lt A (show 0 < 8 * m - 31 by omega)
    omega

namespace frameTurned
set_option maxRecDepth 100000 in
set_option maxHeartbeats 1000000 in
/-- Where nothing is asked. -/
theorem no (f : Fr) (a : Option Addr) (l c : Nat) (at_ by_ : Int) (w : World) (hT : Tab w) (hl : f.load.length = l) (hlm : l ≤ 9223372036854775807) (hw : wrongL f ≠ 0) :
    Calls Tryd.prog 5 #[f.val a l c, .int .i64 at_, .int .i64 by_] w fun e w' => e = .returned (.bool true) ∧ Below w.heap.size w w' := by
  have CR := hide (fun W => rpack_no f a l c W hl hlm hw)
  obtain ⟨f1, f2, f3, f4, f5, ld⟩ := f
  simp only [Fr.val] at CR ⊢
  generalize wrongL ⟨f1, f2, f3, f4, f5, ld⟩ = e0 at CR hw
  have he : ((e0 : Int) == 0) = false := by rw [beq_eq_false_iff_ne]; omega
  have he2 : ((e0 : Int) != 0) = true := by simp [bne, he]
  have HX := hide (BoxF.new w f1 f2 f3 f4 f5 a l c)
  obtain ⟨V, hV⟩ : ∃ V, V = w.alloc (.cells #[.int .i64 f1, .int .i64 f2, .int .i64 f3, .int .i64 f4, .int .i64 f5, .slice a l c] 24) := ⟨_, rfl⟩
  have HWV := hide (show Below w.heap.size w V by rw [hV]; exact (Below.refl _ _).alloc (Nat.le_refl _) _)
  rw [← hV] at HX
  have HV := hide hV
  clear hV hl
  go_enter Tryd.func5, Tryd.ntmps5
  go_wp2_with (first
    | (go_at_call 8; go_must (rw [← HV.out]; (with_reducible refine (alive_any V (hT.below HWV.out)).mono ?_); rintro e w1 ⟨rfl, hb1⟩; obtain ⟨k0, k1, k2, k3, k4, k5⟩ := HX.out.below hb1))
    | (go_at_call 10; go_must ((with_reducible refine (CR.out w1).mono ?_); rintro e w2 ⟨rfl, hb2⟩)))
  go_ret
  have B1 := HWV.out.trans (hb1.mono HWV.out.size)
  exact ⟨rfl, B1.trans (hb2.mono B1.size)⟩

set_option maxRecDepth 100000 in
set_option maxHeartbeats 1000000 in
theorem none5 (f : Fr) (a : Option Addr) (l c : Nat) (at_ by_ : Int) (w : World) (hT : Tab w) (hok : Txt.ok w ⟨a, l, c, f.load⟩) (hw : wrongL f = 0) (h : at_ < 0 ∨ by_ % 4294967296 = 0) :
    Calls Tryd.prog 5 #[f.val a l c, .int .i64 at_, .int .i64 by_] w fun e w' => e = .returned (.bool true) ∧ Below w.heap.size w w' := by
  have CR := hide (fun W (hb : Below w.heap.size w W) => rpackQ f a l c W (hok.below hb) hw)
  have hmk := i64_mask32 by_
  obtain ⟨f1, f2, f3, f4, f5, ld⟩ := f
  simp only [Fr.val] at CR ⊢
  have HX := hide (BoxF.new w f1 f2 f3 f4 f5 a l c)
  obtain ⟨V, hV⟩ : ∃ V, V = w.alloc (.cells #[.int .i64 f1, .int .i64 f2, .int .i64 f3, .int .i64 f4, .int .i64 f5, .slice a l c] 24) := ⟨_, rfl⟩
  have HWV := hide (show Below w.heap.size w V by rw [hV]; exact (Below.refl _ _).alloc (Nat.le_refl _) _)
  rw [← hV] at HX
  have HV := hide hV
  clear hV hok
  by_cases h1 : at_ < 0
  · go_enter Tryd.func5, Tryd.ntmps5
    go_wp2_with (first
      | (go_at_call 8; go_must (rw [← HV.out]; (with_reducible refine (alive_any V (hT.below HWV.out)).mono ?_); rintro e w1 ⟨rfl, hb1⟩; obtain ⟨k0, k1, k2, k3, k4, k5⟩ := HX.out.below hb1; have HB1 := hide (HWV.out.trans (hb1.mono HWV.out.size))))
      | (go_at_call 10; go_must ((with_reducible refine (CR.out w1 HB1.out).mono ?_); rintro e w2 ⟨q2, m2, p2, rfl, ho2, hb2⟩)))
    go_ret
    exact ⟨rfl, HB1.out.trans (hb2.mono HB1.out.size)⟩
  · have h5 : by_ % 4294967296 = 0 := by omega
    rw [h5] at hmk
    clear h h5
    go_enter Tryd.func5, Tryd.ntmps5
    go_wp2_with (first
      | (go_at_call 8; go_must (rw [← HV.out]; (with_reducible refine (alive_any V (hT.below HWV.out)).mono ?_); rintro e w1 ⟨rfl, hb1⟩; obtain ⟨k0, k1, k2, k3, k4, k5⟩ := HX.out.below hb1; have HB1 := hide (HWV.out.trans (hb1.mono HWV.out.size))))
      | (go_at_call 10; go_must ((with_reducible refine (CR.out w1 HB1.out).mono ?_); rintro e w2 ⟨q2, m2, p2, rfl, ho2, hb2⟩)))
    go_ret
    exact ⟨rfl, HB1.out.trans (hb2.mono HB1.out.size)⟩

set_option maxRecDepth 100000 in
set_option maxHeartbeats 2000000 in
theorem good (f : Fr) (a : Option Addr) (l c A : Nat) (by_ : Int) (w : World) (hT : Tab w) (hok : Txt.ok w ⟨a, l, c, f.load⟩) (hw : wrongL f = 0) (hAm : A ≤ 9223372036854775807) (hby : s32 by_ ≠ 0) :
    Calls Tryd.prog 5 #[f.val a l c, .int .i64 (A : Nat), .int .i64 by_] w fun e w' => e = .returned (.bool true) ∧ Below w.heap.size w w' := by
  have CR := hide (fun W (hb : Below w.heap.size w W) => rpackQ f a l c W (hok.below hb) hw)
  have HB := hide (body_byt hw hok.2.1)
  have HZl := hide (show (sealL (bodyL f)).length ≤ 10000 ∧ 4 < (sealL (bodyL f)).length by
    have hel := encs_length f.nums
    have h10 := enc_len (foldN (f.load.length : Int))
    have := (wrong_nought hw).2.2.2.2.2
    rw [seal_len]; simp only [bodyL, encFr, encT, Fr.nums, List.length_append, List.length_cons, List.length_nil] at hel ⊢; omega)
  have HTU := hide (fun (x : List Nat) (k : Nat) (hx : Byt x) (hl : x.length = (sealL (bodyL f)).length) (hk : k ≤ 8 * (sealL (bodyL f)).length) (hv : val x = val (sealL (bodyL f)) ^^^ 2 ^ k * s32 by_) => read_turned HB.out hx hl (s32_lt by_) hby hk hv)
  have HBZ := hide (seal_byt HB.out)
  have hmk := i64_mask32 by_
  have hnz : ¬ by_ % 4294967296 = 0 := by have := s32_cast by_; omega
  have hnz' : (by_ % 4294967296 == 0) = false := by simpa using hnz
  generalize sealL (bodyL f) = Z at CR HZl HTU HBZ
  obtain ⟨f1, f2, f3, f4, f5, ld⟩ := f
  simp only [Fr.val] at CR ⊢
  have HX := hide (BoxF.new w f1 f2 f3 f4 f5 a l c)
  obtain ⟨V, hV⟩ : ∃ V, V = w.alloc (.cells #[.int .i64 f1, .int .i64 f2, .int .i64 f3, .int .i64 f4, .int .i64 f5, .slice a l c] 24) := ⟨_, rfl⟩
  have HWV := hide (show Below w.heap.size w V by rw [hV]; exact (Below.refl _ _).alloc (Nat.le_refl _) _)
  rw [← hV] at HX
  have HV := hide hV
  clear hV hok
  have hA : ¬ ((A : Int) < 0) := by omega
  go_enter Tryd.func5, Tryd.ntmps5
  go_wp2_with (first
    | (go_at_call 8; go_must (rw [← HV.out]; (with_reducible refine (alive_any V (hT.below HWV.out)).mono ?_); rintro e w1 ⟨rfl, hb1⟩; obtain ⟨k0, k1, k2, k3, k4, k5⟩ := HX.out.below hb1; have HB1 := hide (HWV.out.trans (hb1.mono HWV.out.size))))
    | (go_at_call 10; go_must ((with_reducible refine (CR.out w1 HB1.out).mono ?_); rintro e w2 ⟨q2, m2, p2, rfl, ho2, hb2⟩; have HB2 := hide (HB1.out.trans (hb2.mono HB1.out.size)); have hm2 : m2 ≤ 10000 := (Nat.le_trans (Nat.le_of_eq ho2.len.symm) HZl.out.1); have hm0 : 4 < m2 := (Nat.lt_of_lt_of_eq HZl.out.2 ho2.len); have HO2 := hide ho2; clear ho2; obtain ⟨K, hKe, hKl⟩ : ∃ K : Nat, (A : Int) % (8 * (m2 : Int) - 31) = (K : Int) ∧ K + 32 ≤ 8 * m2 := (turn_place A m2 hm0); have HKl := hide hKl; clear hKl)))
  go_loopw [11] (fun i wr => ∃ (k : Nat) (xs : List Nat), k ≤ 32 ∧ i = .int .i64 (k : Nat) ∧ Hid (Byt xs) ∧ Hid (xs.length = m2) ∧ Hid (val xs = val Z ^^^ 2 ^ K * (s32 by_ % 2 ^ k)) ∧ Hid (OwnB wr w1.heap.size q2 m2 p2 xs) ∧ Below w.heap.size w wr) (fun i _ => 32 - (intOf i).toNat)
  case atStart => exact ⟨0, Z, by omega, rfl, HBZ, hide HO2.out.len, hide (by simp [Nat.mod_one]), HO2, HB2.out⟩
  case round =>
    obtain ⟨k, xs, hk, rfl, hBx, hlx, hvx, hox, hbel⟩ := hrel
    have ho : wr.ownsRow w1.heap.size 5 1 (.slice (some ⟨q2, 0, none⟩) m2 p2) m2 (bV xs) := hox.out
    have hKm := HKl.out
    by_cases hlt : k < 32
    · have hbit := bit_of by_ k hlt
      rcases Nat.mod_two_eq_zero_or_one (s32 by_ / 2 ^ k) with hd | hd
      · rw [hd] at hbit
        clear ho
        go_wp2
        go_roundw
        case rel => exact ⟨k + 1, xs, by omega, by go_num, hBx, hlx, hide (by rw [mod_bit_zero _ _ hd]; exact hvx.out), hox, hbel⟩
        case measure => simp [intOf]; omega
      · rw [hd] at hbit
        have hj : (K + k) / 8 < m2 := by omega
        have hfr := ho.frozenAt ((K + k) / 8)
        have hjx : (K + k) / 8 < xs.length := by rw [hlx.out]; exact hj
        have hce := own_cell ho hjx
        have hx := hBx.out _ (List.getElem_mem hjx)
        have HV2 := hide (turn_val xs Z K k _ hjx hvx.out hd)
        obtain ⟨x, hxe⟩ : ∃ x, x = xs[(K + k) / 8] := ⟨_, rfl⟩
        rw [← hxe] at hce hx HV2
        clear hxe
        obtain ⟨hxo, hyl⟩ := xor_bit x ((K + k) % 8) hx (Nat.mod_lt _ (by decide))
        obtain ⟨y, hye⟩ : ∃ y, y = x ^^^ 2 ^ ((K + k) % 8) := ⟨_, rfl⟩
        rw [← hye] at hxo hyl HV2
        clear hye
        have hput := own_put ho ((K + k) / 8) y
        have hsz := hbel.size
        have HP := hide (show OwnB (wr.setCell ⟨q2, (K + k) / 8, none⟩ (.int .u8 (y : Nat))) w1.heap.size q2 m2 p2 (xs.set ((K + k) / 8) y) from hput.1)
        have HZ := hide (show Below w.heap.size w (wr.setCell ⟨q2, (K + k) / 8, none⟩ (.int .u8 (y : Nat))) from hbel.grown hput.2 hsz (fun q hq => by cases hq; exact Nat.le_trans HB1.out.size hox.out.cap.2.2.1))
        clear hput ho
        go_wp2
        go_roundw
        case rel => exact ⟨k + 1, xs.set ((K + k) / 8) y, by omega, by go_num, hide (fun z hz => by
            rcases List.mem_or_eq_of_mem_set hz with h | h
            · exact hBx.out z h
            · omega), hide (by rw [List.length_set]; exact hlx.out), HV2, HP, HZ.out⟩
        case measure => simp [intOf]; omega
    · have hk32 : k = 32 := by omega
      subst hk32
      clear ho
      have HE := hide (HTU.out xs K hBx.out (by rw [hlx.out, HO2.out.len]) (by rw [HO2.out.len]; omega) (by have := hvx.out; rwa [Nat.mod_eq_of_lt (s32_lt by_)] at this))
      go_wp2_with (first
        | (go_at_call 12; go_must ((with_reducible refine (read_err (bs := xs) hlx.out (by omega) hox.out.cap.1 hox.out.cap.2.1 hBx.out hox.out.reads (hT.below hbel) HE.out).mono ?_); rintro e w3 ⟨a3, l3, c3, e3, rfl, he3, hl3, hr3, hb3⟩; have he31 : ((e3 : Int) == 0) = false := (by rw [beq_eq_false_iff_ne]; omega); have he32 : ((e3 : Int) != 0) = true := (by simp [bne, he31]); have HB3 := hide (hbel.trans (hb3.mono hbel.size))))
        | (go_at_call 11; go_must ((with_reducible refine (lnum_any _ _).mono ?_); rintro e w4 ⟨rfl, rfl⟩))
        | (go_at_call 13; go_must (refine (same_yes fr0 a3 none l3 c3 0 0 _ hl3.out rfl (hr3.out.below ((Below.refl _ _).alloc (Nat.le_refl _) _)) (.inl rfl)).mono ?_; rintro e w5 ⟨rfl, hb5⟩)))
      go_ret
      exact ⟨rfl, (HB3.out.alloc HB3.out.size _).trans (hb5.mono (by simp; exact Nat.le_succ_of_le HB3.out.size))⟩

theorem walk (f : Fr) (a : Option Addr) (l c : Nat) (at_ by_ : Int) (w : World) (hT : Tab w) (hok : Txt.ok w ⟨a, l, c, f.load⟩) (hat : -9223372036854775808 ≤ at_ ∧ at_ ≤ 9223372036854775807) (_hby : -9223372036854775808 ≤ by_ ∧ by_ ≤ 9223372036854775807) :
    Calls Tryd.prog 5 #[f.val a l c, .int .i64 at_, .int .i64 by_] w fun e w' => e = .returned (.bool true) ∧ Below w.heap.size w w' := by
  have hl : f.load.length = l := hok.1
  have hlm : l ≤ 9223372036854775807 := by
    have h1 : l ≤ c ∧ c ≤ maxLen := hok.2.2.1
    have := h1.2
    unfold maxLen at this
    omega
  by_cases hw : wrongL f = 0
  · by_cases h : at_ < 0 ∨ by_ % 4294967296 = 0
    · exact none5 f a l c at_ by_ w hT hok hw h
    · obtain ⟨A, rfl⟩ : ∃ A : Nat, at_ = (A : Int) := ⟨at_.toNat, by omega⟩
      exact good f a l c A by_ w hT hok hw (by omega) (by have := s32_cast by_; omega)
  · exact no f a l c at_ by_ w hT hl hlm hw
end frameTurned
end Go.Proofs.YtpieagcijfkpnaaDoor
