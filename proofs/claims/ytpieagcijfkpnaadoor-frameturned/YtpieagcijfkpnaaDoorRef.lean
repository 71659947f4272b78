/- The document's own sums: gleanerref1.More and Sum. -/
import Derived.Test.YtpieagcijfkpnaaDoorMore
namespace Go.Proofs.YtpieagcijfkpnaaDoor
open Go.RowKit Go.ChangeShapes Go.WideShapes Go.ChangeAt Go.Deep

theorem i64_mask (m : Nat) (hm : m < 63) (n : Int) : bits .and .i64 n ((2 ^ m - 1 : Nat) : Int) = n % ((2 ^ m : Nat) : Int) := by
  have hle : 2 ^ m ≤ 2 ^ 62 := Nat.pow_le_pow_right (by decide) (by omega)
  have h1 : (BitVec.ofInt 64 ((2 ^ m - 1 : Nat) : Int)).toNat = 2 ^ m - 1 := by
    rw [BitVec.ofInt_natCast, BitVec.toNat_ofNat]; exact Nat.mod_eq_of_lt (by omega)
  have key : (BitVec.ofInt 64 n &&& BitVec.ofInt 64 ((2 ^ m - 1 : Nat) : Int)).toNat = (n % ((2 ^ 64 : Nat) : Int)).toNat % 2 ^ m := by
    rw [BitVec.toNat_and, BitVec.toNat_ofInt, h1, Nat.and_two_pow_sub_one_eq_mod]
  show IntKind.i64.wrap ((BitVec.ofInt 64 n &&& BitVec.ofInt 64 ((2 ^ m - 1 : Nat) : Int)).toNat : Nat) = _
  have hp : 0 < 2 ^ m := Nat.two_pow_pos m
  have hd : (2 ^ m) ∣ 2 ^ 64 := Nat.pow_dvd_pow 2 (by omega)
  have h2 : (((n % ((2 ^ 64 : Nat) : Int)).toNat % 2 ^ m : Nat) : Int) = n % ((2 ^ m : Nat) : Int) := by
    rw [Int.natCast_emod, Int.toNat_of_nonneg (Int.emod_nonneg _ (by decide))]
    exact Int.emod_emod_of_dvd n (Int.natCast_dvd_natCast.2 hd)
  have h3 : (n % ((2 ^ 64 : Nat) : Int)).toNat % 2 ^ m < 2 ^ m := Nat.mod_lt _ hp
  rw [key, IntKind.wrap_i64, h2]
  have h4 : n % ((2 ^ m : Nat) : Int) < ((2 ^ m : Nat) : Int) := Int.emod_lt_of_pos _ (by omega)
  have h5 : 0 ≤ n % ((2 ^ m : Nat) : Int) := Int.emod_nonneg _ (by omega)
  omega
theorem i64_mask32 (n : Int) : bits .and .i64 n 4294967295 = n % 4294967296 := i64_mask 32 (by decide) n

theorem bit_low (c : Nat) (h : c < 4294967296) : bits .and .u32 (c : Int) 1 = ((c % 2 : Nat) : Int) := by
  rw [show (1 : Int) = ((1 : Nat) : Int) from rfl, u32_and_nat c 1 h (by omega), nat_mask1]
theorem bit_poly (c : Nat) (h : c < 4294967296) : bits .xor .u32 ((c : Int) / 2) 3988292384 = ((c / 2 ^^^ 3988292384 : Nat) : Int) := by
  rw [show (c : Int) / 2 = ((c / 2 : Nat) : Int) from by omega, show (3988292384 : Int) = ((3988292384 : Nat) : Int) from rfl, u32_xor_nat _ _ (by omega) (by omega)]
theorem it_succ (k c : Nat) : it (k + 1) c = sb (it k c) := by rw [it_add]; rfl
theorem crcF_take8 (c : Nat) (bs : List Nat) (k : Nat) (h : k < bs.length) : crcF c (bs.take (k + 1)) = it 8 (crcF c (bs.take k) ^^^ bs[k]) := by
  rw [List.take_succ_eq_append_getElem h, crcF_append]
  rfl
theorem ref_start (n : Int) : bits .xor .u32 (n % 4294967296) 4294967295 = ((s32 n % 4294967296 ^^^ 4294967295 : Nat) : Int) := by
  rw [s32_cast, show (4294967295 : Int) = ((4294967295 : Nat) : Int) from rfl, u32_xor_nat _ _ (s32_lt n) (by omega), Nat.mod_eq_of_lt (s32_lt n)]
theorem ref_end (c : Nat) (h : c < 4294967296) : bits .xor .u32 (c : Int) 4294967295 = ((c ^^^ 4294967295 : Nat) : Int) := by
  rw [show (4294967295 : Int) = ((4294967295 : Nat) : Int) from rfl, u32_xor_nat _ _ h (by omega)]

set_option maxRecDepth 100000 in
set_option maxHeartbeats 400000 in
/-- What gleanerref1.More answers. -/
theorem rmore_any (n : Int) (a : Option Addr) (len cap : Nat) (bs : List Nat) (w : World) (hl : bs.length = len) (hlen : len ≤ 9223372036854775807) (hB : Byt bs) (hr : Reads w a (bV bs)) :
    Calls Tryd.prog 41 #[.int .i64 n, .slice a len cap] w fun e w' => e = .returned (.int .i64 (crcMore (s32 n) bs : Nat)) ∧ w' = w := by
  have hm := i64_mask32 n
  have hst := ref_start n
  have hcl : s32 n % 4294967296 ^^^ 4294967295 < 4294967296 := xor_all_lt _ (by omega)
  obtain ⟨c, hce⟩ : ∃ c, c = s32 n % 4294967296 ^^^ 4294967295 := ⟨_, rfl⟩
  have HM := hide (show crcMore (s32 n) bs = crcF c bs ^^^ 4294967295 by rw [hce]; rfl)
  rw [← hce] at hst hcl
  clear hce
  go_enter Tryd.func41, Tryd.ntmps41
  go_wp2
  go_loopw [5, 6] (fun v i wr => wr = w ∧ ∃ k : Nat, k ≤ len ∧ i = .int .i64 (k : Nat) ∧ v = .int .u32 (crcF c (bs.take k) : Nat)) (fun _ i _ => len - (intOf i).toNat)
  case atStart => exact ⟨rfl, 0, Nat.zero_le _, rfl, rfl⟩
  case round =>
    obtain ⟨rfl, k, hk, rfl, rfl⟩ := hrel
    by_cases hlt : k < len
    · have hkn : k < bs.length := by omega
      obtain ⟨b, off, har, hcell⟩ := reads_byte hr hkn
      subst har
      have hx := hB bs[k] (List.getElem_mem _)
      have HS := hide (crcF_take8 c bs k hkn)
      have hc0 := crcF_lt c (bs.take k) hcl (fun x hx => hB x (List.mem_of_mem_take hx))
      obtain ⟨x, hxe⟩ : ∃ x, x = bs[k] := ⟨_, rfl⟩
      rw [← hxe] at hx HS hcell
      clear hxe
      obtain ⟨c0, hce⟩ : ∃ c0, c0 = crcF c (bs.take k) := ⟨_, rfl⟩
      rw [← hce] at HS hc0 ⊢
      clear hce
      have h1 := u32_xor_nat c0 x hc0 (by omega)
      have h1l : c0 ^^^ x < 4294967296 := Nat.xor_lt_two_pow (n := 32) hc0 (by omega)
      obtain ⟨c1, hce⟩ : ∃ c1, c1 = c0 ^^^ x := ⟨_, rfl⟩
      rw [← hce] at HS h1 h1l
      clear hce
      go_wp2
      go_loopw [5, 7] (fun v i wq => wq = wr ∧ ∃ j : Nat, j ≤ 8 ∧ i = .int .i64 (j : Nat) ∧ v = .int .u32 (it j c1 : Nat)) (fun _ i _ => 8 - (intOf i).toNat)
      case atStart => exact ⟨rfl, 0, Nat.zero_le _, rfl, rfl⟩
      case round =>
        obtain ⟨rfl, j, hj, rfl, rfl⟩ := hrel
        by_cases hj8 : j < 8
        · have HI := hide (it_succ j c1)
          have hdl := it_lt j c1 h1l
          obtain ⟨d, hde⟩ : ∃ d, d = it j c1 := ⟨_, rfl⟩
          rw [← hde] at HI hdl ⊢
          clear hde
          have g1 := bit_low d hdl
          have g2 := bit_poly d hdl
          rcases Nat.mod_two_eq_zero_or_one d with hd | hd
          · rw [hd] at g1
            have HZ := hide (show it (j + 1) c1 = d / 2 by rw [HI.out]; unfold sb; rw [if_neg (by omega)])
            clear HI
            go_wp2
            go_roundw
            case rel => exact ⟨trivial, j + 1, by omega, by go_num, by rw [HZ.out]; simp⟩
            case measure => simp [intOf]; omega
          · rw [hd] at g1
            have HZ := hide (show it (j + 1) c1 = d / 2 ^^^ 3988292384 by rw [HI.out]; unfold sb; rw [if_pos hd])
            clear HI
            go_wp2
            go_roundw
            case rel => exact ⟨trivial, j + 1, by omega, by go_num, by rw [HZ.out]⟩
            case measure => simp [intOf]; omega
        · have hj' : j = 8 := by omega
          subst hj'
          go_wp2
          go_roundw
          case rel => exact ⟨trivial, k + 1, by omega, by go_num, by rw [HS.out]⟩
          case measure => simp [intOf]; omega
    · have e : bs.take k = bs := List.take_of_length_le (by omega)
      rw [e]
      have hc0 := crcF_lt c bs hcl hB
      obtain ⟨c0, hce⟩ : ∃ c0, c0 = crcF c bs := ⟨_, rfl⟩
      rw [← hce] at HM hc0 ⊢
      have hn := ref_end c0 hc0
      have hm := xor_all_lt c0 hc0
      obtain ⟨m, hme⟩ : ∃ m, m = c0 ^^^ 4294967295 := ⟨_, rfl⟩
      rw [← hme] at HM hm hn
      clear hme hce
      go_wp2
      go_ret
      exact ⟨ret_int (by rw [HM.out]), rfl⟩

set_option maxRecDepth 100000 in
set_option maxHeartbeats 400000 in
/-- What gleanerref1.Sum answers. -/
theorem rsum_any (a : Option Addr) (len cap : Nat) (bs : List Nat) (w : World) (hl : bs.length = len) (hlen : len ≤ 9223372036854775807) (hB : Byt bs) (hr : Reads w a (bV bs)) :
    Calls Tryd.prog 36 #[.slice a len cap] w fun e w' => e = .returned (.int .i64 (crcSum bs : Nat)) ∧ w' = w := by
  go_enter Tryd.func36, Tryd.ntmps36
  go_wp2_with (go_at_call 41; go_must (refine (rmore_any 0 a len cap bs _ hl hlen hB hr).mono ?_; rintro e w1 ⟨rfl, rfl⟩))
  go_ret
  exact ⟨rfl, rfl⟩
end Go.Proofs.YtpieagcijfkpnaaDoor
