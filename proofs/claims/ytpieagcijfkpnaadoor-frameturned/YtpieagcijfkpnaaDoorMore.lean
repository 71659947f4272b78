/- crc.More and crc.Sum: the sums, by any lists of bytes. -/
import Derived.Test.YtpieagcijfkpnaaDoorThru
namespace Go.Proofs.YtpieagcijfkpnaaDoor
open Go.RowKit Go.ChangeShapes Go.WideShapes Go.ChangeAt Go.Deep

/-- The lowest 32 bits of a number. -/
def s32 (n : Int) : Nat := (n % 4294967296).toNat
/-- All bytes of texts, one behind the other. -/
def flat (ts : List Txt) : List Nat := ts.flatMap fun t => t.bs

theorem flat_snoc (ts : List Txt) (k : Nat) (h : k < ts.length) : flat (ts.take (k + 1)) = flat (ts.take k) ++ ts[k].bs := by
  unfold flat
  rw [List.take_succ_eq_append_getElem h, List.flatMap_append, List.flatMap_singleton]
theorem flat_byt (ts : List Txt) (h : ∀ t ∈ ts, Byt t.bs) : Byt (flat ts) := by
  intro x hx
  simp only [flat, List.mem_flatMap] at hx
  obtain ⟨t, ht, hx⟩ := hx
  exact h t ht x hx

theorem s32_lt (n : Int) : s32 n < 4294967296 := by unfold s32; omega
theorem s32_cast (n : Int) : n % 4294967296 = ((s32 n : Nat) : Int) := by unfold s32; omega
theorem not32 (c : Nat) (h : c < 4294967296) : bits .xor .u32 IntKind.u32.max (c : Int) = ((c ^^^ 4294967295 : Nat) : Int) := by
  rw [show IntKind.u32.max = ((4294967295 : Nat) : Int) from rfl, u32_xor_nat _ _ (by omega) h, Nat.xor_comm]
theorem start32 (n : Int) : bits .xor .u32 IntKind.u32.max (n % 4294967296) = ((s32 n % 4294967296 ^^^ 4294967295 : Nat) : Int) := by
  rw [s32_cast, not32 _ (s32_lt n), Nat.mod_eq_of_lt (s32_lt n)]

set_option maxRecDepth 100000 in
set_option maxHeartbeats 400000 in
/-- What crc.More answers. -/
theorem more_any (n : Int) (a : Option Addr) (len cap : Nat) (ts : List Txt) (w : World) (hl : ts.length = len) (hlen : len ≤ 9223372036854775807) (hok : ∀ t ∈ ts, t.ok w) (hr : Reads w a (sV ts)) (hT : Tab w) :
    Calls Tryd.prog 40 #[.int .i64 n, .slice a len cap] w fun e w' => e = .returned (.int .i64 (crcMore (s32 n) (flat ts) : Nat)) ∧ w' = w := by
  have hst := start32 n
  have hcl : s32 n % 4294967296 ^^^ 4294967295 < 4294967296 := xor_all_lt _ (by omega)
  obtain ⟨c, hce⟩ : ∃ c, c = s32 n % 4294967296 ^^^ 4294967295 := ⟨_, rfl⟩
  have HM := hide (show crcMore (s32 n) (flat ts) = crcF c (flat ts) ^^^ 4294967295 by rw [hce]; rfl)
  rw [← hce] at hst hcl
  clear hce
  go_enter Tryd.func40, Tryd.ntmps40
  go_wp2
  go_loopw [5, 13] (fun v i wr => wr = w ∧ ∃ k : Nat, k ≤ len ∧ i = .int .i64 (k : Nat) ∧ v = .int .u32 (crcF c (flat (ts.take k)) : Nat)) (fun _ i _ => len - (intOf i).toNat)
  case atStart => exact ⟨rfl, 0, Nat.zero_le _, rfl, rfl⟩
  case round =>
    obtain ⟨rfl, k, hk, rfl, rfl⟩ := hrel
    by_cases hlt : k < len
    · have hkn : k < ts.length := by omega
      obtain ⟨b, off, har, hcs⟩ := txts_at hr hkn
      subst har
      have hcell := hcs.out k hkn
      have HS := hide (show crcF c (flat (ts.take (k + 1))) = crcF (crcF c (flat (ts.take k))) ts[k].bs by rw [flat_snoc ts k hkn, crcF_append])
      have hc0 := crcF_lt c (flat (ts.take k)) hcl (flat_byt _ (fun t ht => (hok t (List.mem_of_mem_take ht)).2.1))
      have ht := hok ts[k] (List.getElem_mem _)
      obtain ⟨t, hx⟩ : ∃ t, t = ts[k] := ⟨_, rfl⟩
      rw [← hx] at hcell ht HS
      clear hx hcs
      obtain ⟨c0, hce⟩ : ∃ c0, c0 = crcF c (flat (ts.take k)) := ⟨_, rfl⟩
      rw [← hce] at HS hc0 ⊢
      clear hce
      obtain ⟨t1, t2, t3, t4, t5⟩ := ht
      obtain ⟨ta, tl, tc, tb⟩ := t
      simp only at hcell t1 t2 t3 t4 t5 HS
      have htl : tl ≤ 9223372036854775807 := by have := t3.1; have h := t3.2; unfold maxLen at h; omega
      go_wp2_with (go_at_call 47; go_must (refine (through_any ta tl tc c0 tb _ t1 t2 t5 htl hc0 hT).mono ?_; rintro e w1 ⟨rfl, rfl⟩))
      go_roundw
      case rel => exact ⟨trivial, k + 1, by omega, by go_num, by rw [HS.out]⟩
      case measure => simp [intOf]; omega
    · have e : ts.take k = ts := List.take_of_length_le (by omega)
      rw [e]
      have hc0 := crcF_lt c (flat ts) hcl (flat_byt _ (fun t ht => (hok t ht).2.1))
      obtain ⟨c0, hce⟩ : ∃ c0, c0 = crcF c (flat ts) := ⟨_, rfl⟩
      rw [← hce] at HM hc0 ⊢
      have hn := not32 c0 hc0
      have hm := xor_all_lt c0 hc0
      obtain ⟨m, hme⟩ : ∃ m, m = c0 ^^^ 4294967295 := ⟨_, rfl⟩
      rw [← hme] at HM hm hn
      clear hme hce
      go_wp2
      go_ret
      exact ⟨ret_int (by rw [HM.out]), rfl⟩

set_option maxRecDepth 100000 in
set_option maxHeartbeats 400000 in
/-- What crc.Sum answers. -/
theorem sum_any (a : Option Addr) (len cap : Nat) (ts : List Txt) (w : World) (hl : ts.length = len) (hlen : len ≤ 9223372036854775807) (hok : ∀ t ∈ ts, t.ok w) (hr : Reads w a (sV ts)) (hT : Tab w) :
    Calls Tryd.prog 35 #[.slice a len cap] w fun e w' => e = .returned (.int .i64 (crcSum (flat ts) : Nat)) ∧ w' = w := by
  go_enter Tryd.func35, Tryd.ntmps35
  go_wp2_with (go_at_call 40; go_must (refine (more_any 0 a len cap ts _ hl hlen hok hr hT).mono ?_; rintro e w1 ⟨rfl, rfl⟩))
  go_ret
  exact ⟨rfl, rfl⟩

end Go.Proofs.YtpieagcijfkpnaaDoor
