/- through: what is left when bytes have gone through the polynomial. -/
import Derived.Test.YtpieagcijfkpnaaDoorBase
import Derived.Test.YtpieagcijfkpnaaDoorCrc
namespace Go.Proofs.YtpieagcijfkpnaaDoor
open Go.RowKit Go.ChangeShapes Go.WideShapes Go.ChangeAt Go.Deep

/-- The table of half bytes. -/
def halfT : List Nat := [0, 498536548, 997073096, 651767980, 1994146192, 1802195444, 1303535960, 1342533948, 3988292384, 4027552580, 3604390888, 3412177804, 2607071920, 2262029012, 2685067896, 3183342108]
/-- The variable holds the table. -/
def Tab (w : World) : Prop := ∀ j (h : j < halfT.length), w.cell? ⟨0, j, none⟩ = some (.int .u32 (halfT[j] : Nat))
theorem Tab.below {w w' : World} (h : Tab w) (hb : Below w.heap.size w w') : Tab w' := fun j hj => by
  rw [hb.cell (cell_some_lt (h j hj))]; exact h j hj

theorem Tab.at {w : World} (h : Tab w) {j y : Nat} (hy : halfT[j]? = some y) : w.cell? ⟨0, j, none⟩ = some (.int .u32 (y : Nat)) := by
  obtain ⟨h1, h2⟩ := List.getElem?_eq_some_iff.1 hy
  rw [h j h1, h2]

theorem half_it (j : Nat) (h : j < halfT.length) : halfT[j] = it 4 j := by
  have h' : j < 16 := h
  have : ∀ j : Fin 16, halfT[j.1]'(by have := j.2; exact this) = it 4 j.1 := by decide +kernel
  exact this ⟨j, h'⟩

/-- Four bits go out at once. -/
theorem it_four (c : Nat) : it 4 c = c / 16 ^^^ it 4 (c % 16) := by
  have h : c = c % 16 ^^^ 2 ^ 4 * (c / 16) := by
    apply Nat.eq_of_testBit_eq
    intro i
    rw [Nat.testBit_xor, show (16 : Nat) = 2 ^ 4 from rfl, Nat.testBit_mod_two_pow, Nat.testBit_two_pow_mul, Nat.testBit_div_two_pow]
    by_cases hi : i < 4
    · simp [hi, show ¬ 4 ≤ i from by omega]
    · have : i - 4 + 4 = i := by omega
      simp [hi, show 4 ≤ i from by omega, this]
  have h2 := congrArg (it 4) h
  rw [it_xor, it_pow] at h2
  rw [h2, Nat.xor_comm]

theorem half_step (c : Nat) (hc : c < 4294967296) : bits .and .u32 (c : Int) 15 = ((c % 16 : Nat) : Int) ∧ ∃ y : Nat, halfT[c % 16]? = some y ∧ bits .xor .u32 ((c : Int) / 16) (y : Int) = ((it 4 c : Nat) : Int) := by
  have hlt : c % 16 < halfT.length := Nat.mod_lt _ (by decide)
  refine ⟨?_, halfT[c % 16], List.getElem?_eq_getElem hlt, ?_⟩
  · rw [show (15 : Int) = ((15 : Nat) : Int) from rfl, u32_and_nat c 15 hc (by omega), nat_mask4]
  · have hh := half_it (c % 16) hlt
    have : halfT[c % 16] < 4294967296 := by rw [hh]; exact it_lt 4 _ (by omega)
    rw [show (c : Int) / 16 = ((c / 16 : Nat) : Int) from by omega, u32_xor_nat _ _ (by omega) this, it_four c, hh]

theorem reads_byte {w : World} {a : Option Addr} {bs : List Nat} {k : Nat} (h : Reads w a (bV bs)) (hk : k < bs.length) : ∃ b off, a = some ⟨b, off, none⟩ ∧ w.cell? ⟨b, off + k, none⟩ = some (.int .u8 (bs[k] : Nat)) := by
  rcases h with h | ⟨b, off, e, h⟩
  · have : bs = [] := by simpa [bV] using h
    subst this; simp at hk
  · exact ⟨b, off, e, h k _ (by simp [bV, hk])⟩

theorem crcF_take (c : Nat) (bs : List Nat) (k : Nat) (h : k < bs.length) : crcF c (bs.take (k + 1)) = it 4 (it 4 (crcF c (bs.take k) ^^^ bs[k])) := by
  rw [List.take_succ_eq_append_getElem h, crcF_append]
  exact it_add 4 4 _

set_option maxRecDepth 100000 in
set_option maxHeartbeats 400000 in
theorem through_any (a : Option Addr) (len cap : Nat) (c : Nat) (bs : List Nat) (w : World) (hl : bs.length = len) (hB : Byt bs) (hr : Reads w a (bV bs)) (hlen : len ≤ 9223372036854775807) (hc : c < 4294967296) (hT : Tab w) :
    Calls Tryd.prog 47 #[.int .u32 (c : Nat), .slice a len cap] w fun e w' => e = .returned (.int .u32 (crcF c bs : Nat)) ∧ w' = w := by
  go_enter Tryd.func47, Tryd.ntmps47
  go_wp2
  go_loopw [0, 9] (fun v i wr => wr = w ∧ ∃ k : Nat, k ≤ len ∧ i = .int .i64 (k : Nat) ∧ v = .int .u32 (crcF c (bs.take k) : Nat)) (fun _ i _ => len - (intOf i).toNat)
  case atStart => exact ⟨rfl, 0, Nat.zero_le _, rfl, rfl⟩
  case round =>
    obtain ⟨rfl, k, hk, rfl, rfl⟩ := hrel
    by_cases hlt : k < len
    · have hkn : k < bs.length := by omega
      obtain ⟨b, off, har, hcell⟩ := reads_byte hr hkn
      subst har
      have hx := hB bs[k] (List.getElem_mem _)
      have HS := hide (crcF_take c bs k hkn)
      have hcl := crcF_lt c (bs.take k) hc (fun x hx => hB x (List.mem_of_mem_take hx))
      obtain ⟨x, hxe⟩ : ∃ x, x = bs[k] := ⟨_, rfl⟩
      rw [← hxe] at hx HS hcell
      clear hxe
      obtain ⟨c0, hce⟩ : ∃ c0, c0 = crcF c (bs.take k) := ⟨_, rfl⟩
      rw [← hce] at HS hcl ⊢
      clear hce
      have h1 := u32_xor_nat c0 x hcl (by omega)
      have h1l : c0 ^^^ x < 4294967296 := Nat.xor_lt_two_pow (n := 32) hcl (by omega)
      obtain ⟨c1, hce⟩ : ∃ c1, c1 = c0 ^^^ x := ⟨_, rfl⟩
      rw [← hce] at HS h1 h1l
      clear hce
      obtain ⟨h2, y, hy, h3⟩ := half_step c1 h1l
      have hcy : wr.cell? ⟨0, c1 % 16, none⟩ = some (.int .u32 (y : Nat)) := hT.at hy
      have h3l : it 4 c1 < 4294967296 := it_lt 4 c1 h1l
      obtain ⟨c2, hce⟩ : ∃ c2, c2 = it 4 c1 := ⟨_, rfl⟩
      rw [← hce] at HS h3 h3l
      clear hce
      obtain ⟨h4, z, hz, h5⟩ := half_step c2 h3l
      have hcz : wr.cell? ⟨0, c2 % 16, none⟩ = some (.int .u32 (z : Nat)) := hT.at hz
      rw [← HS.out] at h5
      clear HS
      go_wp2
      go_roundw
      case rel => exact ⟨trivial, k + 1, by omega, by go_num, rfl⟩
      case measure => simp [intOf]; omega
    · go_wp2
      go_ret
      rw [show bs.take k = bs from List.take_of_length_le (by omega)]
      exact ⟨rfl, rfl⟩
end Go.Proofs.YtpieagcijfkpnaaDoor
