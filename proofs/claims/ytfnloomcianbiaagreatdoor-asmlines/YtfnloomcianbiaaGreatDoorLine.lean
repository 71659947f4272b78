/- line: a line put together. -/
import Derived.Test.YtfnloomcianbiaaGreatDoorPlainB
import Derived.Lib.ItoaLen
namespace Go.Proofs.YtfnloomcianbiaaGreatDoor
open Go.RowKit Go.ChangeShapes Go.WideShapes Go.ChangeAt Go.Deep

def bs (l : List UInt8) : ByteArray := ⟨l.toArray⟩
/-- Numbers behind a head, a blank ahead of each. -/
def numsT (ns : List Int) : List UInt8 := ns.flatMap fun n => 32 :: Lib.itoa n

theorem bs_size (l : List UInt8) : (bs l).size = l.length := by simp [bs, ByteArray.size]
theorem bs_append (a b : List UInt8) : bs a ++ bs b = bs (a ++ b) := by
  apply bytes_inj
  simp [bs]
theorem numsT_len : ∀ (ns : List Int), In64 ns → (numsT ns).length ≤ 22 * ns.length
  | [], _ => by simp [numsT]
  | n :: r, h => by
    have ih := numsT_len r (fun x hx => h x (by simp [hx]))
    have h1 := Lib.itoa_length_le n (h n (by simp)).1 (h n (by simp)).2
    have e : numsT (n :: r) = 32 :: Lib.itoa n ++ numsT r := by simp [numsT]
    rw [e]
    simp only [List.length_append, List.length_cons]
    omega

set_option maxRecDepth 100000 in
set_option maxHeartbeats 1000000 in
theorem line_any (h : List UInt8) (ns : List Int) (a : Option Addr) (n cap : Nat) (hn : ns.length = n) (hbig : n ≤ 1000) (hin : In64 ns) (hh : h.length ≤ 1000000) (w : World) (hr : Reads w a (iV ns)) (hE : Env w) :
    Calls Tryz.prog 27 #[.string (bs h), .slice a n cap] w fun e w' => e = .returned (.string (bs (h ++ numsT ns ++ [10]))) ∧ Below w.heap.size w w' := by
  go_enter Tryz.func27, Tryz.ntmps27
  go_wp2
  go_loopw [0, 9] (fun s i wr => Hid (Below w.heap.size w wr) ∧ ∃ k : Nat, k ≤ n ∧ i = .int .i64 (k : Nat) ∧ s = .string (bs (h ++ numsT (ns.take k)))) (fun _ i _ => n - (intOf i).toNat)
  case atStart => exact ⟨Below.refl _ _, 0, Nat.zero_le _, rfl, by simp [numsT]⟩
  case round =>
    obtain ⟨hbw, k, hk, rfl, rfl⟩ := hrel
    by_cases hlt : k < n
    · have hkl : k < ns.length := by omega
      obtain ⟨b, off, rfl, hcs⟩ := reads_at (hr.below hbw.out) hkl
      have hc := hcs.out k _ (by rw [iV, List.getElem?_map, List.getElem?_eq_getElem hkl]; rfl)
      have hx := List.getElem?_eq_getElem hkl
      have hxm := hin _ (List.getElem_mem hkl)
      generalize ns[k] = x at hc hx hxm
      have C := itoa_any x hxm wr (hE.below hbw.out)
      have HX := hide hx
      have hlt' : (k : Int) < (n : Int) := by omega
      have HT := hide (show h ++ numsT (ns.take (k + 1)) = h ++ numsT (ns.take k) ++ (32 :: Lib.itoa x) by
        rw [List.take_add_one, HX.out]
        simp [numsT])
      have hll : (h ++ numsT (ns.take k)).length ≤ 1022000 := by
        have h1 := numsT_len (ns.take k) (fun y hy => hin y (List.mem_of_mem_take hy))
        simp only [List.length_append, List.length_take] at h1 ⊢
        omega
      have htl := Lib.itoa_length_le x hxm.1 hxm.2
      generalize h ++ numsT (ns.take k) = l at HT hll ⊢
      generalize Lib.itoa x = t at C HT htl
      have hq1 : ¬ (9223372036854775807 < 1 + t.length) := by omega
      have hq2 : ¬ (9223372036854775807 < (bs l).size + (1 + t.length)) := by rw [bs_size]; omega
      clear hcs hx
      go_wp2_with (go_at_call 45; go_must (refine C.mono ?_; rintro e w1 ⟨rfl, hb1⟩; refine Hid.out ?_))
      refine Lib.hid ?_
      go_wp2
      go_roundw
      case rel =>
        refine ⟨hbw.out.trans (hb1.mono hbw.out.size), k + 1, by omega, by go_num, ?_⟩
        have e1 : (⟨#[32]⟩ : ByteArray) = bs [32] := rfl
        have e2 : (⟨t.toArray⟩ : ByteArray) = bs t := rfl
        rw [HT.out, e1, e2, bs_append, bs_append]
        rfl
      case measure => simp [intOf]; omega
    · have hkn : k = n := by omega
      have hlt' : ¬ (k : Int) < (n : Int) := by omega
      have HT := hide (show h ++ numsT (ns.take k) = h ++ numsT ns by rw [List.take_of_length_le (by omega)])
      have hll : (h ++ numsT (ns.take k)).length ≤ 1022000 := by
        have h1 := numsT_len (ns.take k) (fun y hy => hin y (List.mem_of_mem_take hy))
        simp only [List.length_append, List.length_take] at h1 ⊢
        omega
      generalize h ++ numsT (ns.take k) = l at HT hll ⊢
      have hq2 : ¬ (9223372036854775807 < (bs l).size + 1) := by rw [bs_size]; omega
      clear hkn
      go_wp2
      go_ret
      refine ⟨?_, hbw.out⟩
      show Ending.returned (Value.string (bs l ++ bs [10])) = Ending.returned (Value.string (bs (h ++ (numsT ns ++ [10]))))
      rw [bs_append, HT.out, List.append_assoc]
end Go.Proofs.YtfnloomcianbiaaGreatDoor
