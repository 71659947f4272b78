/- ring's countOf and Grown, and the document's Grown. -/
import Derived.Test.YtaooglcjcnkgnaaNew
namespace Go.Proofs.Ytaooglcjcnkgnaa
open Go.RowKit Go.ChangeShapes Go.WideShapes Go.ChangeAt Go.Deep

/-- How many places are taken along. -/
def cnt (n : Nat) (f t : Int) : Nat := min (t - f).toNat n

def I64 (x : Int) : Prop := -9223372036854775808 ≤ x ∧ x ≤ 9223372036854775807

set_option maxRecDepth 100000 in
theorem countOf_any (w : World) (cb o g n : Nat) (L : List Int) (f t : Int) (h : RingP w cb o g n L) (hf : I64 f) (ht : I64 t) :
    Calls Try.prog 49 #[.pointer (some ⟨cb, o, none⟩), .int .i64 f, .int .i64 t] w fun e w' => e = .returned (.int .i64 (cnt n f t : Int)) ∧ w' = w := by
  have C13 := hide (size_any w cb o g n L h)
  have hp := h.pow.pos
  obtain ⟨hp1, hp2⟩ := hp
  obtain ⟨f1, f2⟩ := hf
  obtain ⟨t1, t2⟩ := ht
  clear h
  by_cases hft : t ≤ f
  · have HC := hide (show cnt n f t = 0 by unfold cnt; omega)
    go_enter Try.func49, Try.ntmps49
    go_wp2
    go_ret
    exact ⟨by rw [HC.out]; rfl, rfl⟩
  · have HC := hide (show wrap64 (min (IntKind.u64.wrap (IntKind.u64.wrap t - IntKind.u64.wrap f)) (n : Int)) = (cnt n f t : Int) by
      have e : IntKind.u64.wrap (IntKind.u64.wrap t - IntKind.u64.wrap f) = t - f := by
        simp only [IntKind.wrap_u64]
        omega
      rw [e]
      unfold cnt wrap64
      omega)
    go_enter Try.func49, Try.ntmps49
    go_wp2_with (go_at_call 44; go_must ((with_reducible refine C13.out.mono ?_); rintro e w1 ⟨rfl, rfl⟩))
    go_ret
    exact ⟨by rw [HC.out]; rfl, rfl⟩

/-- The size of a ring that grew. -/
def gsz (n : Nat) : Nat := if 65536 < 2 * n then 65536 else 2 * n

theorem gsz_up {n : Nat} (h : Pow n) : UpTo (2 * (n : Int)) (gsz n) := by
  have hp := h.pos
  unfold gsz
  by_cases h1 : 65536 < 2 * n
  · rw [if_pos h1]
    exact ⟨⟨16, by omega, rfl⟩, .inr rfl, .inr (by omega)⟩
  · rw [if_neg h1]
    exact ⟨h.double (by omega), .inl (by omega), .inr (by omega)⟩

/-- What stands in a ring that grew, k places of the old one taken along. -/
def growK (n m : Nat) (L : List Int) (f : Int) : Nat → List Int
  | 0 => List.replicate m 0
  | k + 1 => (growK n m L f k).set (plc m (f + (k : Int))) (L.getD (plc n (f + (k : Int))) 0)

def GrownPost (n : Nat) (L : List Int) (f t : Int) (w : World) (e : Ending) (w' : World) : Prop :=
  ∃ cb' g', e = .returned (.pointer (some ⟨cb', 0, none⟩)) ∧ RingP w' cb' 0 g' (gsz n) (growK n (gsz n) L f (cnt n f t)) ∧ w.heap.size ≤ cb' ∧ w.heap.size ≤ g' ∧ Below w.heap.size w w'

theorem new_nil (n : Nat) (w : World) (h : Pow n) : Calls Try.prog 24 #[.int .i64 (2 * (n : Int)), .slice none 0 0] w fun e w' => ∃ cb g, e = .returned (.pointer (some ⟨cb, 0, none⟩)) ∧ RingP w' cb 0 g (gsz n) (List.replicate (gsz n) 0) ∧ w.heap.size ≤ cb ∧ w.heap.size ≤ g ∧ Below w.heap.size w w' := by
  refine (new_any (2 * (n : Int)) none 0 0 [] w rfl (by omega) (.inl rfl)).mono ?_
  rintro e w' ⟨cb, g, m, rfl, hU, hR, h1, h2, h3⟩
  obtain rfl := hU.same (gsz_up h)
  exact ⟨cb, g, rfl, hR, h1, h2, h3⟩

set_option maxRecDepth 100000 in
set_option maxHeartbeats 1000000 in
/-- Grown. -/
theorem grown_any (w : World) (cb o g n : Nat) (L : List Int) (f t : Int) (h : RingP w cb o g n L) (hf : I64 f) (ht : I64 t) :
    Calls Try.prog 45 #[.pointer (some ⟨cb, o, none⟩), .int .i64 f, .int .i64 t] w (GrownPost n L f t w) := by
  have C13 := hide (size_any w cb o g n L h)
  have C7 := hide (new_nil n w h.pow)
  have HR := hide h
  have hp := h.pow.pos
  have HCI := hide (show (cnt n f t : Int) ≤ t - f ∨ cnt n f t = 0 by unfold cnt; omega)
  have HFI := hide hf
  have HTI := hide ht
  obtain ⟨hp1, hp2⟩ := hp
  have hcm : cnt n f t ≤ 65536 := by unfold cnt; omega
  clear h hf ht
  go_enter Try.func45, Try.ntmps45
  go_wp2_with (first
    | (go_at_call 44; go_must ((with_reducible refine C13.out.mono ?_); rintro e w0 ⟨rfl, rfl⟩))
    | (go_at_call 24; go_must ((with_reducible refine C7.out.mono ?_); rintro e w1 ⟨cb', g', rfl, hR1, hcb, hg, hb1⟩; have C19 := hide (countOf_any w1 cb o g n L f t (HR.out.below hb1) HFI.out HTI.out); have HR1 := hide hR1; have HCB := hide hcb; have HG := hide hg; have HB1 := hide hb1; clear hR1 hcb hg hb1))
    | (go_at_call 49; go_must ((with_reducible refine C19.out.mono ?_); rintro e w2 ⟨rfl, rfl⟩)))
  generalize hq : cnt n f t = q at *
  have HQ := hide hq
  clear hq
  go_loopw [17] (fun i wr => Hid (Below w0.heap.size w0 wr) ∧ ∃ k : Nat, k ≤ q ∧ i = .int .i64 (k : Nat) ∧ Hid (RingP wr cb' 0 g' (gsz n) (growK n (gsz n) L f k))) (fun i _ => q - (intOf i).toNat)
  case atStart => exact ⟨HB1, 0, Nat.zero_le _, rfl, HR1⟩
  case round =>
    obtain ⟨HB, k, hk, rfl, HRg⟩ := hrel
    by_cases hlt : k < q
    · have hfk : -9223372036854775808 ≤ f + (k : Int) ∧ f + (k : Int) ≤ 9223372036854775807 := by
        have h1 := HFI.out
        have h2 := HTI.out
        have h3 := HCI.out
        unfold I64 at h1 h2
        omega
      obtain ⟨hfk1, hfk2⟩ := hfk
      have C14 := hide (fun W (hb : Below w0.heap.size w0 W) => get_any W cb o g n L (f + (k : Int)) (HR.out.below hb))
      have C9 := hide (fun W v h => put_any W cb' 0 g' (gsz n) (growK n (gsz n) L f k) (f + (k : Int)) v h)
      have HF := hide (show growK n (gsz n) L f (k + 1) = (growK n (gsz n) L f k).set (plc (gsz n) (f + (k : Int))) (L.getD (plc n (f + (k : Int))) 0) from rfl)
      generalize L.getD (plc n (f + (k : Int))) 0 = x at *
      go_wp2_with (first
        | (go_at_call 32; go_must ((with_reducible refine (C14.out _ HB.out).mono ?_); rintro e w3 ⟨rfl, u, rfl⟩; have C9b := hide (C9.out _ x (HRg.out.drewN u))))
        | (go_at_call 35; go_must ((with_reducible refine C9b.out.mono ?_); rintro e w4 ⟨rfl, hR4, hg4⟩; have HR4 := hide hR4; have HG4 := hide hg4; clear hR4 hg4)))
      go_roundw
      case rel => exact ⟨hide ((below_drewN HB.out u).grown HG4.out HB.out.size (fun k hk => by cases hk; exact HG.out)), k + 1, by omega, by go_num, hide (by rw [HF.out]; exact HR4.out)⟩
      case measure => simp [intOf]; omega
    · obtain rfl : k = q := by omega
      go_wp2
      go_ret
      exact ⟨cb', g', rfl, by rw [HQ.out]; exact HRg.out, HCB.out, HG.out, HB.out⟩
end Go.Proofs.Ytaooglcjcnkgnaa
