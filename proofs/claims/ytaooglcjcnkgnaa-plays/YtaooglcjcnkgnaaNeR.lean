/- The document's NewRing. -/
import Derived.Test.YtaooglcjcnkgnaaNew
namespace Go.Proofs.Ytaooglcjcnkgnaa
open Go.RowKit Go.ChangeShapes Go.WideShapes Go.ChangeAt Go.Deep

/-- On the way to a size. -/
def Upw (s : Int) (n : Nat) : Prop := Pow n ∧ (n = 1 ∨ (n : Int) < 2 * s)
theorem Upw.one (s : Int) : Upw s 1 := ⟨⟨0, by omega, rfl⟩, .inl rfl⟩
theorem Upw.next {s : Int} {n : Nat} (h : Upw s n) (h1 : (n : Int) < s) (h2 : n < 65536) : Upw s (2 * n) := ⟨h.1.double h2, .inr (by push_cast; omega)⟩
theorem Upw.last {s : Int} {n : Nat} (h : Upw s n) (h1 : ¬ ((n : Int) < s ∧ n < 65536)) : UpTo s n := ⟨h.1, by have := h.1.pos; omega, h.2⟩

set_option maxRecDepth 100000 in
set_option maxHeartbeats 1000000 in
/-- NewRing. -/
theorem newRing_any (s : Int) (a : Option Addr) (m c : Nat) (l : List Int) (w : World) (hl : l.length = m) (hm : m ≤ 1000000) (hr : Reads w a (iV l)) :
    Calls Try.prog 25 #[.int .i64 s, .slice a m c] w (NewPost s l w) := by
  obtain ⟨i0, hi, hz0, hz1, hz2⟩ := info_parts Try.info3
  have HL := hide hl
  have HR := hide hr
  clear hl hr
  go_enter Try.func25, Try.ntmps25
  go_wp2
  go_loopw [5] (fun i wr => w = wr ∧ ∃ n : Nat, Hid (Upw s n) ∧ 1 ≤ n ∧ n ≤ 65536 ∧ i = .int .i64 (n : Nat)) (fun i _ => 65536 - (intOf i).toNat)
  case atStart => exact ⟨rfl, 1, hide (Upw.one s), by omega, by omega, rfl⟩
  case round =>
    obtain ⟨rfl, n, HW, hn1, hn2, rfl⟩ := hrel
    by_cases h1 : (n : Int) < s ∧ n < 65536
    · have HW2 := hide (HW.out.next h1.1 h1.2)
      obtain ⟨h1, h2⟩ := h1
      have h2' : (n : Int) < 65536 := by omega
      go_wp2
      go_roundw
      case rel => exact ⟨by first | rfl | trivial, 2 * n, HW2, by omega, by have := HW2.out.1.pos; omega, by go_num⟩
      case measure => simp [intOf]; omega
    · have HU := hide (HW.out.last h1)
      have h3 : ¬ (n : Int) < s ∨ ((n : Int) < s ∧ ¬ (n : Int) < 65536) := by omega
      clear h1
      rcases h3 with h3 | ⟨h3, h4⟩ <;> skip
      all_goals
        go_wp2_with (first
          | (at_make; go_must (refine wpList_make_full _ rfl (.tmp 17) (.tmp 17) 38 rfl w.heap.size 3 i0 (.int .i64 0) 1 Try.underlying38 hi hz0 hz1 .i64 .i64 _ _ n rfl rfl rfl rfl (by rw [hz2]; omega) (by unfold maxLen; omega) (Nat.le_refl _) ?_; intro w1 ho1 hg1; have HM := hide (ring_made 71 HU.out.1 ho1 hg1); clear ho1 hg1)))
        generalize hV : w1.alloc (.cells #[.slice (some ⟨w.heap.size, 0, none⟩) n n] 71) = V at *
        have HV := hide hV
        clear hV
        have HM0 := hide HM.out.2.2
        generalize hcb : w1.heap.size = cb at HM HM0 ⊢
        have HCB := hide hcb
        clear hcb
        generalize hgg : w.heap.size = g at HM HM0 ⊢
        have HG := hide hgg
        clear hgg
        go_loopw [7] (fun i wr => Hid (Below w.heap.size w wr) ∧ ∃ k : Nat, k ≤ m ∧ i = .int .i64 (k : Nat) ∧ Hid (RingP wr cb 0 g n (fillK n (List.replicate n 0) l k))) (fun i _ => m - (intOf i).toNat)
        case atStart => exact ⟨hide (by rw [HG.out]; exact HM.out.2.1), 0, Nat.zero_le _, rfl, hide HM.out.1⟩
        case round =>
          obtain ⟨HB, k, hk, rfl, HRg⟩ := hrel
          by_cases hlt : k < m
          · obtain ⟨b, off, rfl, hc0⟩ := iv_at HR.out (show k < l.length by have := HL.out; omega)
            have hc := keep_cell hc0 HB.out
            have C10 := hide (rput_any _ cb 0 g n _ (k : Int) (l.getD k 0) HRg.out)
            have HF := hide (show fillK n (List.replicate n 0) l (k + 1) = (fillK n (List.replicate n 0) l k).set (plc n (k : Int)) (l.getD k 0) from rfl)
            clear hc0
            generalize l.getD k 0 = x at *
            go_wp2_with (go_at_call 36; go_must ((with_reducible refine C10.out.mono ?_); rintro e w3 ⟨rfl, hR3, hg3⟩; have HR3 := hide hR3; have HG3 := hide hg3; clear hR3 hg3))
            go_roundw
            case rel => exact ⟨hide (HB.out.grown HG3.out HB.out.size (fun k hk => by cases hk; have := HG.out; omega)), k + 1, by omega, by go_num, hide (by rw [HF.out]; exact HR3.out)⟩
            case measure => simp [intOf]; omega
          · obtain rfl : k = m := by omega
            go_wp2
            go_ret
            exact ⟨cb, g, n, rfl, HU.out, by rw [HL.out]; exact HRg.out, by have := HM0.out; have := HG.out; omega, by have := HG.out; omega, HB.out⟩
end Go.Proofs.Ytaooglcjcnkgnaa
