/- The document's Grown. -/
import Derived.Test.YtaooglcjcnkgnaaGro
namespace Go.Proofs.Ytaooglcjcnkgnaa
open Go.RowKit Go.ChangeShapes Go.WideShapes Go.ChangeAt Go.Deep

set_option maxRecDepth 100000 in
set_option maxHeartbeats 1000000 in
/-- Grown. -/
theorem rgrown_any (w : World) (cb o g n : Nat) (L : List Int) (f t : Int) (h : RingP w cb o g n L) (hf : I64 f) (ht : I64 t) :
    Calls Try.prog 40 #[.pointer (some ⟨cb, o, none⟩), .int .i64 f, .int .i64 t] w (GrownPost n L f t w) := by
  obtain ⟨i0, hi, hz0, hz1, hz2⟩ := info_parts Try.info3
  have HR := hide h
  have hb := h.box
  have hp := h.pow.pos
  have HCI := hide (show cnt n f t = min (t - f).toNat n from rfl)
  have HFI := hide hf
  have HTI := hide ht
  obtain ⟨hp1, hp2⟩ := hp
  have HGP := hide (gsz_up h.pow).1
  have hgp := (gsz_up h.pow).1.pos
  obtain ⟨hgp1, hgp2⟩ := hgp
  have hbig : (65536 < 2 * (n : Int) ∧ Hid (gsz n = 65536)) ∨ (¬ 65536 < 2 * (n : Int) ∧ Hid (gsz n = 2 * n)) := by
    by_cases h1 : 65536 < 2 * (n : Int)
    · exact .inl ⟨h1, hide (by unfold gsz; rw [if_pos (by omega)])⟩
    · exact .inr ⟨h1, hide (by unfold gsz; rw [if_neg (by omega)])⟩
  clear h hf ht
  generalize hz : gsz n = z at *
  have HZZ := hide hz
  clear hz
  generalize hq : cnt n f t = q at *
  have HQ := hide hq
  clear hq
  rcases hbig with ⟨hbg, HZ⟩ | ⟨hbg, HZ⟩ <;> skip
  all_goals
    go_enter Try.func40, Try.ntmps40
    go_wp2_with (first
      | (at_make; go_must (refine wpList_make_full _ rfl (.tmp 18) (.tmp 18) 38 rfl w.heap.size 3 i0 (.int .i64 0) 1 Try.underlying38 hi hz0 hz1 .i64 .i64 _ _ z rfl rfl (by have := HZ.out; omega) (by have := HZ.out; omega) (by rw [hz2]; omega) (by unfold maxLen; omega) (Nat.le_refl _) ?_; intro w1 ho1 hg1; have HM := hide (ring_made 71 HGP.out ho1 hg1); clear ho1 hg1)))
    have HM0 := hide HM.out.2.2
    generalize hV : w1.alloc (.cells #[.slice (some ⟨w.heap.size, 0, none⟩) z z] 71) = V at *
    have HV := hide hV
    clear hV
    generalize hcb' : w1.heap.size = cb' at HM HM0 ⊢
    have HCB := hide hcb'
    clear hcb'
    generalize hgg : w.heap.size = g' at HM HM0 ⊢
    have HG := hide hgg
    clear hgg
    go_loopw [1, 9] (fun j i wr => Hid (Below w.heap.size w wr) ∧ ∃ k : Nat, k ≤ q ∧ j = .int .i64 (f + (k : Nat)) ∧ i = .int .i64 (k : Nat) ∧ Hid (RingP wr cb' 0 g' z (growK n z L f k))) (fun _ i _ => q - (intOf i).toNat)
    case atStart => exact ⟨hide (by rw [HG.out]; exact HM.out.2.1), 0, Nat.zero_le _, by simp, rfl, hide HM.out.1⟩
    case round =>
      obtain ⟨HB, k, hk, rfl, rfl, HRg⟩ := hrel
      have hb' := keep_cell hb HB.out
      by_cases hlt : k < q
      · have hfk : -9223372036854775808 ≤ f + (k : Int) ∧ f + (k : Int) + 1 ≤ 9223372036854775807 ∧ f + (k : Int) < t ∧ k < n := by
          have h1 := HFI.out
          have h2 := HTI.out
          have h3 := HCI.out
          unfold I64 at h1 h2
          omega
        obtain ⟨hfk1, hfk2, hfk3, hfk4⟩ := hfk
        have C15 := hide (fun W (hb : Below w.heap.size w W) => rget_any W cb o g n L (f + (k : Int)) (HR.out.below hb))
        have C10 := hide (fun W v h => rput_any W cb' 0 g' z (growK n z L f k) (f + (k : Int)) v h)
        have HF := hide (show growK n z L f (k + 1) = (growK n z L f k).set (plc z (f + (k : Int))) (L.getD (plc n (f + (k : Int))) 0) from rfl)
        have hk1 : f + (k : Int) + 1 = f + ((k + 1 : Nat) : Int) := by omega
        have HK1 := hide hk1
        clear hk1
        generalize L.getD (plc n (f + (k : Int))) 0 = x at *
        go_wp2_with (first
          | (go_at_call 33; go_must ((with_reducible refine (C15.out _ HB.out).mono ?_); rintro e w3 ⟨rfl, u, rfl⟩; have C10b := hide (C10.out _ x (HRg.out.drewN u))))
          | (go_at_call 36; go_must ((with_reducible refine C10b.out.mono ?_); rintro e w4 ⟨rfl, hR4, hg4⟩; have HR4 := hide hR4; have HG4 := hide hg4; clear hR4 hg4)))
        go_roundw
        case rel => exact ⟨hide ((below_drewN HB.out u).grown HG4.out HB.out.size (fun k hk => by cases hk; have := HG.out; omega)), k + 1, by omega, by rw [HK1.out], by go_num, hide (by rw [HF.out]; exact HR4.out)⟩
        case measure => simp [intOf]; omega
      · obtain rfl : k = q := by omega
        have hex : ¬ k < n ∨ (k < n ∧ ¬ f + (k : Int) < t) := by have := HCI.out; omega
        rcases hex with h1 | ⟨h1, h2⟩ <;> skip
        all_goals
          go_wp2
          go_ret
          exact ⟨cb', g', rfl, by rw [HQ.out, HZZ.out]; exact HRg.out, by have := HM0.out; have := HG.out; omega, by have := HG.out; omega, HB.out⟩
end Go.Proofs.Ytaooglcjcnkgnaa
