/- The document's steal, step 2. -/
import Derived.Test.YtaooglcjcnkgnaaRqm
namespace Go.Proofs.Ytaooglcjcnkgnaa
open Go.RowKit Go.ChangeShapes Go.WideShapes Go.ChangeAt Go.Deep

set_option linter.unusedSimpArgs false in
set_option maxRecDepth 100000 in
set_option maxHeartbeats 1000000 in
theorem rst_c (w : World) (cb rb g : Nat) (d : Dq) (p : Nat) (hp : p < 16) (h : RQ w cb rb g d) (hs : Sml 1000000 d) (hs2 : (d.c p).s = 2) (hg : ¬ d.bot - (d.c p).t < 1) : Calls Try.prog 30 #[.pointer (some ⟨cb, 0, none⟩), .pointer (some ⟨cb, 3 + p * 7, none⟩)] w (PoPost cb rb g p (stealD d p) w) := by
  have hc1 := h.call p 1 hp (by omega)
  have hc2 := h.call p 2 hp (by omega)
  have hc3 := h.call p 3 hp (by omega)
  have hc4 := h.call p 4 hp (by omega)
  have hc5 := h.call p 5 hp (by omega)
  have hc6 := h.call p 6 hp (by omega)
  simp only [rcl, Nat.add_zero] at hc1 hc2 hc3 hc4 hc5 hc6
  obtain ⟨c1, f1⟩ := hc1
  obtain ⟨c2, f2⟩ := hc2
  obtain ⟨c3, f3⟩ := hc3
  obtain ⟨c4, f4⟩ := hc4
  obtain ⟨c5, f5⟩ := hc5
  obtain ⟨c6, f6⟩ := hc6
  obtain ⟨ct, ft⟩ := h.top
  obtain ⟨cbt, fbt⟩ := h.bot
  obtain ⟨cr, fr⟩ := h.rp
  obtain ⟨hb1, hb2⟩ := hs.b p
  obtain ⟨htt1, htt2⟩ := hs.t p
  obtain ⟨ht1, ht2⟩ := hs.top
  obtain ⟨hbo1, hbo2⟩ := hs.bot
  generalize hc : d.c p = c at *
  obtain ⟨b, t, v, won, k, i, s⟩ := c
  dsimp only at *
  obtain rfl : s = 2 := hs2
  have h1' : ((2 : Int) == 1) = false := by decide
  have HD := hide (h.setCall p 3 hp (by omega) (.int .i64 d.bot) { b := d.bot, t := t, v := v, won := won, k := k, i := i, s := 2 } (by intro j hj; rw [hc]; rcases j with _ | _ | _ | _ | _ | _ | _ | j <;> simp [rcl, wn] <;> omega))
  have HW := hide (Wr.set cb g (3 + p * 7 + 3) (.int .i64 d.bot) w)
  have HE := hide (show stealD d p = (0, d.put p { b := d.bot, t := t, v := v, won := won, k := k, i := i, s := 2 }) by unfold stealD; rw [hc]; simp [hg])
  have hg' : decide (d.bot - t < 1) = false := by simpa using hg
  have hw1 : IntKind.i64.wrap (d.bot - t) = d.bot - t := by rw [IntKind.wrap_i64]; omega
  generalize stealD d p = R at *
  clear h hs hc
  go_enter Try.func30, Try.ntmps30
  go_upto_region 10 with fail
  generalize w.setCell ⟨cb, 3 + p * 7 + 3, none⟩ (.int .i64 d.bot) = w1 at *
  have hd3 := (HD.out.call p 3 hp (by omega))
  have hd4 := (HD.out.call p 4 hp (by omega))
  rw [Dq.put_same] at hd3 hd4
  simp only [rcl, Nat.add_zero] at hd3 hd4
  obtain ⟨e3, g3⟩ := hd3
  obtain ⟨e4, g4⟩ := hd4
  clear c1 c2 c3 c4 c5 c6 ct cbt cr f1 f2 f3 f4 f5 f6 ft fbt fr
  go_big_quiet (fail)
  go_wp2
  go_ret2
  exact ⟨by rw [HE.out]; rfl, by rw [HE.out]; exact HD.out.drewN _, HW.out.trans (Wr.ofB (below_drewN (Below.refl _ _) _))⟩

end Go.Proofs.Ytaooglcjcnkgnaa
