/- The document's steal, step 4. -/
import Derived.Test.YtaooglcjcnkgnaaRqm
namespace Go.Proofs.Ytaooglcjcnkgnaa
open Go.RowKit Go.ChangeShapes Go.WideShapes Go.ChangeAt Go.Deep

set_option linter.unusedSimpArgs false in
set_option maxRecDepth 100000 in
set_option maxHeartbeats 1000000 in
theorem rst_e (w : World) (cb rb g : Nat) (d : Dq) (p : Nat) (hp : p < 16) (h : RQ w cb rb g d) (hs : Sml 1000000 d) (h1 : ¬ (d.c p).s = 1) (h2 : ¬ (d.c p).s = 2) (h3 : ¬ (d.c p).s = 3) (hg : d.top = (d.c p).t) : Calls Try.prog 30 #[.pointer (some ⟨cb, 0, none⟩), .pointer (some ⟨cb, 3 + p * 7, none⟩)] w (PoPost cb rb g p (stealD d p) w) := by
  have hc1 := h.call p 1 hp (by omega)
  have hc2 := h.call p 2 hp (by omega)
  have hc3 := h.call p 3 hp (by omega)
  have hc4 := h.call p 4 hp (by omega)
  have hc5 := h.call p 5 hp (by omega)
  have hc6 := h.call p 6 hp (by omega)
  simp only [rcl, Nat.add_zero] at hc1 hc2 hc3 hc4 hc5 hc6
  obtain ⟨c1, f1⟩ := hc1
  obtain ⟨c2, f2⟩ := hc2
  obtain ⟨c3, f3⟩ := hc3
  obtain ⟨c4, f4⟩ := hc4
  obtain ⟨c5, f5⟩ := hc5
  obtain ⟨c6, f6⟩ := hc6
  obtain ⟨ct, ft⟩ := h.top
  obtain ⟨cbt, fbt⟩ := h.bot
  obtain ⟨cr, fr⟩ := h.rp
  obtain ⟨hb1, hb2⟩ := hs.b p
  obtain ⟨htt1, htt2⟩ := hs.t p
  obtain ⟨ht1, ht2⟩ := hs.top
  obtain ⟨hbo1, hbo2⟩ := hs.bot
  generalize hc : d.c p = c at *
  obtain ⟨b, t, v, won, k, i, s⟩ := c
  dsimp only at *
  replace h1 : ¬ s = 1 := h1
  replace h2 : ¬ s = 2 := h2
  replace h3 : ¬ s = 3 := h3
  have h1' : (s == 1) = false := by simpa using h1
  have h2' : (s == 2) = false := by simpa using h2
  have h3' : (s == 3) = false := by simpa using h3
  have hg2 : d.top = t := hg
  have HE := hide (show stealD d p = (2, { d with top := t + 1 }) by unfold stealD; rw [hc]; simp [h1, h2, h3, hg2])
  have HDQ := hide (fun q => (h.drewN q).setTop (t + 1))
  have HV := hide (show (d.c p).v = v by rw [hc])
  rw [hg2] at ct
  have ht9 : (t != t) = false := by simp
  generalize stealD d p = R at *
  clear h1 h2 h3 h hs hc hg hg2
  go_enter Try.func30, Try.ntmps30
  go_upto_region 2 with fail
  go_big_quiet (fail)
  go_upto_region 5 with fail
  generalize hq : w.drewN _ = w1
  have HD := hide (show RQ (w1.setCell ⟨cb, 0, none⟩ (.int .i64 (t + 1))) cb rb g { d with top := t + 1 } by rw [← hq]; exact HDQ.out _)
  have HW := hide (show Wr cb g w (w1.setCell ⟨cb, 0, none⟩ (.int .i64 (t + 1))) by rw [← hq]; exact (Wr.ofB (below_drewN (Below.refl _ _) _)).trans (Wr.set _ _ _ _ _))
  clear hq
  have hd5 := (HD.out.call p 5 hp (by omega)).1
  generalize w1.setCell ⟨cb, 0, none⟩ (.int .i64 (t + 1)) = w2 at *
  simp only [rcl] at hd5
  rw [HV.out] at hd5
  clear c1 c2 c3 c4 c5 c6 ct cbt cr f1 f2 f3 f4 f5 f6 ft fbt fr
  go_big_quiet (fail)
  go_wp2
  go_ret2
  exact ⟨by rw [HE.out]; simp [HV.out], by rw [HE.out]; exact HD.out.drewN _, HW.out.trans (Wr.ofB (below_drewN (Below.refl _ _) _))⟩

end Go.Proofs.Ytaooglcjcnkgnaa
/- The document's steal, step 4: lost. -/

namespace Go.Proofs.Ytaooglcjcnkgnaa
open Go.RowKit Go.ChangeShapes Go.WideShapes Go.ChangeAt Go.Deep

set_option linter.unusedSimpArgs false in
set_option maxRecDepth 100000 in
set_option maxHeartbeats 1000000 in
theorem rst_f (w : World) (cb rb g : Nat) (d : Dq) (p : Nat) (hp : p < 16) (h : RQ w cb rb g d) (hs : Sml 1000000 d) (h1 : ¬ (d.c p).s = 1) (h2 : ¬ (d.c p).s = 2) (h3 : ¬ (d.c p).s = 3) (hg : ¬ d.top = (d.c p).t) : Calls Try.prog 30 #[.pointer (some ⟨cb, 0, none⟩), .pointer (some ⟨cb, 3 + p * 7, none⟩)] w (PoPost cb rb g p (stealD d p) w) := by
  have hc1 := h.call p 1 hp (by omega)
  have hc2 := h.call p 2 hp (by omega)
  have hc3 := h.call p 3 hp (by omega)
  have hc4 := h.call p 4 hp (by omega)
  have hc5 := h.call p 5 hp (by omega)
  have hc6 := h.call p 6 hp (by omega)
  simp only [rcl, Nat.add_zero] at hc1 hc2 hc3 hc4 hc5 hc6
  obtain ⟨c1, f1⟩ := hc1
  obtain ⟨c2, f2⟩ := hc2
  obtain ⟨c3, f3⟩ := hc3
  obtain ⟨c4, f4⟩ := hc4
  obtain ⟨c5, f5⟩ := hc5
  obtain ⟨c6, f6⟩ := hc6
  obtain ⟨ct, ft⟩ := h.top
  obtain ⟨cbt, fbt⟩ := h.bot
  obtain ⟨cr, fr⟩ := h.rp
  obtain ⟨hb1, hb2⟩ := hs.b p
  obtain ⟨htt1, htt2⟩ := hs.t p
  obtain ⟨ht1, ht2⟩ := hs.top
  obtain ⟨hbo1, hbo2⟩ := hs.bot
  generalize hc : d.c p = c at *
  obtain ⟨b, t, v, won, k, i, s⟩ := c
  dsimp only at *
  replace h1 : ¬ s = 1 := h1
  replace h2 : ¬ s = 2 := h2
  replace h3 : ¬ s = 3 := h3
  have h1' : (s == 1) = false := by simpa using h1
  have h2' : (s == 2) = false := by simpa using h2
  have h3' : (s == 3) = false := by simpa using h3
  have hg2 : ¬ d.top = t := hg
  have hg3 : (d.top != t) = true := by simpa using hg2
  have hg4 : (d.top == t) = false := by simpa using hg2
  have HE := hide (show stealD d p = (4, d) by unfold stealD; rw [hc]; simp [h1, h2, h3, hg2])
  have HD := hide h
  generalize stealD d p = R at *
  clear h1 h2 h3 h hs hc hg hg2
  go_enter Try.func30, Try.ntmps30
  go_upto_region 2 with fail
  go_big_quiet (fail)
  go_wp2
  go_ret2
  exact ⟨by rw [HE.out]; rfl, by rw [HE.out]; exact HD.out.drewN _, Wr.ofB (below_drewN (Below.refl _ _) _)⟩

end Go.Proofs.Ytaooglcjcnkgnaa
