/- The document's pop, step 4: lost. -/
import Derived.Test.YtaooglcjcnkgnaaRqm
namespace Go.Proofs.Ytaooglcjcnkgnaa
open Go.RowKit Go.ChangeShapes Go.WideShapes Go.ChangeAt Go.Deep

set_option linter.unusedSimpArgs false in
set_option maxRecDepth 100000 in
set_option maxHeartbeats 1000000 in
theorem rpo_g (w : World) (cb rb g : Nat) (d : Dq) (p : Nat) (hp : p < 16) (h : RQ w cb rb g d) (hs : Sml 1000000 d) (hs4 : (d.c p).s = 4) (hg : ¬ d.top = (d.c p).t) (hw : (d.c p).won = false) : Calls Try.prog 29 #[.pointer (some ⟨cb, 0, none⟩), .pointer (some ⟨cb, 3 + p * 7, none⟩)] w (PoPost cb rb g p (popD d p) w) := by
  have hc1 := h.call p 1 hp (by omega)
  have hc2 := h.call p 2 hp (by omega)
  have hc3 := h.call p 3 hp (by omega)
  have hc4 := h.call p 4 hp (by omega)
  have hc5 := h.call p 5 hp (by omega)
  have hc6 := h.call p 6 hp (by omega)
  simp only [rcl, Nat.add_zero] at hc1 hc2 hc3 hc4 hc5 hc6
  obtain ⟨c1, f1⟩ := hc1
  obtain ⟨c2, f2⟩ := hc2
  obtain ⟨c3, f3⟩ := hc3
  obtain ⟨c4, f4⟩ := hc4
  obtain ⟨c5, f5⟩ := hc5
  obtain ⟨c6, f6⟩ := hc6
  obtain ⟨ct, ft⟩ := h.top
  obtain ⟨cbt, fbt⟩ := h.bot
  obtain ⟨cr, fr⟩ := h.rp
  obtain ⟨hb1, hb2⟩ := hs.b p
  obtain ⟨htt1, htt2⟩ := hs.t p
  obtain ⟨ht1, ht2⟩ := hs.top
  obtain ⟨hbo1, hbo2⟩ := hs.bot
  generalize hc : d.c p = c at *
  obtain ⟨b, t, v, won, k, i, s⟩ := c
  dsimp only at *
  obtain rfl : s = 4 := hs4
  obtain rfl : won = false := hw
  have h1' : ((4 : Int) == 1) = false := by decide
  have h2' : ((4 : Int) == 2) = false := by decide
  have h3' : ((4 : Int) == 3) = false := by decide
  have hg2 : ¬ d.top = t := hg
  have hg3 : (d.top == t) = false := by simpa using hg2
  have HE := hide (show popD d p = (0, d) by
    have e := put_self d p
    rw [hc] at e
    unfold popD; rw [hc]; simp [hg2, e])
  have HD := hide h
  generalize popD d p = R at *
  clear h hs hc hg hg2
  go_enter Try.func29, Try.ntmps29
  go_upto_region 19 with fail
  go_big_quiet (fail)
  go_wp2
  go_ret2
  exact ⟨by rw [HE.out]; rfl, by rw [HE.out]; exact HD.out.drewN _, Wr.ofB (below_drewN (Below.refl _ _) _)⟩

end Go.Proofs.Ytaooglcjcnkgnaa
/- The document's pop, step 5: won. -/

namespace Go.Proofs.Ytaooglcjcnkgnaa
open Go.RowKit Go.ChangeShapes Go.WideShapes Go.ChangeAt Go.Deep

set_option linter.unusedSimpArgs false in
set_option maxRecDepth 100000 in
set_option maxHeartbeats 1000000 in
theorem rpo_h (w : World) (cb rb g : Nat) (d : Dq) (p : Nat) (hp : p < 16) (h : RQ w cb rb g d) (hs : Sml 1000000 d) (h1 : ¬ (d.c p).s = 1) (h2 : ¬ (d.c p).s = 2) (h3 : ¬ (d.c p).s = 3) (h4 : ¬ (d.c p).s = 4) (hg : (d.c p).won = true) : Calls Try.prog 29 #[.pointer (some ⟨cb, 0, none⟩), .pointer (some ⟨cb, 3 + p * 7, none⟩)] w (PoPost cb rb g p (popD d p) w) := by
  have hc1 := h.call p 1 hp (by omega)
  have hc2 := h.call p 2 hp (by omega)
  have hc3 := h.call p 3 hp (by omega)
  have hc4 := h.call p 4 hp (by omega)
  have hc5 := h.call p 5 hp (by omega)
  have hc6 := h.call p 6 hp (by omega)
  simp only [rcl, Nat.add_zero] at hc1 hc2 hc3 hc4 hc5 hc6
  obtain ⟨c1, f1⟩ := hc1
  obtain ⟨c2, f2⟩ := hc2
  obtain ⟨c3, f3⟩ := hc3
  obtain ⟨c4, f4⟩ := hc4
  obtain ⟨c5, f5⟩ := hc5
  obtain ⟨c6, f6⟩ := hc6
  obtain ⟨ct, ft⟩ := h.top
  obtain ⟨cbt, fbt⟩ := h.bot
  obtain ⟨cr, fr⟩ := h.rp
  obtain ⟨hb1, hb2⟩ := hs.b p
  obtain ⟨htt1, htt2⟩ := hs.t p
  obtain ⟨ht1, ht2⟩ := hs.top
  obtain ⟨hbo1, hbo2⟩ := hs.bot
  generalize hc : d.c p = c at *
  obtain ⟨b, t, v, won, k, i, s⟩ := c
  dsimp only at *
  replace h1 : ¬ s = 1 := h1
  replace h2 : ¬ s = 2 := h2
  replace h3 : ¬ s = 3 := h3
  replace h4 : ¬ s = 4 := h4
  obtain rfl : won = true := hg
  have h1' : (s == 1) = false := by simpa using h1
  have h2' : (s == 2) = false := by simpa using h2
  have h3' : (s == 3) = false := by simpa using h3
  have h4' : (s == 4) = false := by simpa using h4
  have HE := hide (show popD d p = (2, { d with bot := t + 1 }) by unfold popD; rw [hc]; simp [h1, h2, h3, h4])
  have HD := hide (h.setBot (t + 1))
  have HV := hide (show (d.c p).v = v by rw [hc])
  simp only [wn] at c6
  clear h1 h2 h3 h4 hs hc h
  generalize popD d p = R at *
  go_enter Try.func29, Try.ntmps29
  go_upto_region 4 with fail
  have HW := hide (Wr.set cb g 1 (.int .i64 (t + 1)) w)
  have c5' : (w.setCell ⟨cb, 1, none⟩ (.int .i64 (t + 1))).cell? ⟨cb, 3 + p * 7 + 5, none⟩ = some (.int .i64 v) := by rw [World.cell?_setCell_other (h := by simp)]; exact c5
  generalize w.setCell ⟨cb, 1, none⟩ (.int .i64 (t + 1)) = w1 at *
  go_big_quiet (fail)
  go_wp2
  go_ret2
  exact ⟨by rw [HE.out]; simp [HV.out], by rw [HE.out]; exact HD.out.drewN _, HW.out.trans (Wr.ofB (below_drewN (Below.refl _ _) _))⟩

end Go.Proofs.Ytaooglcjcnkgnaa
