/- popG. -/
import Derived.Test.YtaooglcjcnkgnaaPshA
namespace Go.Proofs.Ytaooglcjcnkgnaa
open Go.RowKit Go.ChangeShapes Go.WideShapes Go.ChangeAt Go.Deep

set_option maxRecDepth 100000 in
set_option maxHeartbeats 1000000 in
theorem popG (w : World) (cb g : Nat) (d : Dq) (p : Nat) (hp : p < 16) (h : DqM w cb g d) (hs : Sml 1000000 d) (h1 : ¬ (d.c p).s = 1) (h2 : ¬ (d.c p).s = 2) (h3 : ¬ (d.c p).s = 3) (h4 : ¬ (d.c p).s = 4) : Calls Try.prog 38 #[.pointer (some ⟨cb, 0, none⟩), .pointer (some ⟨cb, 3 + p * 7, none⟩)] w (GoPost cb g (popD d p) w) := by
  have hc0 := h.call p 0 hp (by omega)
  have hc1 := h.call p 1 hp (by omega)
  have hc2 := h.call p 2 hp (by omega)
  have hc3 := h.call p 3 hp (by omega)
  have hc6 := h.call p 6 hp (by omega)
  simp only [clv, Nat.add_zero] at hc0 hc1 hc2 hc3 hc6
  obtain ⟨c0, f0⟩ := hc0
  obtain ⟨c1, f1⟩ := hc1
  obtain ⟨c2, f2⟩ := hc2
  obtain ⟨c3, f3⟩ := hc3
  obtain ⟨c6, f6⟩ := hc6
  obtain ⟨ct, ft⟩ := h.top
  obtain ⟨cbt, fbt⟩ := h.bot
  obtain ⟨hb1, hb2⟩ := hs.b p
  obtain ⟨htt1, htt2⟩ := hs.t p
  obtain ⟨ht1, ht2⟩ := hs.top
  obtain ⟨hbo1, hbo2⟩ := hs.bot
  generalize hc : d.c p = c at *
  obtain ⟨b, t, v, won, k, i, s⟩ := c
  dsimp only at *
  have h1' : (s == 1) = false := by simpa using h1
  have h2' : (s == 2) = false := by simpa using h2
  have h3' : (s == 3) = false := by simpa using h3
  have h4' : (s == 4) = false := by simpa using h4
  have HE := hide (show popD d p = (if won then 2 else 3, { d with bot := t + 1 }) by unfold popD; rw [hc]; simp [h1, h2, h3, h4])
  have HD := hide (h.setBot (t + 1))
  clear h1 h2 h3 h4 hs hc h
  generalize popD d p = R at *
  cases won <;>
    (go_enter Try.func38, Try.ntmps38
     go_wp2
     go_ret
     exact ⟨by rw [HE.out]; rfl, g, by rw [HE.out]; exact HD.out, Wr.set _ _ _ _ _, .inl rfl⟩)
end Go.Proofs.Ytaooglcjcnkgnaa
/- steA. -/

namespace Go.Proofs.Ytaooglcjcnkgnaa
open Go.RowKit Go.ChangeShapes Go.WideShapes Go.ChangeAt Go.Deep

set_option maxRecDepth 100000 in
set_option maxHeartbeats 1000000 in
theorem steA (w : World) (cb g : Nat) (d : Dq) (p : Nat) (hp : p < 16) (h : DqM w cb g d) (hs : Sml 1000000 d) (hs1 : (d.c p).s = 1) : Calls Try.prog 39 #[.pointer (some ⟨cb, 0, none⟩), .pointer (some ⟨cb, 3 + p * 7, none⟩)] w (GoPost cb g (stealD d p) w) := by
  have hc0 := h.call p 0 hp (by omega)
  have hc1 := h.call p 1 hp (by omega)
  have hc2 := h.call p 2 hp (by omega)
  have hc3 := h.call p 3 hp (by omega)
  have hc6 := h.call p 6 hp (by omega)
  simp only [clv, Nat.add_zero] at hc0 hc1 hc2 hc3 hc6
  obtain ⟨c0, f0⟩ := hc0
  obtain ⟨c1, f1⟩ := hc1
  obtain ⟨c2, f2⟩ := hc2
  obtain ⟨c3, f3⟩ := hc3
  obtain ⟨c6, f6⟩ := hc6
  obtain ⟨ct, ft⟩ := h.top
  obtain ⟨cbt, fbt⟩ := h.bot
  obtain ⟨hb1, hb2⟩ := hs.b p
  obtain ⟨htt1, htt2⟩ := hs.t p
  obtain ⟨ht1, ht2⟩ := hs.top
  obtain ⟨hbo1, hbo2⟩ := hs.bot
  generalize hc : d.c p = c at *
  obtain ⟨b, t, v, won, k, i, s⟩ := c
  dsimp only at *
  obtain rfl : s = 1 := hs1
  have HE := hide (show stealD d p = (0, d.put p { b := b, t := d.top, v := v, won := won, k := k, i := i, s := 1 }) by unfold stealD; rw [hc]; simp)
  have HD := hide (h.setCall p 1 hp (by omega) (.int .i64 d.top) { b := b, t := d.top, v := v, won := won, k := k, i := i, s := 1 } (by intro j hj; rw [hc]; rcases j with _ | _ | _ | _ | _ | _ | _ | j <;> simp [clv] <;> omega))
  generalize stealD d p = R at *
  clear h hs hc
  go_enter Try.func39, Try.ntmps39
  go_wp2
  go_ret
  exact ⟨by rw [HE.out]; rfl, g, by rw [HE.out]; exact HD.out, Wr.set _ _ _ _ _, .inl rfl⟩
end Go.Proofs.Ytaooglcjcnkgnaa
