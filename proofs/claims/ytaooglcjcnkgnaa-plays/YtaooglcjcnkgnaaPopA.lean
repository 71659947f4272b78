/- push, a part. -/
import Derived.Test.YtaooglcjcnkgnaaPshA
namespace Go.Proofs.Ytaooglcjcnkgnaa
open Go.RowKit Go.ChangeShapes Go.WideShapes Go.ChangeAt Go.Deep

set_option maxRecDepth 100000 in
set_option maxHeartbeats 1000000 in
theorem push_e (w : World) (cb g : Nat) (d : Dq) (p : Nat) (hp : p < 16) (h : DqM w cb g d) (hs : Sml 1000000 d) (h1 : ¬ (d.c p).s = 1) (h2 : ¬ (d.c p).s = 2) (h3 : ¬ (d.c p).s = 3) : Calls Try.prog 37 #[.pointer (some ⟨cb, 0, none⟩), .pointer (some ⟨cb, 3 + p * 7, none⟩)] w (GoPost cb g (pushD d p) w) := by
  have hc0 := h.call p 0 hp (by omega)
  have hc1 := h.call p 1 hp (by omega)
  have hc5 := h.call p 5 hp (by omega)
  have hc6 := h.call p 6 hp (by omega)
  simp only [clv, Nat.add_zero] at hc0 hc1 hc5 hc6
  obtain ⟨c0, f0⟩ := hc0
  obtain ⟨c1, f1⟩ := hc1
  obtain ⟨c5, f5⟩ := hc5
  obtain ⟨c6, f6⟩ := hc6
  obtain ⟨ct, ft⟩ := h.top
  obtain ⟨cbt, fbt⟩ := h.bot
  have hb0 := hs.b p
  have ht0 := hs.top
  obtain ⟨hb1, hb2⟩ := hb0
  obtain ⟨ht1, ht2⟩ := ht0
  generalize hc : d.c p = c at *
  obtain ⟨b, t, v, won, k, i, s⟩ := c
  dsimp only at *
  have h1' : (s == 1) = false := by simpa using h1
  have h2' : (s == 2) = false := by simpa using h2
  have h3' : (s == 3) = false := by simpa using h3
  have HE := hide (show pushD d p = (1, { d with bot := b + 1 }) by unfold pushD; rw [hc]; simp [h1, h2, h3])
  have HD := hide (h.setBot (b + 1))
  clear h1 h2 h3 hs hc h
  generalize pushD d p = R at *
  go_enter Try.func37, Try.ntmps37
  go_wp2
  go_ret
  exact ⟨by rw [HE.out]; rfl, g, by rw [HE.out]; exact HD.out, Wr.set _ _ _ _ _, .inl rfl⟩
end Go.Proofs.Ytaooglcjcnkgnaa
/- popA. -/

namespace Go.Proofs.Ytaooglcjcnkgnaa
open Go.RowKit Go.ChangeShapes Go.WideShapes Go.ChangeAt Go.Deep

set_option maxRecDepth 100000 in
set_option maxHeartbeats 1000000 in
theorem popA (w : World) (cb g : Nat) (d : Dq) (p : Nat) (hp : p < 16) (h : DqM w cb g d) (hs : Sml 1000000 d) (hs1 : (d.c p).s = 1) : Calls Try.prog 38 #[.pointer (some ⟨cb, 0, none⟩), .pointer (some ⟨cb, 3 + p * 7, none⟩)] w (GoPost cb g (popD d p) w) := by
  have hc0 := h.call p 0 hp (by omega)
  have hc1 := h.call p 1 hp (by omega)
  have hc2 := h.call p 2 hp (by omega)
  have hc3 := h.call p 3 hp (by omega)
  have hc6 := h.call p 6 hp (by omega)
  simp only [clv, Nat.add_zero] at hc0 hc1 hc2 hc3 hc6
  obtain ⟨c0, f0⟩ := hc0
  obtain ⟨c1, f1⟩ := hc1
  obtain ⟨c2, f2⟩ := hc2
  obtain ⟨c3, f3⟩ := hc3
  obtain ⟨c6, f6⟩ := hc6
  obtain ⟨ct, ft⟩ := h.top
  obtain ⟨cbt, fbt⟩ := h.bot
  obtain ⟨hb1, hb2⟩ := hs.b p
  obtain ⟨htt1, htt2⟩ := hs.t p
  obtain ⟨ht1, ht2⟩ := hs.top
  obtain ⟨hbo1, hbo2⟩ := hs.bot
  generalize hc : d.c p = c at *
  obtain ⟨b, t, v, won, k, i, s⟩ := c
  dsimp only at *
  obtain rfl : s = 1 := hs1
  have HE := hide (show popD d p = (0, { d.put p { b := d.bot - 1, t := t, v := v, won := won, k := k, i := i, s := 1 } with bot := d.bot - 1 }) by unfold popD; rw [hc]; simp)
  have HD := hide ((h.setCall p 0 hp (by omega) (.int .i64 (d.bot - 1)) { b := d.bot - 1, t := t, v := v, won := won, k := k, i := i, s := 1 } (by intro j hj; rw [hc]; rcases j with _ | _ | _ | _ | _ | _ | _ | j <;> simp [clv] <;> omega)).setBot (d.bot - 1))
  generalize popD d p = R at *
  clear h hs hc
  go_enter Try.func38, Try.ntmps38
  go_wp2
  go_ret
  exact ⟨by rw [HE.out]; rfl, g, by rw [HE.out]; exact HD.out, (Wr.set _ _ _ _ _).trans (Wr.set _ _ _ _ _), .inl rfl⟩
end Go.Proofs.Ytaooglcjcnkgnaa
