/- push, a part. -/
import Derived.Test.YtaooglcjcnkgnaaPsh
namespace Go.Proofs.Ytaooglcjcnkgnaa
open Go.RowKit Go.ChangeShapes Go.WideShapes Go.ChangeAt Go.Deep

set_option maxRecDepth 100000 in
set_option maxHeartbeats 1000000 in
theorem push_e (w : World) (cb g : Nat) (d : Dq) (p : Nat) (hp : p < 16) (h : DqM w cb g d) (hs : Sml 1000000 d) (h1 : ¬ (d.c p).s = 1) (h2 : ¬ (d.c p).s = 2) (h3 : ¬ (d.c p).s = 3) : Calls Try.prog 37 #[.pointer (some ⟨cb, 0, none⟩), .pointer (some ⟨cb, 3 + p * 7, none⟩)] w (GoPost cb g (pushD d p) w) := by
  have hc0 := h.call p 0 hp (by omega)
  have hc1 := h.call p 1 hp (by omega)
  have hc5 := h.call p 5 hp (by omega)
  have hc6 := h.call p 6 hp (by omega)
  simp only [clv, Nat.add_zero] at hc0 hc1 hc5 hc6
  obtain ⟨c0, f0⟩ := hc0
  obtain ⟨c1, f1⟩ := hc1
  obtain ⟨c5, f5⟩ := hc5
  obtain ⟨c6, f6⟩ := hc6
  obtain ⟨ct, ft⟩ := h.top
  obtain ⟨cbt, fbt⟩ := h.bot
  have hb0 := hs.b p
  have ht0 := hs.top
  obtain ⟨hb1, hb2⟩ := hb0
  obtain ⟨ht1, ht2⟩ := ht0
  generalize hc : d.c p = c at *
  obtain ⟨b, t, v, won, k, i, s⟩ := c
  dsimp only at *
  have h1' : (s == 1) = false := by simpa using h1
  have h2' : (s == 2) = false := by simpa using h2
  have h3' : (s == 3) = false := by simpa using h3
  have HE := hide (show pushD d p = (1, { d with bot := b + 1 }) by unfold pushD; rw [hc]; simp [h1, h2, h3])
  have HD := hide (h.setBot (b + 1))
  clear h1 h2 h3 hs hc h
  generalize pushD d p = R at *
  go_enter Try.func37, Try.ntmps37
  go_wp2
  go_ret
  exact ⟨by rw [HE.out]; rfl, g, by rw [HE.out]; exact HD.out, Wr.set _ _ _ _ _, .inl rfl⟩
end Go.Proofs.Ytaooglcjcnkgnaa
