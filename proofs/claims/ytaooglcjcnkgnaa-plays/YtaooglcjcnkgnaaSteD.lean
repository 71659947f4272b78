/- steD. -/
import Derived.Test.YtaooglcjcnkgnaaPshA
namespace Go.Proofs.Ytaooglcjcnkgnaa
open Go.RowKit Go.ChangeShapes Go.WideShapes Go.ChangeAt Go.Deep

set_option maxRecDepth 100000 in
set_option maxHeartbeats 1000000 in
theorem steD (w : World) (cb g : Nat) (d : Dq) (p : Nat) (hp : p < 16) (h : DqM w cb g d) (hs : Sml 1000000 d) (h1 : ¬ (d.c p).s = 1) (h2 : ¬ (d.c p).s = 2) (h3 : ¬ (d.c p).s = 3) : Calls Try.prog 39 #[.pointer (some ⟨cb, 0, none⟩), .pointer (some ⟨cb, 3 + p * 7, none⟩)] w (GoPost cb g (stealD d p) w) := by
  have hc0 := h.call p 0 hp (by omega)
  have hc1 := h.call p 1 hp (by omega)
  have hc2 := h.call p 2 hp (by omega)
  have hc3 := h.call p 3 hp (by omega)
  have hc6 := h.call p 6 hp (by omega)
  simp only [clv, Nat.add_zero] at hc0 hc1 hc2 hc3 hc6
  obtain ⟨c0, f0⟩ := hc0
  obtain ⟨c1, f1⟩ := hc1
  obtain ⟨c2, f2⟩ := hc2
  obtain ⟨c3, f3⟩ := hc3
  obtain ⟨c6, f6⟩ := hc6
  obtain ⟨ct, ft⟩ := h.top
  obtain ⟨cbt, fbt⟩ := h.bot
  obtain ⟨hb1, hb2⟩ := hs.b p
  obtain ⟨htt1, htt2⟩ := hs.t p
  obtain ⟨ht1, ht2⟩ := hs.top
  obtain ⟨hbo1, hbo2⟩ := hs.bot
  generalize hc : d.c p = c at *
  obtain ⟨b, t, v, won, k, i, s⟩ := c
  dsimp only at *
  have h1' : (s == 1) = false := by simpa using h1
  have h2' : (s == 2) = false := by simpa using h2
  have h3' : (s == 3) = false := by simpa using h3
  have C46 := hide (winTop_any w cb g d t h (by omega))
  by_cases hg : d.top = t
  · have HE := hide (show stealD d p = (2, { d with top := t + 1 }) by unfold stealD; rw [hc]; simp [hg, h1, h2, h3])
    have HD := hide (h.setTop (t + 1))
    generalize stealD d p = R at *
    have HG := hide hg
    clear h hs hc hg h1 h2 h3
    go_enter Try.func39, Try.ntmps39
    go_wp2_with (go_at_call 46; go_must ((with_reducible refine C46.out.mono ?_); rintro e w1 (⟨-, rfl, rfl⟩ | ⟨hn, -, -⟩); (first | exact absurd HG.out hn | skip)))
    all_goals first
      | exact absurd HG.out hn
      | (go_ret; exact ⟨by rw [HE.out]; rfl, g, by rw [HE.out]; exact HD.out, Wr.set _ _ _ _ _, .inl rfl⟩)
  · have HE := hide (show stealD d p = (4, d) by unfold stealD; rw [hc]; simp [hg, h1, h2, h3])
    have HD := hide h
    generalize stealD d p = R at *
    have HG := hide hg
    clear h hs hc hg h1 h2 h3
    go_enter Try.func39, Try.ntmps39
    go_wp2_with (go_at_call 46; go_must ((with_reducible refine C46.out.mono ?_); rintro e w1 (⟨hn, -, -⟩ | ⟨-, rfl, rfl⟩); (first | exact absurd hn HG.out | skip)))
    all_goals first
      | exact absurd hn HG.out
      | (go_ret; exact ⟨by rw [HE.out]; rfl, g, by rw [HE.out]; exact HD.out, Wr.refl _ _ _, .inl rfl⟩)
end Go.Proofs.Ytaooglcjcnkgnaa
