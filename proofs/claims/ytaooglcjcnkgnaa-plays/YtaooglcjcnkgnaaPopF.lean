/- popF. -/
import Derived.Test.YtaooglcjcnkgnaaPshA
namespace Go.Proofs.Ytaooglcjcnkgnaa
open Go.RowKit Go.ChangeShapes Go.WideShapes Go.ChangeAt Go.Deep

set_option maxRecDepth 100000 in
set_option maxHeartbeats 1000000 in
theorem popF (w : World) (cb g : Nat) (d : Dq) (p : Nat) (hp : p < 16) (h : DqM w cb g d) (hs : Sml 1000000 d) (hs4 : (d.c p).s = 4) : Calls Try.prog 38 #[.pointer (some ⟨cb, 0, none⟩), .pointer (some ⟨cb, 3 + p * 7, none⟩)] w (GoPost cb g (popD d p) w) := by
  have hc0 := h.call p 0 hp (by omega)
  have hc1 := h.call p 1 hp (by omega)
  have hc2 := h.call p 2 hp (by omega)
  have hc3 := h.call p 3 hp (by omega)
  have hc6 := h.call p 6 hp (by omega)
  simp only [clv, Nat.add_zero] at hc0 hc1 hc2 hc3 hc6
  obtain ⟨c0, f0⟩ := hc0
  obtain ⟨c1, f1⟩ := hc1
  obtain ⟨c2, f2⟩ := hc2
  obtain ⟨c3, f3⟩ := hc3
  obtain ⟨c6, f6⟩ := hc6
  obtain ⟨ct, ft⟩ := h.top
  obtain ⟨cbt, fbt⟩ := h.bot
  obtain ⟨hb1, hb2⟩ := hs.b p
  obtain ⟨htt1, htt2⟩ := hs.t p
  obtain ⟨ht1, ht2⟩ := hs.top
  obtain ⟨hbo1, hbo2⟩ := hs.bot
  generalize hc : d.c p = c at *
  obtain ⟨b, t, v, won, k, i, s⟩ := c
  dsimp only at *
  obtain rfl : s = 4 := hs4
  have h1' : ((4 : Int) == 1) = false := by decide
  have h2' : ((4 : Int) == 2) = false := by decide
  have h3' : ((4 : Int) == 3) = false := by decide
  have C46 := hide (winTop_any w cb g d t h (by omega))
  by_cases hg : d.top = t
  · have HE := hide (show popD d p = (0, { d.put p { b := b, t := t, v := v, won := true, k := k, i := i, s := 4 } with top := t + 1 }) by unfold popD; rw [hc]; simp [hg])
    have HD := hide ((h.setTop (t + 1)).setCall p 3 hp (by omega) (.bool true) { b := b, t := t, v := v, won := true, k := k, i := i, s := 4 } (by intro j hj; show _ = if j = 3 then _ else clv (d.c p) j; rw [hc]; rcases j with _ | _ | _ | _ | _ | _ | _ | j <;> simp [clv] <;> omega))
    generalize popD d p = R at *
    have HG := hide hg
    clear h hs hc hg
    go_enter Try.func38, Try.ntmps38
    go_wp2_with (go_at_call 46; go_must ((with_reducible refine C46.out.mono ?_); rintro e w1 (⟨-, rfl, rfl⟩ | ⟨hn, -, -⟩); (first | exact absurd HG.out hn | skip)))
    all_goals first
      | exact absurd HG.out hn
      | (go_ret; exact ⟨by rw [HE.out]; rfl, g, by rw [HE.out]; exact HD.out, (Wr.set _ _ _ _ _).trans (Wr.set _ _ _ _ _), .inl rfl⟩)
  · have HE := hide (show popD d p = (0, d.put p { b := b, t := t, v := v, won := false, k := k, i := i, s := 4 }) by unfold popD; rw [hc]; simp [hg])
    have HD := hide (h.setCall p 3 hp (by omega) (.bool false) { b := b, t := t, v := v, won := false, k := k, i := i, s := 4 } (by intro j hj; rw [hc]; rcases j with _ | _ | _ | _ | _ | _ | _ | j <;> simp [clv] <;> omega))
    generalize popD d p = R at *
    have HG := hide hg
    clear h hs hc hg
    go_enter Try.func38, Try.ntmps38
    go_wp2_with (go_at_call 46; go_must ((with_reducible refine C46.out.mono ?_); rintro e w1 (⟨hn, -, -⟩ | ⟨-, rfl, rfl⟩); (first | exact absurd hn HG.out | skip)))
    all_goals first
      | exact absurd hn HG.out
      | (go_ret; exact ⟨by rw [HE.out]; rfl, g, by rw [HE.out]; exact HD.out, Wr.set _ _ _ _ _, .inl rfl⟩)
end Go.Proofs.Ytaooglcjcnkgnaa
