/- The document's pop, step 4: won. -/
import Derived.Test.YtaooglcjcnkgnaaRqm
namespace Go.Proofs.Ytaooglcjcnkgnaa
open Go.RowKit Go.ChangeShapes Go.WideShapes Go.ChangeAt Go.Deep

set_option linter.unusedSimpArgs false in
set_option maxRecDepth 100000 in
set_option maxHeartbeats 1000000 in
theorem rpo_f (w : World) (cb rb g : Nat) (d : Dq) (p : Nat) (hp : p < 16) (h : RQ w cb rb g d) (hs : Sml 1000000 d) (hs4 : (d.c p).s = 4) (hg : d.top = (d.c p).t) : Calls Try.prog 29 #[.pointer (some ⟨cb, 0, none⟩), .pointer (some ⟨cb, 3 + p * 7, none⟩)] w (PoPost cb rb g p (popD d p) w) := by
  have hc1 := h.call p 1 hp (by omega)
  have hc2 := h.call p 2 hp (by omega)
  have hc3 := h.call p 3 hp (by omega)
  have hc4 := h.call p 4 hp (by omega)
  have hc5 := h.call p 5 hp (by omega)
  have hc6 := h.call p 6 hp (by omega)
  simp only [rcl, Nat.add_zero] at hc1 hc2 hc3 hc4 hc5 hc6
  obtain ⟨c1, f1⟩ := hc1
  obtain ⟨c2, f2⟩ := hc2
  obtain ⟨c3, f3⟩ := hc3
  obtain ⟨c4, f4⟩ := hc4
  obtain ⟨c5, f5⟩ := hc5
  obtain ⟨c6, f6⟩ := hc6
  obtain ⟨ct, ft⟩ := h.top
  obtain ⟨cbt, fbt⟩ := h.bot
  obtain ⟨cr, fr⟩ := h.rp
  obtain ⟨hb1, hb2⟩ := hs.b p
  obtain ⟨htt1, htt2⟩ := hs.t p
  obtain ⟨ht1, ht2⟩ := hs.top
  obtain ⟨hbo1, hbo2⟩ := hs.bot
  generalize hc : d.c p = c at *
  obtain ⟨b, t, v, won, k, i, s⟩ := c
  dsimp only at *
  obtain rfl : s = 4 := hs4
  have h1' : ((4 : Int) == 1) = false := by decide
  have h2' : ((4 : Int) == 2) = false := by decide
  have h3' : ((4 : Int) == 3) = false := by decide
  have hg2 : d.top = t := hg
  have HE := hide (show popD d p = (0, { d.put p { b := b, t := t, v := v, won := true, k := k, i := i, s := 4 } with top := t + 1 }) by unfold popD; rw [hc]; simp [hg2])
  have HD := hide ((h.setTop (t + 1)).setCall p 6 hp (by omega) (.int .i64 1) { b := b, t := t, v := v, won := true, k := k, i := i, s := 4 } (by intro j hj; show _ = if j = 6 then _ else rcl (d.c p) j; rw [hc]; rcases j with _ | _ | _ | _ | _ | _ | _ | j <;> simp [rcl, wn] <;> omega))
  have HDQ := hide (fun q => ((h.drewN q).setTop (t + 1)).setCall p 6 hp (by omega) (.int .i64 1) { b := b, t := t, v := v, won := true, k := k, i := i, s := 4 } (by intro j hj; show _ = if j = 6 then _ else rcl (d.c p) j; rw [hc]; rcases j with _ | _ | _ | _ | _ | _ | _ | j <;> simp [rcl, wn] <;> omega))
  rw [hg2] at ct
  generalize popD d p = R at *
  clear h hs hc HD hg hg2
  go_enter Try.func29, Try.ntmps29
  go_upto_region 19 with fail
  go_big_quiet (fail)
  go_wp2
  go_ret2
  exact ⟨by rw [HE.out]; rfl, by rw [HE.out]; exact HDQ.out _, (Wr.ofB (below_drewN (Below.refl _ _) _)).trans ((Wr.set _ _ _ _ _).trans (Wr.set _ _ _ _ _))⟩

end Go.Proofs.Ytaooglcjcnkgnaa
