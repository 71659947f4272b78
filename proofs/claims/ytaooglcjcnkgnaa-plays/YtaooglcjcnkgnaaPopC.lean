/- popB. -/
import Derived.Test.YtaooglcjcnkgnaaPshA
namespace Go.Proofs.Ytaooglcjcnkgnaa
open Go.RowKit Go.ChangeShapes Go.WideShapes Go.ChangeAt Go.Deep

set_option maxRecDepth 100000 in
set_option maxHeartbeats 1000000 in
theorem popB (w : World) (cb g : Nat) (d : Dq) (p : Nat) (hp : p < 16) (h : DqM w cb g d) (hs : Sml 1000000 d) (hs2 : (d.c p).s = 2) (hg : (d.c p).b < d.top) : Calls Try.prog 38 #[.pointer (some ⟨cb, 0, none⟩), .pointer (some ⟨cb, 3 + p * 7, none⟩)] w (GoPost cb g (popD d p) w) := by
  have hc0 := h.call p 0 hp (by omega)
  have hc1 := h.call p 1 hp (by omega)
  have hc2 := h.call p 2 hp (by omega)
  have hc3 := h.call p 3 hp (by omega)
  have hc6 := h.call p 6 hp (by omega)
  simp only [clv, Nat.add_zero] at hc0 hc1 hc2 hc3 hc6
  obtain ⟨c0, f0⟩ := hc0
  obtain ⟨c1, f1⟩ := hc1
  obtain ⟨c2, f2⟩ := hc2
  obtain ⟨c3, f3⟩ := hc3
  obtain ⟨c6, f6⟩ := hc6
  obtain ⟨ct, ft⟩ := h.top
  obtain ⟨cbt, fbt⟩ := h.bot
  obtain ⟨hb1, hb2⟩ := hs.b p
  obtain ⟨htt1, htt2⟩ := hs.t p
  obtain ⟨ht1, ht2⟩ := hs.top
  obtain ⟨hbo1, hbo2⟩ := hs.bot
  generalize hc : d.c p = c at *
  obtain ⟨b, t, v, won, k, i, s⟩ := c
  dsimp only at *
  obtain rfl : s = 2 := hs2
  have h1' : ((2 : Int) == 1) = false := by decide
  have HD := hide (h.setCall p 1 hp (by omega) (.int .i64 d.top) { b := b, t := d.top, v := v, won := won, k := k, i := i, s := 2 } (by intro j hj; rw [hc]; rcases j with _ | _ | _ | _ | _ | _ | _ | j <;> simp [clv] <;> omega))
  have HW := hide (Wr.set cb g (3 + p * 7 + 1) (.int .i64 d.top) w)
  have HE := hide (show popD d p = (3, { d.put p { b := b, t := d.top, v := v, won := won, k := k, i := i, s := 2 } with bot := d.top }) by unfold popD; rw [hc]; simp [hg])
  generalize popD d p = R at *
  clear h hs hc
  go_enter Try.func38, Try.ntmps38
  go_upto_region 11 with fail
  generalize w.setCell ⟨cb, 3 + p * 7 + 1, none⟩ (.int .i64 d.top) = w1 at *
  have hd0 := (HD.out.call p 0 hp (by omega))
  have hd1 := (HD.out.call p 1 hp (by omega))
  rw [Dq.put_same] at hd0 hd1
  simp only [clv, Nat.add_zero] at hd0 hd1
  obtain ⟨e0, g0⟩ := hd0
  obtain ⟨e1, g1⟩ := hd1
  have hdb := HD.out.bot
  obtain ⟨eb, gb⟩ := hdb
  clear c0 c1 c2 c3 c6 ct cbt f0 f1 f2 f3 f6 ft fbt
  have HDB := hide (fun q => (HD.out.drewN q).setBot d.top)
  go_big_quiet (fail)
  go_wp2
  go_ret
  exact ⟨by rw [HE.out]; rfl, g, by rw [HE.out]; exact HDB.out _, HW.out.trans ((Wr.ofB (below_drewN (Below.refl _ _) _)).trans (Wr.set _ _ _ _ _)), .inl rfl⟩
end Go.Proofs.Ytaooglcjcnkgnaa
/- popC. -/

namespace Go.Proofs.Ytaooglcjcnkgnaa
open Go.RowKit Go.ChangeShapes Go.WideShapes Go.ChangeAt Go.Deep

set_option maxRecDepth 100000 in
set_option maxHeartbeats 1000000 in
theorem popC (w : World) (cb g : Nat) (d : Dq) (p : Nat) (hp : p < 16) (h : DqM w cb g d) (hs : Sml 1000000 d) (hs2 : (d.c p).s = 2) (hg : ¬ (d.c p).b < d.top) : Calls Try.prog 38 #[.pointer (some ⟨cb, 0, none⟩), .pointer (some ⟨cb, 3 + p * 7, none⟩)] w (GoPost cb g (popD d p) w) := by
  have hc0 := h.call p 0 hp (by omega)
  have hc1 := h.call p 1 hp (by omega)
  have hc2 := h.call p 2 hp (by omega)
  have hc3 := h.call p 3 hp (by omega)
  have hc6 := h.call p 6 hp (by omega)
  simp only [clv, Nat.add_zero] at hc0 hc1 hc2 hc3 hc6
  obtain ⟨c0, f0⟩ := hc0
  obtain ⟨c1, f1⟩ := hc1
  obtain ⟨c2, f2⟩ := hc2
  obtain ⟨c3, f3⟩ := hc3
  obtain ⟨c6, f6⟩ := hc6
  obtain ⟨ct, ft⟩ := h.top
  obtain ⟨cbt, fbt⟩ := h.bot
  obtain ⟨hb1, hb2⟩ := hs.b p
  obtain ⟨htt1, htt2⟩ := hs.t p
  obtain ⟨ht1, ht2⟩ := hs.top
  obtain ⟨hbo1, hbo2⟩ := hs.bot
  generalize hc : d.c p = c at *
  obtain ⟨b, t, v, won, k, i, s⟩ := c
  dsimp only at *
  obtain rfl : s = 2 := hs2
  have h1' : ((2 : Int) == 1) = false := by decide
  have HD := hide (h.setCall p 1 hp (by omega) (.int .i64 d.top) { b := b, t := d.top, v := v, won := won, k := k, i := i, s := 2 } (by intro j hj; rw [hc]; rcases j with _ | _ | _ | _ | _ | _ | _ | j <;> simp [clv] <;> omega))
  have HW := hide (Wr.set cb g (3 + p * 7 + 1) (.int .i64 d.top) w)
  have HE := hide (show popD d p = (0, d.put p { b := b, t := d.top, v := v, won := won, k := k, i := i, s := 2 }) by unfold popD; rw [hc]; simp [hg])
  generalize popD d p = R at *
  clear h hs hc
  go_enter Try.func38, Try.ntmps38
  go_upto_region 11 with fail
  generalize w.setCell ⟨cb, 3 + p * 7 + 1, none⟩ (.int .i64 d.top) = w1 at *
  have hd0 := (HD.out.call p 0 hp (by omega))
  have hd1 := (HD.out.call p 1 hp (by omega))
  rw [Dq.put_same] at hd0 hd1
  simp only [clv, Nat.add_zero] at hd0 hd1
  obtain ⟨e0, g0⟩ := hd0
  obtain ⟨e1, g1⟩ := hd1
  have hdb := HD.out.bot
  obtain ⟨eb, gb⟩ := hdb
  clear c0 c1 c2 c3 c6 ct cbt f0 f1 f2 f3 f6 ft fbt
  have HDB := hide (fun q => (HD.out.drewN q).setBot d.top)
  go_big_quiet (fail)
  go_wp2
  go_ret
  exact ⟨by rw [HE.out]; rfl, g, by rw [HE.out]; exact HD.out.drewN _, HW.out.trans (Wr.ofB (below_drewN (Below.refl _ _) _)), .inl rfl⟩
end Go.Proofs.Ytaooglcjcnkgnaa
