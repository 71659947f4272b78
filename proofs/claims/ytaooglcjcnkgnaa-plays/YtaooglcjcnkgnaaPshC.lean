/- push, a part. -/
import Derived.Test.YtaooglcjcnkgnaaPshA
namespace Go.Proofs.Ytaooglcjcnkgnaa
open Go.RowKit Go.ChangeShapes Go.WideShapes Go.ChangeAt Go.Deep

set_option maxRecDepth 100000 in
set_option maxHeartbeats 1000000 in
theorem push_c (w : World) (cb g : Nat) (d : Dq) (p : Nat) (hp : p < 16) (h : DqM w cb g d) (hs : Sml 1000000 d) (hs2 : (d.c p).s = 2) (hg : ¬ (d.n : Int) - 1 ≤ (d.c p).b - d.top) : Calls Try.prog 37 #[.pointer (some ⟨cb, 0, none⟩), .pointer (some ⟨cb, 3 + p * 7, none⟩)] w (GoPost cb g (pushD d p) w) := by
  have hc0 := h.call p 0 hp (by omega)
  have hc1 := h.call p 1 hp (by omega)
  have hc5 := h.call p 5 hp (by omega)
  have hc6 := h.call p 6 hp (by omega)
  simp only [clv, Nat.add_zero] at hc0 hc1 hc5 hc6
  obtain ⟨c0, f0⟩ := hc0
  obtain ⟨c1, f1⟩ := hc1
  obtain ⟨c5, f5⟩ := hc5
  obtain ⟨c6, f6⟩ := hc6
  obtain ⟨ct, ft⟩ := h.top
  obtain ⟨cbt, fbt⟩ := h.bot
  have hb0 := hs.b p
  have ht0 := hs.top
  obtain ⟨hb1, hb2⟩ := hb0
  obtain ⟨ht1, ht2⟩ := ht0
  generalize hc : d.c p = c at *
  obtain ⟨b, t, v, won, k, i, s⟩ := c
  dsimp only at *
  have h2 : s = 2 := hs2
  have h1 : True := trivial
  clear hs2
  subst h2
  have h1' : ((2 : Int) == 1) = false := by decide
  have HD := hide (h.setCall p 1 hp (by omega) (.int .i64 d.top) { b := b, t := d.top, v := v, won := won, k := k, i := i, s := 2 } (by intro j hj; rw [hc]; rcases j with _ | _ | _ | _ | _ | _ | _ | j <;> simp [clv] <;> omega))
  have HW := hide (Wr.set cb g (3 + p * 7 + 1) (.int .i64 d.top) w)
  have HE := hide (show pushD d p = (0, d.put p { b := b, t := d.top, v := v, won := won, k := k, i := i, s := 2 }) by
    unfold pushD; rw [hc]; simp [hg])
  clear h1 hs
  have hn := h.pow.pos
  obtain ⟨hn1, hn2⟩ := hn
  have hw1 : IntKind.i64.wrap (b - d.top) = b - d.top := by rw [IntKind.wrap_i64]; omega
  have hw2 : IntKind.i64.wrap ((d.n : Int) - 1) = (d.n : Int) - 1 := by rw [IntKind.wrap_i64]; omega
  have hg' : decide ((d.n : Int) - 1 ≤ b - d.top) = false := by simpa using hg
  generalize pushD d p = R at *
  clear h hc
  go_enter Try.func37, Try.ntmps37
  go_upto_region 8 with fail
  generalize w.setCell ⟨cb, 3 + p * 7 + 1, none⟩ (.int .i64 d.top) = w1 at *
  have hd0 := (HD.out.call p 0 hp (by omega))
  have hd1 := (HD.out.call p 1 hp (by omega))
  rw [Dq.put_same] at hd0 hd1
  simp only [clv, Nat.add_zero] at hd0 hd1
  obtain ⟨e0, g0⟩ := hd0
  obtain ⟨e1, g1⟩ := hd1
  clear c0 c1 c5 c6 ct cbt f0 f1 f5 f6 ft fbt
  have C44 := hide (fun q => size_any (w1.drewN q) cb 2 g d.n d.L (HD.out.ring.drewN q))
  go_big_quiet (first | (go_at_call 44; with_reducible exact Calls.quiet_of_same (C44.out _)))
  go_wp2
  go_ret
  exact ⟨by rw [HE.out]; rfl, g, by rw [HE.out]; exact HD.out.drewN _, HW.out.trans (Wr.ofB (below_drewN (Below.refl _ _) _)), .inl rfl⟩
end Go.Proofs.Ytaooglcjcnkgnaa
