/- push. -/
import Derived.Test.YtaooglcjcnkgnaaBeg
namespace Go.Proofs.Ytaooglcjcnkgnaa
open Go.RowKit Go.ChangeShapes Go.WideShapes Go.ChangeAt Go.Deep

def GoPost (cb g : Nat) (r : Int × Dq) (w : World) (e : Ending) (w' : World) : Prop :=
  e = .returned (.int .i64 r.1) ∧ ∃ g', DqM w' cb g' r.2 ∧ Wr cb g w w' ∧ (g' = g ∨ w.heap.size ≤ g')

/-- The ring is another one. -/
theorem DqM.setRing {w : World} {cb g : Nat} {d : Dq} (h : DqM w cb g d) (cb' g' n' : Nat) (L' : List Int) (hr : RingP w cb' 0 g' n' L') (hne : cb ≠ g') : DqM (w.setCell ⟨cb, 2, none⟩ (.slice (some ⟨g', 0, none⟩) n' n')) cb g' { d with n := n', L := L' } := by
  refine ⟨h.bx.put 2 _ fun j _ => ?_, hr.pow, hr.len, hr.own.kept (grown_setCell w cb 2 _) (.inr (by simpa [Value.ownBlock] using fun e => hne e.symm)), hne⟩
  unfold dcell
  by_cases e0 : j = 0
  · simp [e0]
  by_cases e1 : j = 1
  · simp [e1]
  by_cases e2 : j = 2
  · simp [e2]
  · simp [e0, e1, e2]

theorem DqM.setL {w w' : World} {cb g : Nat} {d : Dq} {L' : List Int} (h : DqM w cb g d) (hr : RingP w' cb 2 g d.n L') (hg : w.grownBy w' (some g)) : DqM w' cb g { d with L := L' } :=
  ⟨h.bx.keep (hg.block cb h.bx.lt (by simpa using h.ne)), hr.pow, hr.len, hr.own, h.ne⟩

theorem ne_sizes {a b c x y : Nat} (q1 : a ≤ x) (q2 : y < c) (q3 : b = c) (q4 : a = b) : y ≠ x := by omega
theorem le_sizes {a b c x : Nat} (q1 : a ≤ x) (q3 : b = c) (q4 : a = b) : c ≤ x := by omega

theorem get_below (w : World) (cb o g n : Nat) (L : List Int) (i : Int) (h : RingP w cb o g n L) :
    Calls Try.prog 32 #[.pointer (some ⟨cb, o, none⟩), .int .i64 i] w.drew fun e w' => e = .returned (.int .i64 (L.getD (plc n i) 0)) ∧ Below w.heap.size w w' :=
  (get_any w.drew cb o g n L i (h.drewN 1)).mono fun e w' ⟨h1, q, h2⟩ => ⟨h1, by rw [h2]; exact below_drewN (below_drewN (Below.refl _ _) 1) q⟩
end Go.Proofs.Ytaooglcjcnkgnaa
/- push, a part. -/

namespace Go.Proofs.Ytaooglcjcnkgnaa
open Go.RowKit Go.ChangeShapes Go.WideShapes Go.ChangeAt Go.Deep

set_option maxRecDepth 100000 in
set_option maxHeartbeats 1000000 in
theorem push_a (w : World) (cb g : Nat) (d : Dq) (p : Nat) (hp : p < 16) (h : DqM w cb g d) (hs : Sml 1000000 d) (hs1 : (d.c p).s = 1) : Calls Try.prog 37 #[.pointer (some ⟨cb, 0, none⟩), .pointer (some ⟨cb, 3 + p * 7, none⟩)] w (GoPost cb g (pushD d p) w) := by
  have hc0 := h.call p 0 hp (by omega)
  have hc1 := h.call p 1 hp (by omega)
  have hc5 := h.call p 5 hp (by omega)
  have hc6 := h.call p 6 hp (by omega)
  simp only [clv, Nat.add_zero] at hc0 hc1 hc5 hc6
  obtain ⟨c0, f0⟩ := hc0
  obtain ⟨c1, f1⟩ := hc1
  obtain ⟨c5, f5⟩ := hc5
  obtain ⟨c6, f6⟩ := hc6
  obtain ⟨ct, ft⟩ := h.top
  obtain ⟨cbt, fbt⟩ := h.bot
  have hb0 := hs.b p
  have ht0 := hs.top
  obtain ⟨hb1, hb2⟩ := hb0
  obtain ⟨ht1, ht2⟩ := ht0
  generalize hc : d.c p = c at *
  obtain ⟨b, t, v, won, k, i, s⟩ := c
  dsimp only at *
  have h1 : s = 1 := hs1
  clear hs1
  subst h1
  have HP := hide (show GoPost cb g (pushD d p) w (.returned (.int .i64 0)) (w.setCell ⟨cb, 3 + p * 7, none⟩ (.int .i64 d.bot)) by
    unfold pushD
    rw [hc]
    exact ⟨rfl, g, h.setCall p 0 hp (by omega) _ _ (by intro j hj; rw [hc]; rcases j with _ | _ | _ | _ | _ | _ | _ | j <;> simp [clv] <;> omega), Wr.set _ _ _ _ _, .inl rfl⟩)
  generalize pushD d p = R at *
  generalize d.bot = bot at *
  generalize d.top = top at *
  clear h hs hc
  go_enter Try.func37, Try.ntmps37
  go_wp2
  go_ret
  exact HP.out
end Go.Proofs.Ytaooglcjcnkgnaa
