/- push. -/
import Derived.Test.YtaooglcjcnkgnaaBeg
namespace Go.Proofs.Ytaooglcjcnkgnaa
open Go.RowKit Go.ChangeShapes Go.WideShapes Go.ChangeAt Go.Deep

def GoPost (cb g : Nat) (r : Int × Dq) (w : World) (e : Ending) (w' : World) : Prop :=
  e = .returned (.int .i64 r.1) ∧ ∃ g', DqM w' cb g' r.2 ∧ Wr cb g w w' ∧ (g' = g ∨ w.heap.size ≤ g')

/-- The ring is another one. -/
theorem DqM.setRing {w : World} {cb g : Nat} {d : Dq} (h : DqM w cb g d) (cb' g' n' : Nat) (L' : List Int) (hr : RingP w cb' 0 g' n' L') (hne : cb ≠ g') : DqM (w.setCell ⟨cb, 2, none⟩ (.slice (some ⟨g', 0, none⟩) n' n')) cb g' { d with n := n', L := L' } := by
  refine ⟨h.bx.put 2 _ fun j _ => ?_, hr.pow, hr.len, hr.own.kept (grown_setCell w cb 2 _) (.inr (by simpa [Value.ownBlock] using fun e => hne e.symm)), hne⟩
  unfold dcell
  by_cases e0 : j = 0
  · simp [e0]
  by_cases e1 : j = 1
  · simp [e1]
  by_cases e2 : j = 2
  · simp [e2]
  · simp [e0, e1, e2]

theorem DqM.setL {w w' : World} {cb g : Nat} {d : Dq} {L' : List Int} (h : DqM w cb g d) (hr : RingP w' cb 2 g d.n L') (hg : w.grownBy w' (some g)) : DqM w' cb g { d with L := L' } :=
  ⟨h.bx.keep (hg.block cb h.bx.lt (by simpa using h.ne)), hr.pow, hr.len, hr.own, h.ne⟩

theorem ne_sizes {a b c x y : Nat} (q1 : a ≤ x) (q2 : y < c) (q3 : b = c) (q4 : a = b) : y ≠ x := by omega
theorem le_sizes {a b c x : Nat} (q1 : a ≤ x) (q3 : b = c) (q4 : a = b) : c ≤ x := by omega

theorem get_below (w : World) (cb o g n : Nat) (L : List Int) (i : Int) (h : RingP w cb o g n L) :
    Calls Try.prog 32 #[.pointer (some ⟨cb, o, none⟩), .int .i64 i] w.drew fun e w' => e = .returned (.int .i64 (L.getD (plc n i) 0)) ∧ Below w.heap.size w w' :=
  (get_any w.drew cb o g n L i (h.drewN 1)).mono fun e w' ⟨h1, q, h2⟩ => ⟨h1, by rw [h2]; exact below_drewN (below_drewN (Below.refl _ _) 1) q⟩
end Go.Proofs.Ytaooglcjcnkgnaa
