/- BeatPlays: what stands in memory. -/
import Derived.Test.YtcfenakafcfjbaaPlyP
import Derived.Test.YtcfenakafcfjbaaArgT
namespace Go.Proofs.Ytcfenakafcfjbaa
open Go.RowKit Go.ChangeShapes Go.WideShapes Go.ChangeAt Go.Deep Go.Maps Go.Sort
namespace beatPlays

theorem stp_below {E E' : Cl} {B : Nat} {w0 w w' : World} (h : Stp E E' w w') (hb : Below B w0 w) (hB : B ≤ w0.heap.size) (hD : ∀ k, E k → B ≤ k) : Below B w0 w' :=
  h.kp.below hb hB (fun k hk he => by have := hD k he; omega)

/-- The beats and the document's beside what stood there. -/
structure PM (w W : World) (cb rb : Nat) (wt : Int) (N : Nat) (E1 E2 : Cl) (F G : Int → Option Int) (S : List Wd) : Prop where
  bel : Below w.heap.size w W
  be : BeM E1 W cb wt N F G
  rf : RbM E2 W rb (max 1 wt) S
  n1 : ∀ k, E1 k → w.heap.size ≤ k
  n2 : ∀ k, E2 k → w.heap.size ≤ k
  dj : ∀ k, E1 k → ¬ E2 k

section
variable {w W W' : World} {cb rb N N' ab : Nat} {wt : Int} {E1 E2 E' : Cl} {F G F' G' : Int → Option Int} {S S' : List Wd} {xs : List Value}
theorem PM.jd (h : PM w W cb rb wt N E1 E2 F G S) (k : Nat) (hk : E2 k) : ¬ E1 k := fun e => h.dj k e hk
theorem PM.stepB (h : PM w W cb rb wt N E1 E2 F G S) (hT : BeM E' W' cb wt N' F' G') (hS : Stp E1 E' W W') : PM w W' cb rb wt N' E' E2 F' G' S := by
  refine ⟨stp_below hS h.bel (Nat.le_refl _) h.n1, hT, h.rf.other hS h.jd, fun k hk => ?_, h.n2, fun k hk => ?_⟩
  · by_cases hlt : k < W.heap.size
    · exact h.n1 k ((hS.col k hlt).1 hk)
    · have := h.bel.size; omega
  · by_cases hlt : k < W.heap.size
    · exact h.dj k ((hS.col k hlt).1 hk)
    · exact fun e => hlt (h.rf.1 k e)
theorem PM.stepR (h : PM w W cb rb wt N E1 E2 F G S) (hU : RbM E' W' rb (max 1 wt) S') (hS : Stp E2 E' W W') : PM w W' cb rb wt N E1 E' F G S' := by
  refine ⟨stp_below hS h.bel (Nat.le_refl _) h.n2, h.be.other hS h.dj, hU, h.n1, fun k hk => ?_, fun k hk => ?_⟩
  · by_cases hlt : k < W.heap.size
    · exact h.n2 k ((hS.col k hlt).1 hk)
    · have := h.bel.size; omega
  · have hlt := h.be.1 k hk
    exact fun e => h.dj k hk ((hS.col k hlt).1 e)
theorem PM.below (h : PM w W cb rb wt N E1 E2 F G S) (hb : Below W.heap.size W W') : PM w W' cb rb wt N E1 E2 F G S := h.stepB (h.be.below hb) (Stp.ofB hb)
theorem PM.wipe {row : Option Nat} (h : PM w W cb rb wt N E1 E2 F G S) (hg : W.grownBy W' row) (hb : ∀ b, row = some b → ¬ E1 b ∧ ¬ E2 b ∧ w.heap.size ≤ b) : PM w W' cb rb wt N E1 E2 F G S :=
  ⟨h.bel.grown hg h.bel.size (fun b e => (hb b e).2.2), h.be.keep hg.size (fun k hk => hg.block k (h.be.1 k hk) (fun e => (hb k e.symm).1 hk)), h.rf.keep hg.size (fun k hk => hg.block k (h.rf.1 k hk) (fun e => (hb k e.symm).2.1 hk)), h.n1, h.n2, h.dj⟩

/-- And an act's block. -/
structure PA (w W : World) (cb rb : Nat) (wt : Int) (N : Nat) (ab : Nat) (xs : List Value) (E1 E2 : Cl) (F G : Int → Option Int) (S : List Wd) : Prop extends PM w W cb rb wt N E1 E2 F G S where
  bx : BoxL W ab xs
  b1 : ¬ E1 ab
  b2 : ¬ E2 ab
  b3 : w.heap.size ≤ ab

theorem PM.box (h : PM w W cb rb wt N E1 E2 F G S) {t : TypeId} (e : W.alloc (.cells xs.toArray t) = W') : PA w W' cb rb wt N W.heap.size xs E1 E2 F G S := by
  subst e
  exact ⟨h.below (below_new W _), BoxL.new W xs t, fun e => by have := h.be.1 _ e; omega, fun e => by have := h.rf.1 _ e; omega, h.bel.size⟩
theorem PA.stepB (h : PA w W cb rb wt N ab xs E1 E2 F G S) (hT : BeM E' W' cb wt N' F' G') (hS : Stp E1 E' W W') : PA w W' cb rb wt N' ab xs E' E2 F' G' S :=
  ⟨h.toPM.stepB hT hS, h.bx.keep hS.kp.size (hS.kp.block ab h.bx.1 h.b1), fun e => h.b1 ((hS.col ab h.bx.1).1 e), h.b2, h.b3⟩
theorem PA.stepR (h : PA w W cb rb wt N ab xs E1 E2 F G S) (hU : RbM E' W' rb (max 1 wt) S') (hS : Stp E2 E' W W') : PA w W' cb rb wt N ab xs E1 E' F G S' :=
  ⟨h.toPM.stepR hU hS, h.bx.keep hS.kp.size (hS.kp.block ab h.bx.1 h.b2), h.b1, fun e => h.b2 ((hS.col ab h.bx.1).1 e), h.b3⟩
theorem PA.below (h : PA w W cb rb wt N ab xs E1 E2 F G S) (hb : Below W.heap.size W W') : PA w W' cb rb wt N ab xs E1 E2 F G S := h.stepB (h.be.below hb) (Stp.ofB hb)
theorem PA.drew (h : PA w W cb rb wt N ab xs E1 E2 F G S) : PA w W.drew cb rb wt N ab xs E1 E2 F G S := h.below (below_drewN (Below.refl _ _) 1)
theorem PA.drewN (h : PA w W cb rb wt N ab xs E1 E2 F G S) (q : Nat) : PA w (W.drewN q) cb rb wt N ab xs E1 E2 F G S := h.below (below_drewN (Below.refl _ _) q)
theorem PA.more (h : PA w W cb rb wt N ab xs E1 E2 F G S) (hN : N ≤ N') : PA w W cb rb wt N' ab xs E1 E2 F G S := by
  refine { h with be := ?_ }
  obtain ⟨h1, h2, hw, v1, v2, h3, h4, h5, h6⟩ := h.be
  exact ⟨h1, h2, hw, v1, v2, h3, h4.mono hN, h5.mono hN, h6⟩
end

/-- The loop's state. -/
structure PQ (w W : World) (cb rb : Nat) (wt : Int) (k : Nat) : Prop where
  ex : ∃ N E1 E2 F G S, PM w W cb rb wt N E1 E2 F G S ∧ PR F G S ∧ N ≤ 100 + k ∧ S.length ≤ 100 + k
/-- The state behind an act. -/
def PX (w W : World) (cb rb : Nat) (wt : Int) (ab : Nat) (xs : List Value) (k : Nat) : Prop := ∃ N E1 E2 F G S, PA w W cb rb wt N ab xs E1 E2 F G S ∧ PR F G S ∧ N ≤ 100 + k ∧ S.length ≤ 100 + k

theorem PQ.start {w w1 w2 w3 : World} {cb rb n : Nat} {wt : Int} {E1 E2 : Cl} {l : List Int} (hb : Below w.heap.size w w1) (h : BeM E1 w2 cb wt n (newF l) (newG l)) (hB : Below w1.heap.size w1 w2) (h1 : ∀ j, E1 j → w1.heap.size ≤ j)
    (r : RbM E2 w3 rb (max 1 wt) (newS l)) (rB : Below w2.heap.size w2 w3) (r1 : ∀ j, E2 j → w2.heap.size ≤ j) (hn : n ≤ 100) (hl : l.length = n) (hi : In64 l) : PQ w w3 cb rb wt 0 := by
  have hs1 := hb.size
  have hs2 := hB.size
  refine ⟨n, E1, E2, newF l, newG l, newS l, ⟨(hb.trans (hB.mono hs1)).trans (rB.mono (by omega)), h.below rB, r, fun k hk => ?_, fun k hk => ?_, fun k hk e => ?_⟩, PR.new l hi, by omega, ?_⟩
  · have := h1 k hk; omega
  · have := r1 k hk; omega
  · have := h.1 k hk; have := r1 k e; omega
  · have := newS_len l []
    simp only [List.length_nil] at this
    unfold newS
    omega

/-- A fresh row of numbers. -/
def FR (w W : World) (E1 E2 : Cl) (ab : Nat) (a : Option Addr) (n c : Nat) (L : List Int) : Prop := W.ownsRow 0 3 1 (.slice a n c) n (iV L) ∧ L.length = n ∧ ∀ b, (Value.slice a n c).ownBlock = some b → ¬ E1 b ∧ ¬ E2 b ∧ w.heap.size ≤ b ∧ b ≠ ab
theorem FR.below {w W W' : World} {E1 E2 : Cl} {ab : Nat} {a : Option Addr} {n c : Nat} {L : List Int} (h : FR w W E1 E2 ab a n c L) (hb : Below W.heap.size W W') : FR w W' E1 E2 ab a n c L := ⟨own_belowI h.1 hb, h.2⟩
theorem PA.fr {w W W' : World} {cb rb N ab n : Nat} {wt : Int} {E1 E2 : Cl} {F G : Int → Option Int} {S : List Wd} {xs : List Value} {a : Option Addr} {c : Nat} {L : List Int} (h : PA w W cb rb wt N ab xs E1 E2 F G S) (ho : W'.ownsRow W.heap.size 3 1 (.slice a n c) n (iV L)) (hl : L.length = n) : FR w W' E1 E2 ab a n c L :=
  ⟨own_monoI ho (Nat.zero_le _), hl, fun b hb => by
    have h1 := (ho.lt b hb).1
    have := h.bel.size
    have := h.bx.1
    exact ⟨fun e => by have := h.be.1 _ e; omega, fun e => by have := h.rf.1 _ e; omega, by omega, by omega⟩⟩
end beatPlays
end Go.Proofs.Ytcfenakafcfjbaa
