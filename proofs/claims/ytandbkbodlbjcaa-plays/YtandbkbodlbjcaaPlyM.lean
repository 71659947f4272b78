/- TablePlays: what stands in memory. -/
import Derived.Test.YtandbkbodlbjcaaPlyP
namespace Go.Proofs.Ytandbkbodlbjcaa
open Go.RowKit Go.ChangeShapes Go.WideShapes Go.ChangeAt Go.Deep Go.Maps Go.Sort
namespace tablePlays

theorem _root_.Go.Proofs.Ytandbkbodlbjcaa.RtM.lt {κ : Cl} {w : World} {cb : Nat} {U : Rt} (h : RtM κ w cb U) : ∀ k, κ k ≠ none → k < w.heap.size := by
  obtain ⟨a, b, c, h⟩ := h
  exact h.lt

/-- The two tables beside what stood there. -/
structure PM (w W : World) (cT cU : Nat) (κ1 κ2 : Cl) (T : Tb) (U : Rt) : Prop where
  bel : Below w.heap.size w W
  tab : TabM κ1 W cT T
  ref : RtM κ2 W cU U
  n1 : ∀ k, κ1 k ≠ none → w.heap.size ≤ k
  n2 : ∀ k, κ2 k ≠ none → w.heap.size ≤ k
  dj : ∀ k, κ1 k ≠ none → κ2 k = none

theorem PM.jd {w W : World} {cT cU : Nat} {κ1 κ2 : Cl} {T : Tb} {U : Rt} (h : PM w W cT cU κ1 κ2 T U) (k : Nat) (hk : κ2 k ≠ none) : κ1 k = none := by
  cases hc : κ1 k with
  | none => rfl
  | some t => exact absurd (h.dj k (by rw [hc]; simp)) hk
theorem PM.stepT {w W W' : World} {cT cU : Nat} {κ1 κ1' κ2 : Cl} {T T' : Tb} {U : Rt} (h : PM w W cT cU κ1 κ2 T U) (hT : TabM κ1' W' cT T') (hS : Stp κ1 κ1' W W') : PM w W' cT cU κ1' κ2 T' U := by
  refine ⟨stp_below hS h.bel (Nat.le_refl _) h.n1, hT, h.ref.other hS h.jd, fun k hk => ?_, h.n2, fun k hk => ?_⟩
  · by_cases hlt : k < W.heap.size
    · rw [hS.col k hlt] at hk; exact h.n1 k hk
    · have := h.bel.size; omega
  · by_cases hlt : k < W.heap.size
    · rw [hS.col k hlt] at hk; exact h.dj k hk
    · cases hc : κ2 k with
      | none => rfl
      | some t => have := h.ref.lt k (by rw [hc]; simp); omega
theorem PM.stepU {w W W' : World} {cT cU : Nat} {κ1 κ2 κ2' : Cl} {T : Tb} {U U' : Rt} (h : PM w W cT cU κ1 κ2 T U) (hU : RtM κ2' W' cU U') (hS : Stp κ2 κ2' W W') : PM w W' cT cU κ1 κ2' T U' := by
  refine ⟨stp_below hS h.bel (Nat.le_refl _) h.n2, h.tab.other hS h.dj, hU, h.n1, fun k hk => ?_, fun k hk => ?_⟩
  · by_cases hlt : k < W.heap.size
    · rw [hS.col k hlt] at hk; exact h.n2 k hk
    · have := h.bel.size; omega
  · have hlt := h.tab.1 k hk
    rw [hS.col k hlt]
    exact h.dj k hk
theorem PM.below {w W W' : World} {cT cU : Nat} {κ1 κ2 : Cl} {T : Tb} {U : Rt} (h : PM w W cT cU κ1 κ2 T U) (hb : Below W.heap.size W W') : PM w W' cT cU κ1 κ2 T U := h.stepT (h.tab.below hb) (Stp.ofB hb)
theorem PM.wipe {w W W' : World} {cT cU : Nat} {κ1 κ2 : Cl} {T : Tb} {U : Rt} {a : Option Addr} (h : PM w W cT cU κ1 κ2 T U) (hg : W.grownBy W' (blk a)) (hb : ∀ b, blk a = some b → κ1 b = none ∧ κ2 b = none ∧ w.heap.size ≤ b) : PM w W' cT cU κ1 κ2 T U :=
  ⟨h.bel.grown hg h.bel.size (fun b e => (hb b e).2.2), h.tab.keep hg.size (fun k hk hc => hg.block k hk (fun e => hc (hb k e.symm).1)), h.ref.keep hg.size (fun k hk hc => hg.block k hk (fun e => hc (hb k e.symm).2.1)), h.n1, h.n2, h.dj⟩

/-- And an act's block. -/
structure PA (w W : World) (cT cU ab : Nat) (xs : List Value) (κ1 κ2 : Cl) (T : Tb) (U : Rt) : Prop extends PM w W cT cU κ1 κ2 T U where
  bx : BoxL W ab xs
  b1 : κ1 ab = none
  b2 : κ2 ab = none
  b3 : w.heap.size ≤ ab

theorem PM.box {w W W' : World} {cT cU : Nat} {κ1 κ2 : Cl} {T : Tb} {U : Rt} (h : PM w W cT cU κ1 κ2 T U) {xs : List Value} {t : TypeId} (e : W.alloc (.cells xs.toArray t) = W') : PA w W' cT cU W.heap.size xs κ1 κ2 T U := by
  subst e
  refine ⟨h.below (below_new W _), BoxL.new W xs t, ?_, ?_, h.bel.size⟩
  · cases hc : κ1 W.heap.size with
    | none => rfl
    | some t => have := h.tab.1 W.heap.size (by rw [hc]; simp); omega
  · cases hc : κ2 W.heap.size with
    | none => rfl
    | some t => have := h.ref.lt W.heap.size (by rw [hc]; simp); omega

section
variable {w W W' : World} {cT cU ab : Nat} {xs : List Value} {κ1 κ2 κ' : Cl} {T T' : Tb} {U U' : Rt}
theorem PA.stepT (h : PA w W cT cU ab xs κ1 κ2 T U) (hT : TabM κ' W' cT T') (hS : Stp κ1 κ' W W') : PA w W' cT cU ab xs κ' κ2 T' U :=
  ⟨h.toPM.stepT hT hS, h.bx.keep hS.kp.size (hS.kp.block ab h.bx.1 (fun e => e h.b1)), (hS.col ab h.bx.1).trans h.b1, h.b2, h.b3⟩
theorem PA.stepU (h : PA w W cT cU ab xs κ1 κ2 T U) (hU : RtM κ' W' cU U') (hS : Stp κ2 κ' W W') : PA w W' cT cU ab xs κ1 κ' T U' :=
  ⟨h.toPM.stepU hU hS, h.bx.keep hS.kp.size (hS.kp.block ab h.bx.1 (fun e => e h.b2)), h.b1, (hS.col ab h.bx.1).trans h.b2, h.b3⟩
theorem PA.below (h : PA w W cT cU ab xs κ1 κ2 T U) (hb : Below W.heap.size W W') : PA w W' cT cU ab xs κ1 κ2 T U := h.stepT (h.tab.below hb) (Stp.ofB hb)
theorem PA.drew (h : PA w W cT cU ab xs κ1 κ2 T U) : PA w W.drew cT cU ab xs κ1 κ2 T U := h.below (belowN (Below.refl _ _) 1)
theorem PA.drewN (h : PA w W cT cU ab xs κ1 κ2 T U) (q : Nat) : PA w (W.drewN q) cT cU ab xs κ1 κ2 T U := h.below (belowN (Below.refl _ _) q)
theorem PA.wipe {a : Option Addr} (h : PA w W cT cU ab xs κ1 κ2 T U) (hg : W.grownBy W' (blk a)) (hb : ∀ b, blk a = some b → κ1 b = none ∧ κ2 b = none ∧ w.heap.size ≤ b ∧ b ≠ ab) : PA w W' cT cU ab xs κ1 κ2 T U :=
  ⟨h.toPM.wipe hg (fun b e => ⟨(hb b e).1, (hb b e).2.1, (hb b e).2.2.1⟩), h.bx.keep hg.size (hg.block ab h.bx.1 (fun e => (hb ab e.symm).2.2.2 rfl)), h.b1, h.b2, h.b3⟩
end

/-- A row of one's own, made behind this heap. -/
structure FR (w W : World) (κ1 κ2 : Cl) (lo hi : Nat) (a : Option Addr) (n c : Nat) (L : List ByteArray) : Prop where
  rn : RN W a n c L
  bl : ∀ b, blk a = some b → κ1 b = none ∧ κ2 b = none ∧ lo ≤ b ∧ b < hi
theorem FR.below {w W W' : World} {κ1 κ2 : Cl} {lo hi : Nat} {a : Option Addr} {n c : Nat} {L : List ByteArray} (h : FR w W κ1 κ2 lo hi a n c L) (hb : Below W.heap.size W W') : FR w W' κ1 κ2 lo hi a n c L := ⟨h.rn.below hb, h.bl⟩
theorem fresh1 {κ : Cl} {n : Nat} (hlt : ∀ k, κ k ≠ none → k < n) {b : Nat} (hb : n ≤ b) : κ b = none := by
  cases hc : κ b with
  | none => rfl
  | some t => have := hlt b (by rw [hc]; simp); omega
theorem PM.fr {w W W' : World} {cT cU : Nat} {κ1 κ2 : Cl} {T : Tb} {U : Rt} (h : PM w W cT cU κ1 κ2 T U) {v : Value} {n : Nat} {L : List ByteArray} (ho : W'.ownsRow W.heap.size 31 1 v n (nV L)) : ∃ a c, v = .slice a n c ∧ FR w W' κ1 κ2 W.heap.size W'.heap.size a n c L := by
  obtain ⟨a, c, rfl, h1, h2⟩ := own_formS ho
  exact ⟨a, c, rfl, h1, fun b hb => ⟨fresh1 h.tab.1 (h2 b hb), fresh1 h.ref.lt (h2 b hb), h2 b hb, h1.lt hb⟩⟩

theorem same_eq {L : List ByteArray} {a b : Option Addr} {n c e : Nat} {w : World} (hn : L.length = n) (hl : n ≤ 1000) (ha : Reads w a (nV L)) (hb : Reads w b (nV L)) : Calls Try.prog 20 #[.slice a n c, .slice b n e] w fun e w' => e = .returned (.bool true) ∧ Below w.heap.size w w' := by
  subst hn
  refine (same_any L L a b c e w ha hb (by omega) (by omega)).mono ?_
  rintro e w' ⟨rfl, hb⟩
  exact ⟨ret_bool (by simp), hb⟩
end tablePlays
end Go.Proofs.Ytandbkbodlbjcaa
