/- least. -/
import Derived.Test.YtnkfdpnommjlcaaGreatDoorDep
import Derived.Deep.LoopGhost
namespace Go.Proofs.YtnkfdpnommjlcaaGreatDoor
open Go.RowKit Go.ChangeShapes Go.WideShapes Go.ChangeAt Go.Deep

/-- Is it passed by? -/
def passed (d : List Int) (g : List Bool) (k : Nat) : Bool := (d.getD k 0 == -1) || g.getD k true
theorem leastFrom_more {d : List Int} {g : List Bool} {m k : Nat} (hk : k < d.length) (hp : passed d g k = true) : leastFrom d g (m + 1) k = leastFrom d g m (k + 1) := by
  rw [leastFrom, if_pos]
  refine ⟨hk, ?_⟩
  simpa [passed] using hp
theorem leastFrom_stop {d : List Int} {g : List Bool} {m k : Nat} (hp : ¬ k < d.length ∨ passed d g k = false) : leastFrom d g m k = k := by
  cases m with
  | zero => rfl
  | succ m =>
    rw [leastFrom, if_neg]
    rintro ⟨h1, h2⟩
    rcases hp with h | h
    · exact h h1
    · have : passed d g k = true := by simpa [passed] using h2
      rw [this] at h; cases h
theorem Dp.cells {B : Nat} {w : World} {x : WC} {p low : Int} {d : List Int} {g : List Bool} (h : Dp B w x p low d g) : w.cell? ⟨x.b, 3, none⟩ = some (.slice x.ca x.n x.cc) ∧ w.cell? ⟨x.b, 4, none⟩ = some (.int .i64 x.fn) ∧ w.cell? ⟨x.b, 5, none⟩ = some (.int .i64 p) ∧ w.cell? ⟨x.b, 6, none⟩ = some (.slice x.fa x.nf x.fc) ∧ w.cell? ⟨x.b, 7, none⟩ = some (.slice (some ⟨x.g1, 0, none⟩) x.n x.n) ∧ w.cell? ⟨x.b, 8, none⟩ = some (.slice (some ⟨x.g2, 0, none⟩) x.n x.n) ∧ w.cell? ⟨x.b, 9, none⟩ = some (.int .i64 low) ∧ ∀ i, w.frozen? ⟨x.b, i, none⟩ = false :=
  ⟨cell_row (i := 3) h.self rfl, cell_row (i := 4) h.self rfl, cell_row (i := 5) h.self rfl, cell_row (i := 6) h.self rfl, cell_row (i := 7) h.self rfl, cell_row (i := 8) h.self rfl, cell_row (i := 9) h.self rfl, fun i => frozen_row (i := i) h.self⟩
theorem Dp.drewN {B : Nat} {w : World} {x : WC} {p low : Int} {d : List Int} {g : List Bool} (h : Dp B w x p low d g) (n : Nat) : Dp B (w.drewN n) x p low d g := h.below (below_drewN (Below.refl _ _) n)

set_option maxRecDepth 100000 in
set_option maxHeartbeats 2000000 in
theorem least_any (B : Nat) (x : WC) (p : Int) (l : Nat) (d : List Int) (g : List Bool) (w : World) (hD : Dp B w x p (l : Int) d g) (hl : l ≤ x.n) (hn : x.n ≤ 1000000000) :
    Calls Tryz.prog 74 #[.pointer (some ⟨x.b, 0, none⟩)] w fun r w' => ∃ L : Nat, leastFrom d g d.length l = L ∧ r = .returned (.bool (hasB x.n L)) ∧ Dp B w' x (L : Int) (L : Int) d g ∧ Below B w w' := by
  have HS : Hid (∀ (w : World) (l : Int) (h : Dp B w x p l d g), (Dp B (w.setCell ⟨x.b, 9, none⟩ (.int .i64 (l + 1))) x p (l + 1) d g) ∧ (Below B w (w.setCell ⟨x.b, 9, none⟩ (.int .i64 (l + 1))))) := fun w l h => ⟨h.setLow _, (Below.refl _ _).setCell (p := ⟨x.b, 9, none⟩) h.le.1 _⟩
  have HP : Hid (∀ (w : World) (l : Int) (h : Dp B w x p l d g), (Dp B (w.setCell ⟨x.b, 5, none⟩ (.int .i64 l)) x l l d g) ∧ (Below B w (w.setCell ⟨x.b, 5, none⟩ (.int .i64 l)))) := fun w l h => ⟨h.setP _, (Below.refl _ _).setCell (p := ⟨x.b, 5, none⟩) h.le.1 _⟩
  have HC : Hid (∀ (w : World) (q l : Int), Dp B w x q l d g → w.cell? ⟨x.b, 3, none⟩ = some (.slice x.ca x.n x.cc) ∧ w.cell? ⟨x.b, 4, none⟩ = some (.int .i64 x.fn) ∧ w.cell? ⟨x.b, 5, none⟩ = some (.int .i64 q) ∧ w.cell? ⟨x.b, 6, none⟩ = some (.slice x.fa x.nf x.fc) ∧ w.cell? ⟨x.b, 7, none⟩ = some (.slice (some ⟨x.g1, 0, none⟩) x.n x.n) ∧ w.cell? ⟨x.b, 8, none⟩ = some (.slice (some ⟨x.g2, 0, none⟩) x.n x.n) ∧ w.cell? ⟨x.b, 9, none⟩ = some (.int .i64 l) ∧ ∀ i, w.frozen? ⟨x.b, i, none⟩ = false) := fun w q l h => h.cells
  have HA : Hid (∀ (w : World) (q l : Int), Dp B w x q l d g → ∀ k, k < x.n → w.cell? ⟨x.g1, k, none⟩ = some (.int .i64 (d.getD k 0)) ∧ w.cell? ⟨x.g2, k, none⟩ = some (.bool (g.getD k true))) := fun w q l h k hk => ⟨h.at hk, h.got hk⟩
  have HDL := hide hD.dl
  have hD0 := hide hD
  clear hD
  obtain ⟨nm, ar, lo, ca, n, cc, fn, fa, nf, fc, b, g1, g2⟩ := x
  simp only [] at *
  go_enter Tryz.func74, Tryz.ntmps74
  go_wp2
  go_loopg [] (n - l) (fun gg wr => Hid (Below B w wr) ∧ Hid (∃ k : Nat, l ≤ k ∧ k ≤ n ∧ n - k ≤ gg ∧ Dp B wr ⟨nm, ar, lo, ca, n, cc, fn, fa, nf, fc, b, g1, g2⟩ p (k : Int) d g ∧ ∃ m, n - k ≤ m ∧ leastFrom d g d.length l = leastFrom d g m k))
  case atStart => exact ⟨Below.refl _ _, l, Nat.le_refl _, hl, Nat.le_refl _, hD0.out, d.length, by rw [HDL.out]; omega, rfl⟩
  case round =>
    obtain ⟨hbw, hx⟩ := hrel
    obtain ⟨k, hk1, hk2, hk3, hDr, m, hm, hlf⟩ := hx.out
    clear hx hD0
    obtain ⟨c3, c4, c5, c6, c7, c8, c9, hfz⟩ := HC.out _ _ _ hDr
    have C := fun w => has_any (n : Int) (k : Int) (by omega) w
    have f9 := hfz 9
    have f5 := hfz 5
    have HLF := hide hlf
    have HDr := hide hDr
    clear hlf hDr hfz
    by_cases hlt : k < n
    · have hq : hasB (n : Int) (k : Int) = true := by simp [hasB, inB]; omega
      rw [hq] at C
      obtain ⟨a1, a2⟩ := HA.out _ _ _ HDr.out k hlt
      have hlt' : (k : Int) < (n : Int) := by omega
      have HPS := hide (show passed d g k = ((d.getD k 0 == -1) || g.getD k true) from rfl)
      generalize d.getD k 0 = dk at a1 HPS
      generalize g.getD k true = gk' at a2 HPS
      have hw64 : wrap64 ((k : Int) + 1) = (k : Int) + 1 := IntWalk.wrap64_in _ (by omega)
      have HQ := hide hq
      cases hp : (dk == -1) with
      | true =>
        rw [hp] at HPS
        have HM := hide (show leastFrom d g d.length l = leastFrom d g (m - 1) (k + 1) by
          rw [HLF.out, show m = (m - 1) + 1 by omega, leastFrom_more (by rw [HDL.out]; exact hlt) (by rw [HPS.out]; rfl)]; rfl)
        go_wp2_with fail
        go_quiet (first | (go_at_call 50; with_reducible exact Calls.quiet_of_same (C _)))
        go_wp2
        go_roundg (n - (k + 1))
        case measure => omega
        case rel =>
          have h2 := HS.out _ _ (HDr.out.drewN nq)
          refine ⟨(below_drewN hbw.out nq).trans h2.2, k + 1, by omega, by omega, Nat.le_refl _, ?_, m - 1, by omega, HM.out⟩
          have := h2.1
          simpa using this
      | false =>
        rw [hp] at HPS
        cases gk' with
        | true =>
          have HM := hide (show leastFrom d g d.length l = leastFrom d g (m - 1) (k + 1) by
            rw [HLF.out, show m = (m - 1) + 1 by omega, leastFrom_more (by rw [HDL.out]; exact hlt) (by rw [HPS.out]; rfl)]; rfl)
          go_wp2_with fail
          go_quiet (first | (go_at_call 50; with_reducible exact Calls.quiet_of_same (C _)))
          go_wp2
          go_roundg (n - (k + 1))
          case measure => omega
          case rel =>
            have h2 := HS.out _ _ (HDr.out.drewN nq)
            refine ⟨(below_drewN hbw.out nq).trans h2.2, k + 1, by omega, by omega, Nat.le_refl _, ?_, m - 1, by omega, HM.out⟩
            have := h2.1
            simpa using this
        | false =>
          have HM := hide (show leastFrom d g d.length l = k by rw [HLF.out]; exact leastFrom_stop (.inr (by rw [HPS.out]; rfl)))
          go_wp2_with fail
          go_quiet (first | (go_at_call 50; with_reducible exact Calls.quiet_of_same (C _)))
          have H2 := hide (HP.out _ _ (HDr.out.drewN nq))
          have HBQ := hide (below_drewN hbw.out nq)
          go_wp2
          go_quiet (first | (go_at_call 50; with_reducible exact Calls.quiet_of_same (C _)))
          go_wp2
          go_ret
          refine ⟨k, HM.out, ?_, H2.out.1.drewN _, below_drewN (HBQ.out.trans H2.out.2) _⟩
          first | rfl | (rw [HQ.out]; rfl)
    · have hq : hasB (n : Int) (k : Int) = false := by simp [hasB, inB]; omega
      rw [hq] at C
      have HQ := hide hq
      have HM := hide (show leastFrom d g d.length l = k by rw [HLF.out]; exact leastFrom_stop (.inl (by rw [HDL.out]; exact hlt)))
      go_wp2_with fail
      go_quiet (first | (go_at_call 50; with_reducible exact Calls.quiet_of_same (C _)))
      have H2 := hide (HP.out _ _ (HDr.out.drewN nq))
      have HBQ := hide (below_drewN hbw.out nq)
      go_wp2
      go_quiet (first | (go_at_call 50; with_reducible exact Calls.quiet_of_same (C _)))
      go_wp2
      go_ret
      refine ⟨k, HM.out, ?_, H2.out.1.drewN _, below_drewN (HBQ.out.trans H2.out.2) _⟩
      first | rfl | (rw [HQ.out]; rfl)
end Go.Proofs.YtnkfdpnommjlcaaGreatDoor
