/- EvalFuel: its evaluation, plain. -/
import Derived.Test.YtbpcibnomkfglaaGreatDoorEvF
namespace Go.Proofs.YtbpcibnomkfglaaGreatDoor
open Go.RowKit Go.ChangeShapes Go.WideShapes Go.ChangeAt Go.Deep

def fuelF : List Fun := [⟨fnm, 0, 0, [(16, 1), (2, 0), (16, 2), (17, 0), (18, 0)]⟩, ⟨gnm, 0, 0, [(14, 0)]⟩, ⟨hnm, 0, 0, [(1, 8), (18, 0)]⟩]
theorem fuel_jump : ∀ a : Nat, a ≤ 6000 → walkN fuelF 100001 1 a ⟨1, 0, 0, [], [], 0, false, 0, 0, 0, 0, [], 0, 0⟩ = some ⟨1, 0, a, [], [], 0, false, 0, 0, 0, a, [], 0, 0⟩
  | 0, _ => rfl
  | a + 1, h => by
    have q1 := fuel_jump a (by omega)
    have q2 : walkN fuelF 100001 1 1 ⟨1, 0, a, [], [], 0, false, 0, 0, 0, a, [], 0, 0⟩ = some ⟨1, 0, a + 1, [], [], 0, false, 0, 0, 0, a + 1, [], 0, 0⟩ := walkN_one (f := ⟨gnm, 0, 0, [(14, 0)]⟩) (op := 14) (n := 0) (by decide) rfl (by unfold PM.small; simp; omega) rfl rfl rfl
    exact walkN_add a 1 _ _ _ q1 q2
theorem fuel_g (f : Nat) (h1 : 10 ≤ f) (h2 : f ≤ 5000) (e0 : En) : doE fuelF (f : Int) 50 6000 20 13 [e0] [0] 1 [] = some ([e0, ⟨[0], 1, [], 21, 0, f, 0, []⟩], false, 21, 0) := by
  have w := fuel_jump f (by omega)
  have r1 : runW fuelF (f : Int) 1 (f : Int) 6000 ⟨1, 0, 0, [], [], 0, false, 0, 0, 0, 0, [], 0, 0⟩ = some (⟨1, 0, f, [], [], 0, false, 0, 0, 0, f, [], 0, 0⟩, none) := runW_more rfl w (by omega) (by simp) (by simp)
  have r2 : runW fuelF (f : Int) 1 (f : Int) (5999 + 1) ⟨1, 0, f, [], [], 0, false, 0, 0, 0, 0, [], 0, 0⟩ = some (⟨1, 0, f, [], [], 0, false, 0, 0, 0, 0, [], 0, 0⟩, some (21, 0)) := runW_fuel rfl rfl (by show (0 : Int) < f; omega) rfl
  refine doE_of (f := ⟨gnm, 0, 0, [(14, 0)]⟩) (nn := 0) (by simp) (by simp) rfl rfl (by decide) rfl (by decide) (E' := [e0, ⟨[0], 1, [], 0, 0, 0, 0, []⟩]) (x := ⟨⟨[0], 1, [], 21, 0, f, 0, []⟩, ⟨1, 0, f, [], [], 0, false, 3, 0, 0, 0, [], 21, 0⟩, [], true⟩) ?_
  refine (loopE_go (k := 19) rfl (goE_of (x := begE [0] 1 [] 0) (by unfold Dg.small begE; simp) r1 (by show f ≤ 1000000; omega) (evE_else (by show (0 : Int) ≠ 1; decide) (by show (0 : Int) ≠ 2; decide)))).trans ?_
  refine (loopE_go (k := 18) rfl (goE_of (by unfold Dg.small Dg.fin begE; simp [finM]; omega) r2 (by show (0 : Nat) ≤ 1000000; decide) (evE_else (by show (3 : Int) ≠ 1; decide) (by show (3 : Int) ≠ 2; decide)))).trans ?_
  refine (loopE_end rfl).trans ?_
  show some _ = some _
  simp [Dg.fin, begE, finM]
theorem fuel_h (f : Nat) (h1 : 10 ≤ f) (_h2 : f ≤ 5000) (e0 e1 : En) : doE fuelF (f : Int) 50 6000 20 13 [e0, e1] [1] 2 [] = some ([e0, e1, ⟨[1], 2, [], 0, 8, 2, 0, []⟩], false, 0, 8) := by
  have w : walkN fuelF 100001 1 2 ⟨2, 0, 0, [], [], 0, false, 0, 0, 0, 0, [], 0, 0⟩ = some ⟨2, 1, 2, [8], [], 0, false, 3, 0, 0, 2, [], 0, 8⟩ := by kernel_rfl
  have r1 : runW fuelF (f : Int) 1 (f : Int) 6000 ⟨2, 0, 0, [], [], 0, false, 0, 0, 0, 0, [], 0, 0⟩ = some (⟨2, 1, 2, [8], [], 0, false, 3, 0, 0, 2, [], 0, 8⟩, none) := runW_ev rfl w (by decide) (by decide) (by simp; omega) (by simp; omega)
  refine doE_of (f := ⟨hnm, 0, 0, [(1, 8), (18, 0)]⟩) (nn := 0) (by simp) (by simp) rfl rfl (by decide) rfl (by decide) (E' := [e0, e1, ⟨[1], 2, [], 0, 0, 0, 0, []⟩]) (x := ⟨⟨[1], 2, [], 0, 8, 2, 0, []⟩, ⟨2, 1, 2, [8], [], 0, false, 3, 0, 0, 2, [], 0, 8⟩, [], true⟩) ?_
  refine (loopE_go (k := 19) rfl (goE_of (x := begE [1] 2 [] 0) (by unfold Dg.small begE; simp) r1 (by show (2 : Nat) ≤ 1000000; decide) (evE_else (by show (3 : Int) ≠ 1; decide) (by show (3 : Int) ≠ 2; decide)))).trans ?_
  refine (loopE_end rfl).trans ?_
  rfl
theorem fuel_ev (f : Nat) (h1 : 10 ≤ f) (h2 : f ≤ 5000) : doE fuelF (f : Int) 50 6000 20 14 [] [] 0 [] = some ([⟨[], 0, [], 0, 8, 5, 2, [1]⟩, ⟨[0], 1, [], 21, 0, f, 0, []⟩, ⟨[1], 2, [], 0, 8, 2, 0, []⟩], false, 0, 8) := by
  have w1 : walkN fuelF 100001 0 1 ⟨0, 0, 0, [], [], 0, false, 0, 0, 0, 0, [], 0, 0⟩ = some ⟨0, 1, 1, [0], [], 1, false, 1, 1, 0, 1, [], 0, 0⟩ := by kernel_rfl
  have w2 : walkN fuelF 100001 0 2 ⟨0, 1, 1, [0], [], 1, false, 0, 0, 0, 0, [], 0, 0⟩ = some ⟨0, 3, 3, [1], [], 2, false, 1, 2, 1, 2, [], 0, 0⟩ := by kernel_rfl
  have w3 : walkN fuelF 100001 0 1 ⟨0, 3, 3, [1], [], 2, false, 0, 0, 0, 0, [], 0, 0⟩ = some ⟨0, 3, 4, [1], [], 2, true, 2, 0, 1, 1, [], 0, 0⟩ := by kernel_rfl
  have w4 : walkN fuelF 100001 0 1 ⟨0, 4, 4, [8], [], 2, false, 0, 0, 0, 0, [], 0, 0⟩ = some ⟨0, 4, 5, [8], [], 2, false, 3, 0, 0, 1, [], 0, 8⟩ := by kernel_rfl
  have r1 : runW fuelF (f : Int) 0 (f : Int) 6000 _ = some (_, none) := runW_ev rfl w1 (by decide) (by decide) (by simp; omega) (by simp; omega)
  have r2 : runW fuelF (f : Int) 0 (f : Int) 6000 _ = some (_, none) := runW_ev rfl w2 (by decide) (by decide) (by simp; omega) (by simp; omega)
  have r3 : runW fuelF (f : Int) 0 (f : Int) 6000 _ = some (_, none) := runW_ev rfl w3 (by decide) (by decide) (by simp; omega) (by simp; omega)
  have r4 : runW fuelF (f : Int) 0 (f : Int) 6000 _ = some (_, none) := runW_ev rfl w4 (by decide) (by decide) (by simp; omega) (by simp; omega)
  refine doE_of (f := ⟨fnm, 0, 0, [(16, 1), (2, 0), (16, 2), (17, 0), (18, 0)]⟩) (nn := 0) (by simp) (by simp) rfl rfl (by decide) rfl (by decide) (E' := [⟨[], 0, [], 0, 0, 0, 0, []⟩, ⟨[0], 1, [], 21, 0, f, 0, []⟩, ⟨[1], 2, [], 0, 8, 2, 0, []⟩]) (x := ⟨⟨[], 0, [], 0, 8, 5, 2, [1]⟩, ⟨0, 4, 5, [8], [], 2, false, 3, 0, 0, 1, [], 0, 8⟩, [(21, 0), (0, 8)], true⟩) ?_
  refine (loopE_go (k := 19) rfl (goE_of (x := begE [] 0 [] 0) (by unfold Dg.small begE; simp) r1 (by show (1 : Nat) ≤ 1000000; decide) (evE_spawn (by rfl) (by kernel_rfl) (by decide) (fuel_g f h1 h2 _)))).trans ?_
  refine (loopE_go (k := 18) rfl (goE_of (of_decide_eq_true (by kernel_rfl)) r2 (by show (2 : Nat) ≤ 1000000; decide) (evE_spawn (by rfl) (by kernel_rfl) (by decide) (fuel_h f h1 h2 _ _)))).trans ?_
  refine (loopE_go (k := 17) rfl (goE_of (of_decide_eq_true (by kernel_rfl)) r3 (by show (1 : Nat) ≤ 1000000; decide) (evE_wait (er := 0) (ev := 8) (by rfl) (by decide) (by rfl) (by rfl)))).trans ?_
  refine (loopE_go (k := 16) rfl (goE_of (of_decide_eq_true (by kernel_rfl)) r4 (by show (1 : Nat) ≤ 1000000; decide) (evE_else (by show (3 : Int) ≠ 1; decide) (by show (3 : Int) ≠ 2; decide)))).trans ?_
  refine (loopE_end rfl).trans ?_
  rfl
theorem fuel_from : (checkFrom fuelF 0 fuelF).2.2 = 0 := by kernel_rfl
theorem fuel_check (f : Nat) (h1 : 10 ≤ f) (h2 : f ≤ 5000) : (checkL fuelF 0 0 (f : Int) 50).2.2 = 0 := by
  have hj : jobErr fuelF 0 0 (f : Int) 50 = 0 := by
    unfold jobErr
    simp [hasB, inB, fuelF]
    omega
  unfold checkL
  rw [if_pos hj]
  exact fuel_from
end Go.Proofs.YtbpcibnomkfglaaGreatDoor
