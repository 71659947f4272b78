/- EvalOrder: its evaluation, whole. -/
import Derived.Test.YtbpcibnomkfglaaGreatDoorOrdE
namespace Go.Proofs.YtbpcibnomkfglaaGreatDoor
open Go.RowKit Go.ChangeShapes Go.WideShapes Go.ChangeAt Go.Deep

theorem ord_ev (K : Nat) (hK1 : 1 ≤ K) (hK : K ≤ 16) (ks : List Nat) (hks : ks.length ≤ 20) (hlt : ∀ k ∈ ks, k < K) : ∃ st : Nat, doE (ordF K ks) 500 50 501 501 14 [] [] 0 [] = some (⟨[], 0, [], 0, (ordA ks : Int), st, K, ioN ks⟩ :: ordE K, false, 0, (ordA ks : Int)) := by
  have g0 := ordG_at K 0 ([(1, 0)] ++ (ordH ks ++ [(18, 0)])) (by omega)
  have w1 : walkN (ordF K ks) 100001 0 1 ⟨0, 0, 0, [], [], 0, false, 0, 0, 0, 0, [], 0, 0⟩ = some ⟨0, 1, 1, [((10 * 0 : Nat) : Int)], [], 0, false, 0, 0, 0, 1, [], 0, 0⟩ := walkN_one (f := ⟨fnm, 0, 0, ordC K ks⟩) (op := 1) (n := ((10 * 0 : Nat) : Int)) (by decide) rfl (by unfold PM.small; simp) rfl g0.1 rfl
  have w2 : walkN (ordF K ks) 100001 0 1 ⟨0, 1, 1, [((10 * 0 : Nat) : Int)], [], 0, false, 0, 0, 0, 1, [], 0, 0⟩ = some ⟨0, 2, 2, [((0 : Nat) : Int)], [], ((0 + 1 : Nat) : Int), false, 1, 1, ((0 : Nat) : Int), 2, [((10 * 0 : Nat) : Int)], 0, 0⟩ := walkN_one (f := ⟨fnm, 0, 0, ordC K ks⟩) (op := 16) (n := 1) (by decide) rfl (by unfold PM.small; simp) rfl g0.2.1 (by
    unfold doM
    simp only
    rw [if_neg (by decide), if_neg (by decide), if_pos (by decide), if_pos (by decide), if_pos (by omega), if_pos (by decide)]
    rfl)
  have w := walkN_add 1 1 _ _ _ w1 w2
  have r1 := runW_ev (jf := 500) (n := 501) rfl w (by show (1 : Int) ≠ 0; decide) (by decide) (by show ((0 + (1 + 1) : Nat) : Int) ≤ 500; decide) (by show ((0 + (1 + 1) : Nat) : Int) ≤ 500; decide)
  have hkid := ord_kid K ks [(begE [] 0 [] 0).e] (by simp) ((0 : Nat).toUInt8) 0 (by omega)
  have hgo := goE_of (D := doE (ordF K ks) 500 50 501 501 13) (E := [(begE [] 0 [] 0).e]) (x := begE [] 0 [] 0) (by unfold Dg.small begE; simp) r1 (by show (2 : Nat) ≤ 1000000; decide) (evE_spawn rfl (by kernel_rfl) (by show (0 : Int) ≤ 1; decide) (by show doE (ordF K ks) 500 50 501 501 13 _ (kidL [] ((0 : Nat) : Int)) 1 _ = _; rw [show kidL [] ((0 : Nat) : Int) = [(0 : Nat).toUInt8] by kernel_rfl]; exact hkid))
  obtain ⟨c, hc⟩ : ∃ c, c + ks.length + 1 + (K - 1) = 500 := ⟨499 - ks.length - (K - 1), by omega⟩
  obtain ⟨st', hst', h2⟩ := ord_spawns K hK ks hks (begE [] 0 [] 0).e (c + ks.length + 1) (K - 1) 0 (by omega) 2 (by omega)
  have gl := ordG_at K (K - 1) ([(1, 0)] ++ (ordH ks ++ [(18, 0)])) (by omega)
  have e3 : 3 * (K - 1) + 2 + 1 = 3 * K := by omega
  have v1 : walkN (ordF K ks) 100001 0 1 ⟨0, 3 * (K - 1) + 2, 3 * (K - 1) + 2, [((K - 1 : Nat) : Int)], [], (K : Int), false, 0, 0, 0, 0, [], 0, 0⟩ = some ⟨0, 3 * (K - 1) + 2 + 1, 3 * (K - 1) + 2 + 1, [], [], (K : Int), false, 0, 0, 0, 1, [], 0, 0⟩ := walkN_one (f := ⟨fnm, 0, 0, ordC K ks⟩) (op := 2) (n := 0) (by decide) rfl (by unfold PM.small; simp; omega) rfl gl.2.2 rfl
  rw [e3] at v1
  have v2 : walkN (ordF K ks) 100001 0 1 ⟨0, 3 * K, 3 * K, [], [], (K : Int), false, 0, 0, 0, 1, [], 0, 0⟩ = some ⟨0, 3 * K + 1, 3 * K + 1, [0], [], (K : Int), false, 0, 0, 0, 2, [], 0, 0⟩ := walkN_one (f := ⟨fnm, 0, 0, ordC K ks⟩) (op := 1) (n := 0) (by decide) rfl (by unfold PM.small; simp; omega) rfl (ordC_zero K ks) rfl
  have v := walkN_add 1 1 _ _ _ v1 v2
  obtain ⟨st2, s2, h3⟩ := ord_tail K hK1 hK ks hks hlt (doE (ordF K ks) 500 50 501 501 13) ((begE [] 0 [] 0).e :: ordE K) ks [] ⟨⟨[], 0, [], 0, 0, st', K, []⟩, ⟨0, 3 * (K - 1) + 2, 3 * (K - 1) + 2, [((K - 1 : Nat) : Int)], [], (K : Int), false, 1, 1, ((K - 1 : Nat) : Int), if K - 1 = 0 then 2 else 3, [((10 * (K - 1) : Nat) : Int)], 0, 0⟩, ordR K, false⟩ 2 st' c rfl (by omega) (by simp; omega) rfl rfl rfl rfl (by simp) (by simp) (by show 3 * (K - 1) + 2 ≤ _; simp; omega) v
  have := doE_of (fs := ordF K ks) (jf := 500) (tasks := 50) (n := 501) (k := 501) (h := 13) (E := []) (id := []) (fn := 0) (args := []) (f := ⟨fnm, 0, 0, ordC K ks⟩) (nn := 0) (by decide) (by decide) rfl rfl (by first | exact Int.le_refl _ | exact Nat.le_refl _) rfl (by decide) (E' := (begE [] 0 [] 0).e :: ordE K) (ov := false) (x := ⟨⟨[], 0, [], 0, (ordA ks : Int), st2, K, ioN ks⟩, s2, ordR K, true⟩) (by
    refine (loopE_go (k := 500) rfl hgo).trans ?_
    rw [← hc]
    exact h2.trans h3)
  exact ⟨st2, this⟩
end Go.Proofs.YtbpcibnomkfglaaGreatDoor
