/- EvalOrder: its evaluation, plain. -/
import Derived.Test.YtbpcibnomkfglaaGreatDoorOrdP
namespace Go.Proofs.YtbpcibnomkfglaaGreatDoor
open Go.RowKit Go.ChangeShapes Go.WideShapes Go.ChangeAt Go.Deep

theorem wrap_sum {a b : Int} (h1 : 0 ≤ a ∧ a ≤ 1000000) (h2 : 0 ≤ b ∧ b ≤ 1000000) : wrap64 (a + b) = a + b := IntWalk.wrap64_in _ (by omega)
/-- A spawn. -/
theorem ord_kid (K : Nat) (ks : List Nat) (E : List En) (hE : E.length ≤ 20) (u : UInt8) (a : Nat) (ha : a ≤ 1000) : doE (ordF K ks) 500 50 501 501 13 E [u] 1 [(a : Int)] = some (E ++ [⟨[u], 1, [(a : Int)], 0, ((a + 1 : Nat) : Int), 4, 0, []⟩], false, 0, ((a + 1 : Nat) : Int)) := by
  have hw : wrap64 ((a : Int) + 1) = ((a + 1 : Nat) : Int) := by rw [wrap_sum (by omega) (by omega)]; simp
  have w : walkN (ordF K ks) 100001 1 4 ⟨1, 0, 0, [], [(a : Int)], 0, false, 0, 0, 0, 0, [], 0, 0⟩ = some ⟨1, 3, 4, [wrap64 ((a : Int) + 1)], [(a : Int)], 0, false, 3, 0, 0, 4, [], 0, wrap64 ((a : Int) + 1)⟩ := by kernel_rfl
  rw [hw] at w
  have r1 := runW_ev (jf := 500) (n := 501) rfl w (by show (3 : Int) ≠ 0; decide) (by decide) (by show ((0 + 4 : Nat) : Int) ≤ 500; decide) (by show ((0 + 4 : Nat) : Int) ≤ 500; decide)
  have := doE_of (fs := ordF K ks) (jf := 500) (tasks := 50) (n := 501) (k := 501) (h := 12) (E := E) (id := [u]) (fn := 1) (args := [(a : Int)]) (f := ordGf) (nn := 1) (by omega) (by omega) rfl rfl (by decide) rfl (by decide) (E' := E ++ [(begE [u] 1 [(a : Int)] 1).e]) (ov := false) (x := ⟨⟨[u], 1, [(a : Int)], 0, ((a + 1 : Nat) : Int), 4, 0, []⟩, ⟨1, 3, 4, [((a + 1 : Nat) : Int)], [(a : Int)], 0, false, 3, 0, 0, 4, [], 0, ((a + 1 : Nat) : Int)⟩, [], true⟩) (by
    refine (loopE_go (k := 500) rfl (goE_of (x := begE [u] 1 [(a : Int)] 1) (by unfold Dg.small begE; simp) r1 (by show (4 : Nat) ≤ 1000000; decide) (evE_else (by show (3 : Int) ≠ 1; decide) (by show (3 : Int) ≠ 2; decide)))).trans ?_
    refine (loopE_end rfl).trans ?_
    rfl)
  have hset : ∀ y : En, (E ++ [(begE [u] 1 [(a : Int)] 1).e]).set E.length y = E ++ [y] := fun y => by
    rw [List.set_append_right _ _ (Nat.le_refl _), Nat.sub_self]
    rfl
  rw [hset] at this
  exact this
/-- The results of so many spawns; their entries. -/
def ordR : Nat → List (Int × Int)
  | 0 => []
  | n + 1 => ordR n ++ [(0, ((10 * n + 1 : Nat) : Int))]
def ordE : Nat → List En
  | 0 => []
  | n + 1 => ordE n ++ [⟨[n.toUInt8], 1, [((10 * n : Nat) : Int)], 0, ((10 * n + 1 : Nat) : Int), 4, 0, []⟩]
theorem ordR_len : ∀ n, (ordR n).length = n
  | 0 => rfl
  | n + 1 => by simp [ordR, ordR_len n]
theorem ordE_len : ∀ n, (ordE n).length = n
  | 0 => rfl
  | n + 1 => by simp [ordE, ordE_len n]
theorem ordR_at : ∀ (n k : Nat), k < n → (ordR n)[k]? = some (0, ((10 * k + 1 : Nat) : Int))
  | 0, _, h => by omega
  | n + 1, k, h => by
    rw [ordR]
    by_cases e : k = n
    · subst e
      rw [List.getElem?_append_right (by rw [ordR_len]; omega), ordR_len, Nat.sub_self]
      rfl
    · rw [List.getElem?_append_left (by rw [ordR_len]; omega)]
      exact ordR_at n k (by omega)
def ordA : List Nat → Nat
  | [] => 0
  | k :: r => 10 * k + 1 + ordA r
theorem ordA_app : ∀ a b : List Nat, ordA (a ++ b) = ordA a + ordA b
  | [], _ => by simp [ordA]
  | k :: a, b => by rw [List.cons_append, ordA, ordA_app a b, ordA]; omega
theorem ordA_le (K : Nat) : ∀ ks : List Nat, (∀ k ∈ ks, k < K) → ordA ks ≤ ks.length * (10 * K)
  | [], _ => by simp [ordA]
  | k :: r, h => by
    have h1 := ordA_le K r (fun x hx => h x (List.mem_cons_of_mem _ hx))
    have h2 := h k List.mem_cons_self
    rw [ordA, List.length_cons, Nat.add_mul]
    omega
def ioN (ks : List Nat) : List Int := ks.map fun (k : Nat) => (k : Int)
/-- From where all spawns are done. -/
theorem ord_tail (K : Nat) (hK1 : 1 ≤ K) (hK : K ≤ 16) (ks : List Nat) (hks : ks.length ≤ 20) (hlt : ∀ k ∈ ks, k < K) (D : DoF) (E : List En) : ∀ (r pre : List Nat) (x : Dg) (a st c : Nat), ks = pre ++ r → a ≤ 3 → st ≤ 1000 + 10 * pre.length → x.e = ⟨[], 0, [], 0, 0, st, K, ioN pre⟩ → x.res = ordR K → x.ended = false → x.s.wt = false → x.s.sk.length ≤ 10 → x.s.lo.length ≤ 10 → x.s.fu ≤ 3 * K + 1 + 3 * pre.length → 
    walkN (ordF K ks) 100001 0 a x.s.bare = some ⟨0, 3 * K + 1 + 3 * pre.length, 3 * K + 1 + 3 * pre.length, [(ordA pre : Int)], [], (K : Int), false, 0, 0, 0, a, [], 0, 0⟩ →
    ∃ st' s', loopE (goE D (ordF K ks) 500 501) (c + r.length + 1) E false x = some (E, false, ⟨⟨[], 0, [], 0, (ordA ks : Int), st', K, ioN ks⟩, s', ordR K, true⟩)
  | [], pre, x, a, st, c, hc, ha, hst, he, hr, hn, hwt, hsl, hll, hfu, w => by
    rw [List.append_nil] at hc
    subst hc
    have hA := ordA_le K ks hlt
    have hA2 : ks.length * (10 * K) ≤ 20 * 160 := Nat.mul_le_mul hks (by omega)
    have w1 : walkN (ordF K ks) 100001 0 1 ⟨0, 3 * K + 1 + 3 * ks.length, 3 * K + 1 + 3 * ks.length, [(ordA ks : Int)], [], (K : Int), false, 0, 0, 0, a, [], 0, 0⟩ = some ⟨0, 3 * K + 1 + 3 * ks.length, 3 * K + 1 + 3 * ks.length + 1, [(ordA ks : Int)], [], (K : Int), false, 3, 0, 0, a + 1, [], 0, (ordA ks : Int)⟩ := walkN_one (f := ⟨fnm, 0, 0, ordC K ks⟩) (op := 18) (n := 0) (by decide) rfl (by unfold PM.small; simp; omega) rfl (by have := ordC_mid K ks [] (18, 0) 0 rfl; rw [List.append_nil] at this; exact this) rfl
    have w2 := walkN_add a 1 _ _ _ w w1
    have hf2 := (walkN_keeps _ _ _ w).1
    have r1 := runW_ev (jf := 500) (n := 501) (s := x.s.bare) hwt w2 (by show (3 : Int) ≠ 0; decide) (by omega) (by show ((0 + (a + 1) : Nat) : Int) ≤ 500; omega) (by show ((x.s.fu + (a + 1) : Nat) : Int) ≤ 500; omega)
    have hid : (x.e.id.length : Int) = 0 := by rw [he]; rfl
    have hgo := goE_of (D := D) (E := E) (x := x) (by unfold Dg.small; rw [he, hr, ordR_len]; simp [ioN]; omega) (by rw [hid]; exact r1) (by show a + 1 ≤ 1000000; omega) (evE_else (by show (3 : Int) ≠ 1; decide) (by show (3 : Int) ≠ 2; decide))
    refine ⟨st + (a + 1), ⟨0, 3 * K + 1 + 3 * ks.length, 3 * K + 1 + 3 * ks.length + 1, [(ordA ks : Int)], [], (K : Int), false, 3, 0, 0, a + 1, [], 0, (ordA ks : Int)⟩, (loopE_go (k := c + 0) hn hgo).trans ?_⟩
    refine (loopE_end rfl).trans ?_
    rw [he, hr]
    rfl
  | k :: r, pre, x, a, st, c, hc, ha, hst, he, hr, hn, hwt, hsl, hll, hfu, w => by
    have hkK : k < K := hlt k (by rw [hc]; simp)
    have hplen : pre.length + r.length + 1 ≤ 20 := by rw [hc] at hks; simp at hks; omega
    have hApre := ordA_le K pre (fun q hq => hlt q (by rw [hc]; simp [hq]))
    have hA2 : pre.length * (10 * K) ≤ 20 * 160 := Nat.mul_le_mul (by omega) (by omega)
    obtain ⟨P, hP⟩ : ∃ P, P = 3 * K + 1 + 3 * pre.length := ⟨_, rfl⟩
    have c0 : (ordC K ks)[P]? = some (1, (k : Int)) := by rw [hc, hP]; exact ordC_mid K pre (k :: r) _ 0 rfl
    have c1 : (ordC K ks)[P + 1]? = some (17, 0) := by rw [hc, hP]; exact ordC_mid K pre (k :: r) _ 1 rfl
    have c2 : (ordC K ks)[P + 2]? = some (7, 0) := by rw [hc, hP]; exact ordC_mid K pre (k :: r) _ 2 rfl
    rw [← hP] at w
    have w1 : walkN (ordF K ks) 100001 0 1 ⟨0, P, P, [(ordA pre : Int)], [], (K : Int), false, 0, 0, 0, a, [], 0, 0⟩ = some ⟨0, P + 1, P + 1, [(k : Int), (ordA pre : Int)], [], (K : Int), false, 0, 0, 0, a + 1, [], 0, 0⟩ := walkN_one (f := ⟨fnm, 0, 0, ordC K ks⟩) (op := 1) (n := (k : Int)) (by decide) rfl (by unfold PM.small; simp; omega) rfl c0 rfl
    have hhas : hasB (K : Int) (k : Int) = true := by simp [hasB, inB]; omega
    have w2 : walkN (ordF K ks) 100001 0 1 ⟨0, P + 1, P + 1, [(k : Int), (ordA pre : Int)], [], (K : Int), false, 0, 0, 0, a + 1, [], 0, 0⟩ = some ⟨0, P + 1, P + 2, [(k : Int), (ordA pre : Int)], [], (K : Int), true, 2, 0, (k : Int), a + 2, [], 0, 0⟩ := walkN_one (f := ⟨fnm, 0, 0, ordC K ks⟩) (op := 17) (n := 0) (by decide) rfl (by unfold PM.small; simp; omega) rfl c1 (by
      unfold doM
      simp only
      rw [if_neg (by decide), if_neg (by decide), if_neg (by decide), if_pos (by decide), if_pos hhas])
    have w3 := walkN_add (a + 1) 1 _ _ _ (walkN_add a 1 _ _ _ w w1) w2
    have r1 := runW_ev (jf := 500) (n := 501) (s := x.s.bare) hwt w3 (by show (2 : Int) ≠ 0; decide) (by omega) (by show ((0 + (a + 1 + 1) : Nat) : Int) ≤ 500; omega) (by show ((x.s.fu + (a + 1 + 1) : Nat) : Int) ≤ 500; omega)
    have hid : (x.e.id.length : Int) = 0 := by rw [he]; rfl
    have hgo := goE_of (D := D) (E := E) (x := x) (by unfold Dg.small; rw [he, hr, ordR_len]; simp [ioN]; omega) (by rw [hid]; exact r1) (by show a + 2 ≤ 1000000; omega) (evE_wait (er := 0) (ev := ((10 * k + 1 : Nat) : Int)) (q := (⟨0, P + 2, P + 2, [((10 * k + 1 : Nat) : Int), (ordA pre : Int)], [], (K : Int), false, 0, 0, 0, 0, [], 0, 0⟩, none)) rfl ⟨by show (0 : Int) ≤ (k : Int); omega, by show P + 1 ≤ 100000; omega, by show (2 : Nat) ≤ 10000; decide, by show (0 : Nat) ≤ 10000; decide, rfl⟩ (by rw [hr]; exact ordR_at K k hkK) rfl)
    have hsum : wrap64 ((ordA pre : Int) + ((10 * k + 1 : Nat) : Int)) = (ordA (pre ++ [k]) : Int) := by
      rw [wrap_sum (by omega) (by omega), ordA_app]
      simp [ordA]
    have w4 : walkN (ordF K ks) 100001 0 1 ⟨0, P + 2, P + 2, [((10 * k + 1 : Nat) : Int), (ordA pre : Int)], [], (K : Int), false, 0, 0, 0, 0, [], 0, 0⟩ = some ⟨0, P + 3, P + 3, [(ordA (pre ++ [k]) : Int)], [], (K : Int), false, 0, 0, 0, 1, [], 0, 0⟩ := walkN_one (f := ⟨fnm, 0, 0, ordC K ks⟩) (op := 7) (n := 0) (by decide) rfl (by unfold PM.small; simp; omega) rfl c2 (by rw [← hsum]; rfl)
    have ih := ord_tail K hK1 hK ks hks hlt D E r (pre ++ [k]) ⟨⟨[], 0, [], 0, 0, st + (a + 2), K, ioN (pre ++ [k])⟩, ⟨0, P + 2, P + 2, [((10 * k + 1 : Nat) : Int), (ordA pre : Int)], [], (K : Int), false, 0, 0, 0, 0, [], 0, 0⟩, ordR K, false⟩ 1 (st + (a + 2)) c (by rw [hc]; simp) (by omega) (by simp; omega) rfl rfl rfl rfl (by simp) (by simp) (by simp; omega) (by
      have e : 3 * K + 1 + 3 * (pre ++ [k]).length = P + 3 := by simp; omega
      rw [e]
      exact w4)
    obtain ⟨st', s', hl⟩ := ih
    have hfin : (Dg.fin ⟨{ x.e with steps := x.e.steps + (a + 2), awaits := x.e.awaits ++ [(k : Int)] }, x.s, x.res, x.ended⟩ ⟨0, P + 2, P + 2, [((10 * k + 1 : Nat) : Int), (ordA pre : Int)], [], (K : Int), false, 0, 0, 0, 0, [], 0, 0⟩) = ⟨⟨[], 0, [], 0, 0, st + (a + 2), K, ioN (pre ++ [k])⟩, ⟨0, P + 2, P + 2, [((10 * k + 1 : Nat) : Int), (ordA pre : Int)], [], (K : Int), false, 0, 0, 0, 0, [], 0, 0⟩, ordR K, false⟩ := by
      rw [he, hr, hn]
      unfold Dg.fin
      rw [if_neg (by show ¬ (0 : Int) = 3; decide), if_neg (by show ¬ (0 : Int) = 3; decide)]
      simp only [ioN, List.map_append, List.map_cons, List.map_nil]
    exact ⟨st', s', (loopE_go (k := c + r.length + 1) hn hgo).trans ((congrArg (loopE (goE D (ordF K ks) 500 501) (c + r.length + 1) E false) hfin).trans hl)⟩
/-- Up to where all spawns are done. -/
theorem ord_spawns (K : Nat) (hK : K ≤ 16) (ks : List Nat) (hks : ks.length ≤ 20) (e0 : En) (c : Nat) : ∀ (i q : Nat), q + 1 + i = K → ∀ (st : Nat), st ≤ 10 * (q + 1) →
    ∃ st', st' ≤ 10 * K ∧ loopE (goE (doE (ordF K ks) 500 50 501 501 13) (ordF K ks) 500 501) (c + i) (e0 :: ordE (q + 1)) false ⟨⟨[], 0, [], 0, 0, st, q + 1, []⟩, ⟨0, 3 * q + 2, 3 * q + 2, [(q : Int)], [], ((q + 1 : Nat) : Int), false, 1, 1, (q : Int), if q = 0 then 2 else 3, [((10 * q : Nat) : Int)], 0, 0⟩, ordR (q + 1), false⟩
      = loopE (goE (doE (ordF K ks) 500 50 501 501 13) (ordF K ks) 500 501) c (e0 :: ordE K) false ⟨⟨[], 0, [], 0, 0, st', K, []⟩, ⟨0, 3 * (K - 1) + 2, 3 * (K - 1) + 2, [((K - 1 : Nat) : Int)], [], (K : Int), false, 1, 1, ((K - 1 : Nat) : Int), if K - 1 = 0 then 2 else 3, [((10 * (K - 1) : Nat) : Int)], 0, 0⟩, ordR K, false⟩
  | 0, q, h, st, hst => by
    have : K = q + 1 := by omega
    subst this
    exact ⟨st, hst, rfl⟩
  | i + 1, q, h, st, hst => by
    have g0 := ordG_at K q ([(1, 0)] ++ (ordH ks ++ [(18, 0)])) (by omega)
    have g1 := ordG_at K (q + 1) ([(1, 0)] ++ (ordH ks ++ [(18, 0)])) (by omega)
    have w1 : walkN (ordF K ks) 100001 0 1 ⟨0, 3 * q + 2, 3 * q + 2, [(q : Int)], [], ((q + 1 : Nat) : Int), false, 0, 0, 0, 0, [], 0, 0⟩ = some ⟨0, 3 * q + 2 + 1, 3 * q + 2 + 1, [], [], ((q + 1 : Nat) : Int), false, 0, 0, 0, 1, [], 0, 0⟩ := walkN_one (f := ⟨fnm, 0, 0, ordC K ks⟩) (op := 2) (n := 0) (by decide) rfl (by unfold PM.small; simp; omega) rfl g0.2.2 rfl
    have w2 : walkN (ordF K ks) 100001 0 1 ⟨0, 3 * q + 2 + 1, 3 * q + 2 + 1, [], [], ((q + 1 : Nat) : Int), false, 0, 0, 0, 1, [], 0, 0⟩ = some ⟨0, 3 * (q + 1) + 1, 3 * (q + 1) + 1, [((10 * (q + 1) : Nat) : Int)], [], ((q + 1 : Nat) : Int), false, 0, 0, 0, 2, [], 0, 0⟩ := walkN_one (f := ⟨fnm, 0, 0, ordC K ks⟩) (op := 1) (n := ((10 * (q + 1) : Nat) : Int)) (by decide) rfl (by unfold PM.small; simp; omega) rfl (by show (ordC K ks)[3 * q + 2 + 1]? = _; rw [show 3 * q + 2 + 1 = 3 * (q + 1) by omega]; exact g1.1) (by rw [show 3 * (q + 1) + 1 = 3 * q + 2 + 1 + 1 by omega]; rfl)
    have w3 : walkN (ordF K ks) 100001 0 1 ⟨0, 3 * (q + 1) + 1, 3 * (q + 1) + 1, [((10 * (q + 1) : Nat) : Int)], [], ((q + 1 : Nat) : Int), false, 0, 0, 0, 2, [], 0, 0⟩ = some ⟨0, 3 * (q + 1) + 2, 3 * (q + 1) + 2, [((q + 1 : Nat) : Int)], [], ((q + 1 + 1 : Nat) : Int), false, 1, 1, ((q + 1 : Nat) : Int), 3, [((10 * (q + 1) : Nat) : Int)], 0, 0⟩ := walkN_one (f := ⟨fnm, 0, 0, ordC K ks⟩) (op := 16) (n := 1) (by decide) rfl (by unfold PM.small; simp; omega) rfl g1.2.1 (by
      unfold doM
      simp only
      rw [if_neg (by decide), if_neg (by decide), if_pos (by decide), if_pos (by decide), if_pos (by omega), if_pos (by decide)]
      rfl)
    have w := walkN_add 2 1 _ _ _ (walkN_add 1 1 _ _ _ w1 w2) w3
    have r1 := runW_ev (jf := 500) (n := 501) rfl w (by show (1 : Int) ≠ 0; decide) (by decide) (by show ((0 + (2 + 1) : Nat) : Int) ≤ 500; decide) (by show ((3 * q + 2 + (2 + 1) : Nat) : Int) ≤ 500; omega)
    have hko : kidOk [] ((q + 1 : Nat) : Int) = true := by rw [kid_parts]; exact ⟨by omega, by omega, by decide, by decide⟩
    have hkl : kidL [] ((q + 1 : Nat) : Int) = [(q + 1).toUInt8] := by unfold kidL; rw [hko]; simp
    have hkid := ord_kid K ks (e0 :: ordE (q + 1)) (by simp [ordE_len]; omega) (q + 1).toUInt8 (10 * (q + 1)) (by omega)
    have hgo := goE_of (D := doE (ordF K ks) 500 50 501 501 13) (E := e0 :: ordE (q + 1)) (x := ⟨⟨[], 0, [], 0, 0, st, q + 1, []⟩, ⟨0, 3 * q + 2, 3 * q + 2, [(q : Int)], [], ((q + 1 : Nat) : Int), false, 1, 1, (q : Int), if q = 0 then 2 else 3, [((10 * q : Nat) : Int)], 0, 0⟩, ordR (q + 1), false⟩) (by unfold Dg.small; simp [ordR_len]; omega) r1 (by show (3 : Nat) ≤ 1000000; decide) (evE_spawn rfl hko (by show (0 : Int) ≤ 1; decide) (by show doE (ordF K ks) 500 50 501 501 13 _ (kidL [] ((q + 1 : Nat) : Int)) 1 _ = _; rw [hkl]; exact hkid))
    obtain ⟨st', h1, h2⟩ := ord_spawns K hK ks hks e0 c i (q + 1) (by omega) (st + 3) (by omega)
    refine ⟨st', h1, (loopE_go (k := c + i) rfl hgo).trans ?_⟩
    rw [← h2]
    rfl
end Go.Proofs.YtbpcibnomkfglaaGreatDoor
