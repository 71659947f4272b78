/- AsmLimits' walk. -/
import Derived.Test.YtfnloomcianbiaaDoorLimT
import Derived.Test.YtfnloomcianbiaaDoorSpawnW
namespace Go.Proofs.YtfnloomcianbiaaDoor
open Go.RowKit Go.ChangeShapes Go.WideShapes Go.ChangeAt Go.Deep

theorem sevens_snoc (k : Nat) : sevens (k + 1) = sevens k ++ [32, 55] := by
  simp [sevens, List.replicate_succ']
theorem pops_snoc (k : Nat) : pops (k + 1) = pops k ++ [32, 32, 112, 111, 112, 10] := by
  simp [pops, List.replicate_succ']
theorem sevens_len (k : Nat) : (sevens k).length = 2 * k := by
  induction k with
  | zero => rfl
  | succ n ih => rw [sevens_succ]; simp [ih]; omega
theorem lm2_snoc (k : Nat) : lm2 (k + 1) = lm2 k ++ (fnL k ++ [10]) := by
  simp [lm2, List.range_succ]
theorem lm2_len : ∀ k, k ≤ 1000 → (lm2 k).length ≤ 16 + 100 * k
  | 0, _ => by simp [lm2, lmHead]
  | k + 1, h => by
    have ih := lm2_len k (by omega)
    have h1 := itoa_len k (by omega)
    rw [lm2_snoc, List.length_append]
    have : (fnL k ++ [10]).length ≤ 100 := by
      simp only [fnL, nmL]
      simp
      omega
    omega

set_option maxRecDepth 100000 in
set_option maxHeartbeats 2000000 in
theorem limits_any (wh n : Int) (w : World) (hE : Env w) : Calls Tryd.prog 5 #[.int .i64 wh, .int .i64 n] w fun e w' => e = .returned (.bool true) ∧ Below w.heap.size w w' := by
  have AL := alive_any w hE
  by_cases hout : ¬ ((0 ≤ wh ∧ wh ≤ 2) ∧ (0 ≤ n ∧ n ≤ 300))
  · go_enter Tryd.func5, Tryd.ntmps5
    go_wp2_with (go_at_call 8; go_must (refine AL.mono ?_; rintro e w1 ⟨rfl, hb1⟩))
    all_goals first
      | (exfalso; omega)
      | (go_ret; exact ⟨rfl, hb1⟩)
  obtain ⟨h1, h2⟩ := Classical.not_not.1 hout
  clear hout
  obtain ⟨n, rfl⟩ : ∃ k : Nat, n = (k : Int) := ⟨n.toNat, by omega⟩
  have hn : n ≤ 300 := by omega
  have HN := hide hn
  have hw3 : wh = 0 ∨ wh = 1 ∨ wh = 2 := by omega
  have q3 : ¬ (n : Int) < 0 := by omega
  have q4 : ¬ 300 < (n : Int) := by omega
  clear h1 h2 hn
  rcases hw3 with rfl | rfl | rfl
  · go_enter Tryd.func5, Tryd.ntmps5
    go_wp2_with (go_at_call 8; go_must (refine AL.mono ?_; rintro e w1 ⟨rfl, hb1⟩))
    clear AL
    have hE1 := hE.below hb1
    go_loopw [6, 9] (fun s i wr => wr = w1 ∧ ∃ k : Nat, k ≤ n ∧ i = .int .i64 (k : Nat) ∧ s = .string (bs (lmHead ++ sevens k))) (fun _ i _ => n - (intOf i).toNat)
    case atStart => exact ⟨rfl, 0, Nat.zero_le _, rfl, by simp [lmHead, sevens, bs]⟩
    case round =>
      obtain ⟨rfl, k, hk, rfl, rfl⟩ := hrel
      have hn := HN.out
      have hs0 : (bs (lmHead ++ sevens k)).size ≤ 3000 := by rw [bs_size, List.length_append, sevens_len]; simp [lmHead]; omega
      by_cases hlt : k < n
      · have HS := hide (show bs (lmHead ++ sevens (k + 1)) = bs (lmHead ++ sevens k) ++ ⟨#[32, 55]⟩ by
          apply bytes_inj
          rw [bs_list, sevens_snoc]
          simp [bs])
        have hlt' : (k : Int) < (n : Int) := by omega
        generalize bs (lmHead ++ sevens k) = T0 at HS hs0 ⊢
        go_wp2
        go_roundw
        case rel => exact ⟨trivial, k + 1, by omega, by go_num, by rw [HS.out]⟩
        case measure => simp [intOf]; omega
      · have hkn : k = n := by omega
        subst hkn
        have hz : bs (lmHead ++ sevens k) ++ ⟨#[10, 102, 117, 110, 99, 32, 102, 48, 32, 48, 32, 48, 10]⟩ ++ ⟨#[101, 110, 100, 10]⟩ = bs (lm0 k ++ endT) := by
          apply bytes_inj
          rw [bs_list]
          simp [lm0, fnF0, endT, bs]
        have hsz : (bs (lm0 k ++ endT)).size ≤ 131072 := by
          rw [bs_size]
          simp only [lm0, List.length_append, List.length_cons, sevens_len]
          simp [lmHead, fnF0, endT]
          omega
        by_cases h8 : k ≤ 8
        · obtain ⟨st, RD⟩ := lm0_ok k h8
          have R := read_job hsz RD _ hE1
          rw [← hz] at R
          clear RD hsz hz
          generalize bs (lmHead ++ sevens k) = T0 at R hs0 ⊢
          have q8 : ¬ 8 < (k : Int) := by omega
          clear hlt hk h8
          go_wp2_with (first
            | (go_at_call 14; go_must (refine R.mono ?_; rintro e w3 ⟨fa, fc, aa, ac, cs, rfl, hj3, hb3⟩))
            | (go_at_call 15; go_must (refine (num_any _ _).mono ?_; rintro e wz ⟨rfl, hwz⟩; replace hwz := hwz.symm; subst hwz)))
          go_ret
          exact ⟨rfl, (hb1.trans (hb3.mono hb1.size)).trans ((alloc_below w3 _).mono (Nat.le_trans hb1.size hb3.size))⟩
        · have RD := lm0_no k (by omega)
          have R := read_no hsz RD _ hE1
          rw [← hz] at R
          clear RD hsz hz
          generalize bs (lmHead ++ sevens k) = T0 at R hs0 ⊢
          have q8 : 8 < (k : Int) := by omega
          clear hlt hk h8
          go_wp2_with (first
            | (go_at_call 14; go_must (refine R.mono ?_; rintro e w3 ⟨rfl, hb3⟩))
            | (go_at_call 15; go_must (refine (num_any _ _).mono ?_; rintro e wz ⟨rfl, hwz⟩; replace hwz := hwz.symm; subst hwz)))
          go_ret
          exact ⟨rfl, (hb1.trans (hb3.mono hb1.size)).trans ((alloc_below w3 _).mono (Nat.le_trans hb1.size hb3.size))⟩
  · go_enter Tryd.func5, Tryd.ntmps5
    go_wp2_with (go_at_call 8; go_must (refine AL.mono ?_; rintro e w1 ⟨rfl, hb1⟩))
    clear AL
    have hE1 := hE.below hb1
    go_loopw [6, 10] (fun s i wr => wr = w1 ∧ ∃ k : Nat, k ≤ n ∧ i = .int .i64 (k : Nat) ∧ s = .string (bs (lmHead ++ 10 :: fnF0 ++ pops k))) (fun _ i _ => n - (intOf i).toNat)
    case atStart => exact ⟨rfl, 0, Nat.zero_le _, rfl, by simp [lmHead, fnF0, pops, bs]; rfl⟩
    case round =>
      obtain ⟨rfl, k, hk, rfl, rfl⟩ := hrel
      have hn := HN.out
      have hs0 : (bs (lmHead ++ 10 :: fnF0 ++ pops k)).size ≤ 3000 := by rw [bs_size, List.length_append, pops_len]; simp [lmHead, fnF0]; omega
      by_cases hlt : k < n
      · have HS := hide (show bs (lmHead ++ 10 :: fnF0 ++ pops (k + 1)) = bs (lmHead ++ 10 :: fnF0 ++ pops k) ++ ⟨#[32, 32, 112, 111, 112, 10]⟩ by
          apply bytes_inj
          rw [bs_list, pops_snoc]
          simp [bs])
        have hlt' : (k : Int) < (n : Int) := by omega
        generalize bs (lmHead ++ 10 :: fnF0 ++ pops k) = T0 at HS hs0 ⊢
        go_wp2
        go_roundw
        case rel => exact ⟨trivial, k + 1, by omega, by go_num, by rw [HS.out]⟩
        case measure => simp [intOf]; omega
      · have hkn : k = n := by omega
        subst hkn
        have hz : bs (lmHead ++ 10 :: fnF0 ++ pops k) ++ ⟨#[101, 110, 100, 10]⟩ = bs (lm1 k ++ endT) := by
          apply bytes_inj
          rw [bs_list]
          simp [lm1, fnF0, endT, bs]
        have hsz : (bs (lm1 k ++ endT)).size ≤ 131072 := by
          rw [bs_size]
          simp only [lm1, List.length_append, List.length_cons, pops_len]
          simp [lmHead, fnF0, endT]
          omega
        have RD := lm1_read k
        by_cases h8 : k ≤ 256
        · rw [if_pos h8] at RD
          obtain ⟨st, RD⟩ := RD
          have R := read_job hsz RD _ hE1
          rw [← hz] at R
          clear RD hsz hz
          generalize bs (lmHead ++ 10 :: fnF0 ++ pops k) = T0 at R hs0 ⊢
          have q8 : ¬ 256 < (k : Int) := by omega
          clear hlt hk h8
          go_wp2_with (first
            | (go_at_call 14; go_must (refine R.mono ?_; rintro e w3 ⟨fa, fc, aa, ac, cs, rfl, hj3, hb3⟩))
            | (go_at_call 15; go_must (refine (num_any _ _).mono ?_; rintro e wz ⟨rfl, hwz⟩; replace hwz := hwz.symm; subst hwz)))
          go_ret
          exact ⟨rfl, (hb1.trans (hb3.mono hb1.size)).trans ((alloc_below w3 _).mono (Nat.le_trans hb1.size hb3.size))⟩
        · rw [if_neg h8] at RD
          have R := read_no hsz RD _ hE1
          rw [← hz] at R
          clear RD hsz hz
          generalize bs (lmHead ++ 10 :: fnF0 ++ pops k) = T0 at R hs0 ⊢
          have q8 : 256 < (k : Int) := by omega
          clear hlt hk h8
          go_wp2_with (first
            | (go_at_call 14; go_must (refine R.mono ?_; rintro e w3 ⟨rfl, hb3⟩))
            | (go_at_call 15; go_must (refine (num_any _ _).mono ?_; rintro e wz ⟨rfl, hwz⟩; replace hwz := hwz.symm; subst hwz)))
          go_ret
          exact ⟨rfl, (hb1.trans (hb3.mono hb1.size)).trans ((alloc_below w3 _).mono (Nat.le_trans hb1.size hb3.size))⟩
  · go_enter Tryd.func5, Tryd.ntmps5
    go_wp2_with (go_at_call 8; go_must (refine AL.mono ?_; rintro e w1 ⟨rfl, hb1⟩))
    clear AL
    have hE1 := hE.below hb1
    go_loopw [6, 11] (fun s i wr => wr = w1 ∧ ∃ k : Nat, k ≤ n + 1 ∧ i = .int .i64 (k : Nat) ∧ s = .string (bs (lm2 k))) (fun _ i _ => n + 1 - (intOf i).toNat)
    case atStart => exact ⟨rfl, 0, Nat.zero_le _, rfl, by simp [lm2, lmHead, bs]; rfl⟩
    case round =>
      obtain ⟨rfl, k, hk, rfl, rfl⟩ := hrel
      have hn := HN.out
      have hs0 : (bs (lm2 k)).size ≤ 40000 := by
        have := lm2_len k (by omega)
        rw [bs_size]
        omega
      by_cases hlt : k ≤ n
      · have D1 := fun w => digits_any (k : Int) (nat64 k (by omega)) w
        have hz1 := itoa_len k (by omega)
        have HS := hide (show bs (lm2 (k + 1)) = bs (lm2 k) ++ ⟨#[102, 117, 110, 99, 32, 102]⟩ ++ bs (Lib.itoa (k : Int)) ++ ⟨#[32, 48, 32, 48, 10]⟩ by
          apply bytes_inj
          rw [bs_list, lm2_snoc]
          simp [fnL, nmL, bs])
        have hs1 : (bs (Lib.itoa (k : Int))).size ≤ 21 := by rw [bs_size]; omega
        have hlt' : (k : Int) ≤ (n : Int) := by omega
        generalize bs (lm2 k) = T0 at HS hs0 ⊢
        generalize bs (Lib.itoa (k : Int)) = A at D1 HS hs1
        go_wp2_with (go_at_call 18; go_must (with_reducible refine (D1 _).mono ?_; rintro e wz ⟨rfl, hwz⟩; replace hwz := hwz.symm; subst hwz))
        go_roundw
        case rel => exact ⟨trivial, k + 1, by omega, by go_num, by rw [HS.out]⟩
        case measure => simp [intOf]; omega
      · have hkn : k = n + 1 := by omega
        subst hkn
        have hz : bs (lm2 (n + 1)) ++ ⟨#[101, 110, 100, 10]⟩ = bs (lm2 (n + 1) ++ endT) := by
          exact bs_append _ _
        have hsz : (bs (lm2 (n + 1) ++ endT)).size ≤ 131072 := by
          have := lm2_len (n + 1) (by omega)
          rw [bs_size, List.length_append]
          simp [endT]
          omega
        have RD := lm2_read n hn
        by_cases h8 : n ≤ 31
        · rw [if_pos h8] at RD
          obtain ⟨st, RD⟩ := RD
          have R := read_job hsz RD _ hE1
          rw [← hz] at R
          clear RD hsz hz
          generalize bs (lm2 (n + 1)) = T0 at R hs0 ⊢
          have q8 : ¬ 31 < (n : Int) := by omega
          clear hlt hk h8 hn
          go_wp2_with (first
            | (go_at_call 14; go_must (refine R.mono ?_; rintro e w3 ⟨fa, fc, aa, ac, cs, rfl, hj3, hb3⟩))
            | (go_at_call 15; go_must (refine (num_any _ _).mono ?_; rintro e wz ⟨rfl, hwz⟩; replace hwz := hwz.symm; subst hwz)))
          go_ret
          exact ⟨rfl, (hb1.trans (hb3.mono hb1.size)).trans ((alloc_below w3 _).mono (Nat.le_trans hb1.size hb3.size))⟩
        · rw [if_neg h8] at RD
          have R := read_no hsz RD _ hE1
          rw [← hz] at R
          clear RD hsz hz
          generalize bs (lm2 (n + 1)) = T0 at R hs0 ⊢
          have q8 : 31 < (n : Int) := by omega
          clear hlt hk h8 hn
          go_wp2_with (first
            | (go_at_call 14; go_must (refine R.mono ?_; rintro e w3 ⟨rfl, hb3⟩))
            | (go_at_call 15; go_must (refine (num_any _ _).mono ?_; rintro e wz ⟨rfl, hwz⟩; replace hwz := hwz.symm; subst hwz)))
          go_ret
          exact ⟨rfl, (hb1.trans (hb3.mono hb1.size)).trans ((alloc_below w3 _).mono (Nat.le_trans hb1.size hb3.size))⟩
end Go.Proofs.YtfnloomcianbiaaDoor
