/- AsmSpawns' walk. -/
import Derived.Test.YtfnloomcianbiaaDoorSpawnT
import Derived.Test.YtfnloomcianbiaaDoorDigits
import Derived.Test.YtfnloomcianbiaaDoorAlive
namespace Go.Proofs.YtfnloomcianbiaaDoor
open Go.RowKit Go.ChangeShapes Go.WideShapes Go.ChangeAt Go.Deep

theorem spText_succ (fr tt k : Nat) : spText fr tt (k + 1) = spText fr tt k ++ spLn fr tt k := by
  simp [spText, List.range_succ]
theorem nat64 (k : Nat) (h : k ≤ 1000) : In64 [(k : Int)] := fun x hx => by
  have : x = (k : Int) := by simpa using hx
  omega
theorem itoa_len (k : Nat) (h : k ≤ 1000) : (Lib.itoa (k : Int)).length ≤ 21 := Lib.itoa_length_le _ (by omega) (by omega)
theorem spText_len (fr tt : Nat) (ht : tt ≤ 1000) : ∀ k, k ≤ 1000 → (spText fr tt k).length ≤ 16 + 100 * k
  | 0, _ => by simp [spText, spHead]
  | k + 1, h => by
    have ih := spText_len fr tt ht k (by omega)
    have h1 := itoa_len k (by omega)
    have h2 := itoa_len tt ht
    rw [spText_succ, List.length_append]
    have : (spLn fr tt k).length ≤ 100 := by
      simp only [spLn, fnL, spL, nmL]
      split <;> simp <;> omega
    omega

set_option maxRecDepth 100000 in
set_option maxHeartbeats 2000000 in
theorem spawns_any (n fr tt : Int) (w : World) (hE : Env w) : Calls Tryd.prog 6 #[.int .i64 n, .int .i64 fr, .int .i64 tt] w fun e w' => e = .returned (.bool true) ∧ Below w.heap.size w w' := by
  have AL := alive_any w hE
  by_cases hout : ¬ ((1 ≤ n ∧ n ≤ 20) ∧ (0 ≤ fr ∧ fr < n) ∧ (0 ≤ tt ∧ tt ≤ 30))
  · go_enter Tryd.func6, Tryd.ntmps6
    go_wp2_with (go_at_call 8; go_must (refine AL.mono ?_; rintro e w1 ⟨rfl, hb1⟩))
    all_goals first
      | (exfalso; omega)
      | (go_ret; exact ⟨rfl, hb1⟩)
  obtain ⟨h1, h2, h3⟩ := Classical.not_not.1 hout
  clear hout
  obtain ⟨n, rfl⟩ : ∃ k : Nat, n = (k : Int) := ⟨n.toNat, by omega⟩
  obtain ⟨fr, rfl⟩ : ∃ k : Nat, fr = (k : Int) := ⟨fr.toNat, by omega⟩
  obtain ⟨tt, rfl⟩ : ∃ k : Nat, tt = (k : Int) := ⟨tt.toNat, by omega⟩
  have hn1 : 1 ≤ n := by omega
  have hn2 : n ≤ 20 := by omega
  have hfn : fr < n := by omega
  have ht30 : tt ≤ 30 := by omega
  have q1 : ¬ (n : Int) < 1 := by omega
  have q2 : ¬ 20 < (n : Int) := by omega
  have q3 : ¬ n ≤ fr := by omega
  have q4 : ¬ (fr : Int) < 0 := by omega
  have q5 : ¬ (tt : Int) < 0 := by omega
  have q6 : ¬ 30 < (tt : Int) := by omega
  go_enter Tryd.func6, Tryd.ntmps6
  go_wp2_with (go_at_call 8; go_must (refine AL.mono ?_; rintro e w1 ⟨rfl, hb1⟩))
  clear AL
  have HFN := hide hfn
  have HN2 := hide hn2
  have HT30 := hide ht30
  clear hfn hn2 ht30 h1 h2 h3 q1 q2 q3 q4 q5 q6
  have hE1 := hE.below hb1
  go_loopw [8, 9, 10] (fun s l i wr => wr = w1 ∧ ∃ k : Nat, k ≤ n ∧ i = .int .i64 (k : Nat) ∧ s = .string (bs (spText fr tt k)) ∧ l = .int .i64 (if fr < k then 4 + (fr : Int) else 0)) (fun _ _ i _ => n - (intOf i).toNat)
  case atStart => exact ⟨rfl, 0, Nat.zero_le _, rfl, by simp [spText, spHead, bs], by simp⟩
  case round =>
    obtain ⟨rfl, k, hk, rfl, rfl, rfl⟩ := hrel
    have hn2 := HN2.out
    have ht30 := HT30.out
    have hlen := spText_len fr tt (by omega) k (by omega)
    by_cases hlt : k < n
    · have D1 := fun w => digits_any (k : Int) (nat64 k (by omega)) w
      have D2 := fun w => digits_any (tt : Int) (nat64 tt (by omega)) w
      have hz1 := itoa_len k (by omega)
      have hz2 := itoa_len tt (by omega)
      have HS := hide (show bs (spText fr tt (k + 1)) = bs (spText fr tt k) ++ ⟨#[102, 117, 110, 99, 32, 102]⟩ ++ bs (Lib.itoa (k : Int)) ++ ⟨#[32, 48, 32, 48, 10]⟩ ++ (if k = fr then ⟨#[32, 32, 115, 112, 97, 119, 110, 32, 102]⟩ ++ bs (Lib.itoa (tt : Int)) ++ ⟨#[10]⟩ else ⟨#[]⟩) by
        apply bytes_inj
        rw [bs_list, spText_succ]
        by_cases e : k = fr
        · rw [if_pos e]
          simp [spLn, fnL, spL, nmL, e, bs]
        · rw [if_neg e]
          simp [spLn, fnL, nmL, e, bs])
      have hs0 : (bs (spText fr tt k)).size ≤ 3000 := by rw [bs_size]; omega
      have hs1 : (bs (Lib.itoa (k : Int))).size ≤ 21 := by rw [bs_size]; omega
      have hs2 : (bs (Lib.itoa (tt : Int))).size ≤ 21 := by rw [bs_size]; omega
      generalize bs (spText fr tt k) = T0 at HS hs0 ⊢
      generalize bs (Lib.itoa (k : Int)) = A at D1 HS hs1
      generalize bs (Lib.itoa (tt : Int)) = B at D2 HS hs2
      have hlt' : (k : Int) < (n : Int) := by omega
      by_cases e : k = fr
      · rw [if_pos e] at HS
        subst e
        have HI := hide (show (if k < k then 4 + (k : Int) else 0) = 0 by rw [if_neg (by omega)])
        generalize (if k < k then 4 + (k : Int) else 0) = L0
        go_wp2_with (go_at_call 18; go_must (first | (with_reducible refine (D1 _).mono ?_; rintro e wz ⟨rfl, hwz⟩; replace hwz := hwz.symm; subst hwz) | (with_reducible refine (D2 _).mono ?_; rintro e wz ⟨rfl, hwz⟩; replace hwz := hwz.symm; subst hwz)))

        go_roundw
        case rel =>
          refine ⟨trivial, k + 1, by omega, by go_num, ?_, ?_⟩
          · rw [HS.out]
            simp only [ByteArray.append_assoc]
          · rw [if_pos (by omega)]
        case measure => simp [intOf]; omega
      · have e' : ¬ (k : Int) = (fr : Int) := by omega
        rw [if_neg e] at HS
        have HI := hide (show (if fr < k then 4 + (fr : Int) else 0) = (if fr < k + 1 then 4 + (fr : Int) else 0) by
          by_cases h : fr < k
          · rw [if_pos h, if_pos (by omega)]
          · rw [if_neg h, if_neg (by omega)])
        generalize (if fr < k then 4 + (fr : Int) else 0) = L0 at HI ⊢
        go_wp2_with (go_at_call 18; go_must (with_reducible refine (D1 _).mono ?_; rintro e wz ⟨rfl, hwz⟩; replace hwz := hwz.symm; subst hwz))
        go_roundw
        case rel =>
          refine ⟨trivial, k + 1, by omega, by go_num, ?_, by rw [HI.out]⟩
          rw [HS.out]
          congr 1
          apply bytes_inj
          simp
        case measure => simp [intOf]; omega
    · have hkn : k = n := by omega
      subst hkn
      have hfn := HFN.out
      have RD := spawns_read k fr tt ⟨hn1, hn2⟩ hfn ht30
      have hsz : (bs (spText fr tt k ++ [101, 110, 100, 10])).size ≤ 131072 := by
        rw [bs_size, List.length_append]
        simp only [List.length_cons, List.length_nil]
        omega
      have hz : bs (spText fr tt k) ++ ⟨#[101, 110, 100, 10]⟩ = bs (spText fr tt k ++ [101, 110, 100, 10]) := bs_append _ _
      have hs0 : (bs (spText fr tt k)).size ≤ 3000 := by rw [bs_size]; omega
      have HI := hide (show (if fr < k then 4 + (fr : Int) else 0) = 4 + (fr : Int) by rw [if_pos hfn])
      by_cases htk : tt < k
      · rw [if_pos htk] at RD
        have R := read_job hsz RD _ hE1
        have hL : ((spFs fr k).modify fr fun f => f.setN 0 (tt : Int)).length = k := by simp [spFs_len]
        have hC : ∀ h, (((spFs fr k).modify fr fun f => f.setN 0 (tt : Int))[fr]'h).code = [(16, (tt : Int))] := fun h => by
          rw [List.getElem_modify]
          simp [Fun.setN, spFs, spF]
        generalize ((spFs fr k).modify fr fun f => f.setN 0 (tt : Int)) = gs at R hL hC
        simp only [hL] at R
        rw [← hz] at R
        clear RD hsz hz
        generalize bs (spText fr tt k) = T0 at R hs0 ⊢
        generalize (if fr < k then 4 + (fr : Int) else 0) = L0
        have q1 : ¬ k ≤ tt := by omega
        have HG := hide hL
        have HC := hide hC
        have HFK := hide hfn
        clear hL hC hlt hk hfn htk hlen
        go_wp2_with (go_at_call 14; go_must (refine R.mono ?_; rintro e w3 ⟨fa, fc, aa, ac, cs, rfl, hj3, hb3⟩; refine Hid.out ?_))
        refine Lib.hid ?_
        clear R
        have hbz := alloc_below w3 (.cells #[.slice fa k fc, .int .i64 0, .slice aa ([] : List Int).length ac, .int .i64 5, .int .i64 5] 25)
        have hbe : Below w.heap.size w w3 := hb1.trans (hb3.mono hb1.size)
        have hlf : fr < gs.length := by rw [HG.out]; exact HFK.out
        obtain ⟨b, off, ca, cc, p1, y0, y1, y2, y3, yr⟩ := (hj3.below hbz).cell hlf
        simp only at p1
        subst p1
        rw [HC.out hlf] at y3 yr
        rcases yr with yr | ⟨cb, co, rfl, hcr⟩
        · simp [insV] at yr
        have c0 := hcr 0 (.int .i64 16) rfl
        have c1 := hcr 1 (.int .i64 (tt : Int)) rfl
        simp only [Nat.add_zero, List.length_cons, List.length_nil, Nat.zero_add] at c0 y3
        have hfk := HFK.out
        have hwl := cell_some_lt y0
        have hcl := cell_some_lt c0
        clear hcr hj3 y0 y1 y2
        simp only [List.length_nil] at hbz y3 c0 c1 hwl hcl
        go_wp2_with (go_at_call 15; go_must (refine (num_any _ _).mono ?_; rintro e wz ⟨rfl, hwz⟩; replace hwz := hwz.symm; subst hwz))
        go_ret
        exact ⟨rfl, hbe.trans (hbz.mono hbe.size)⟩
      · rw [if_neg htk] at RD
        have R := read_no hsz RD _ hE1
        rw [← hz] at R
        clear RD hsz hz
        generalize bs (spText fr tt k) = T0 at R hs0 ⊢
        have q1 : k ≤ tt := by omega
        generalize (if fr < k then 4 + (fr : Int) else 0) = L0 at HI ⊢
        clear hlt hk hfn htk hlen
        go_wp2_with (first
          | (go_at_call 14; go_must (refine R.mono ?_; rintro e w3 ⟨rfl, hb3⟩))
          | (go_at_call 15; go_must (refine (num_any _ _).mono ?_; rintro e wz ⟨rfl, hwz⟩; replace hwz := hwz.symm; subst hwz)))
        go_ret
        refine ⟨?_, (hb1.trans (hb3.mono hb1.size)).trans ((alloc_below w3 _).mono (Nat.le_trans hb1.size hb3.size))⟩
        show Ending.returned (Value.bool (4 + (fr : Int) == L0)) = _
        rw [HI.out]
        simp
end Go.Proofs.YtfnloomcianbiaaDoor
