/- LinkLives answers true. -/
import Derived.Test.YtofigofaiadffaaArgF
namespace Go.Proofs.Ytofigofaiadffaa
namespace linkLives
open Go.RowKit Go.ChangeShapes Go.WideShapes Go.ChangeAt Go.Deep

/-- The link with k loads sent, none of them out. -/
def sS (k : Nat) : Lk := { newL 3 5 2 7 100 with op := List.replicate k ⟨[], 0, 0⟩ }
theorem sS_used (k : Nat) : (sS k).used = k := by simp [sS, Lk.used, newL]
theorem sS_send (k : Nat) (h : k < 8) : sendE (sS k) [] = 0 ∧ sendL (sS k) [] = sS (k + 1) := by
  have e : sendE (sS k) [] = 0 := by
    unfold sendE
    rw [sS_used]
    simp [sS, newL]
    omega
  refine ⟨e, ?_⟩
  unfold sendL
  rw [if_pos e]
  simp [sS, List.replicate_succ']
theorem Reads.lt {w : World} {a : Option Addr} {n : Nat} {xs : List Nat} (h : Reads w a (bV xs)) (hl : xs.length = n) : ∀ ad, a = some ad → 0 < n → ad.block < w.heap.size := by
  rintro ad rfl h0
  rcases h with h | ⟨b, off, e, h⟩
  · have : xs = [] := by simpa [bV] using h
    subst this
    simp at hl
    omega
  · cases e
    obtain ⟨x, r, rfl⟩ : ∃ x r, xs = x :: r := by
      cases xs with
      | nil => simp at hl; omega
      | cons x r => exact ⟨x, r, rfl⟩
    exact cell_some_lt (h 0 (.int .u8 (x : Int)) (by simp [bV]))
theorem ord_one (x : List Nat) (n : Nat) (hn : 0 < n) : (ordF (keepE (fun _ => none) n x) 8 0).length = if n = 1 then 1 else 0 := by
  unfold keepE
  simp only [Option.isSome_none]
  by_cases h : n = 1
  · subst h
    simp [ordF, upd]
  · have h2 : ¬ 1 = n := fun e => h e.symm
    simp [ordF, upd, h, h2]
theorem inF_len (k : Nat) (f : Fr) : (inF (sS k) f).length = if forB (sS k) f = true ∧ f.sq = 1 then 1 else 0 := by
  unfold inF
  by_cases hF : forB (sS k) f = true
  · rw [if_pos hF]
    have hq : 0 ≤ f.sq := by unfold forB at hF; simp at hF; exact hF.2.2.2.2.1
    by_cases h0 : f.sq = 0
    · rw [if_pos h0]; simp [h0]
    · rw [if_neg h0]
      have ec : (closeL (sS k) f.ak).came = 0 := rfl
      have ee : (closeL (sS k) f.ak).ea = fun _ => none := rfl
      unfold accF
      rw [ec, ee]
      split
      · rename_i h1
        have : f.sq ≠ 1 := by omega
        simp [this]
      · rw [ord_one _ _ (by omega)]
        simp only [hF, true_and]
        by_cases h1 : f.sq = 1
        · simp [h1]
        · rw [if_neg (by omega), if_neg h1]
  · rw [if_neg hF]; simp [hF]
theorem inL_len (k : Nat) (f : Fr) : ((inL (sS k) f).op.length : Int) = if forB (sS k) f = true ∧ 0 < f.ak then (k : Int) - f.ak else (k : Int) := by
  have h1 : ∀ s : Lk, ∀ n x, (accL s n x).op = s.op := fun s n x => by unfold accL; split <;> rfl
  unfold inL
  by_cases hF : forB (sS k) f = true
  · rw [if_pos hF]
    have hak : f.ak ≤ (k : Int) := by unfold forB at hF; simp at hF; have := hF.2.2.2.1; rw [sS_used] at this; exact this
    have e : (if f.sq = 0 then closeL (sS k) f.ak else accL (closeL (sS k) f.ak) f.sq f.x).op = (closeL (sS k) f.ak).op := by split; rfl; exact h1 _ _ _
    rw [e]
    have e2 : (closeL (sS k) f.ak).op = (List.replicate k (⟨[], 0, 0⟩ : Op)).drop (f.ak.toNat - 0) := rfl
    rw [e2]
    simp only [List.length_drop, List.length_replicate, hF, true_and]
    split <;> omega
  · rw [if_neg hF, if_neg (fun h => hF h.1)]
    simp [sS]
theorem want_eq (k : Nat) (f : Fr) (n : Nat) (hl : f.x.length = n) : forB (sS k) f = decide (f.fr = 5 ∧ f.tt = 3 ∧ f.lf = 7 ∧ f.ak ≤ (k : Int) ∧ 0 ≤ f.sq ∧ n ≤ 4096) := by
  unfold forB
  rw [sS_used, hl]
  rfl
theorem sL_used (k : Nat) (f : Fr) (hk : k ≤ 8) : (inL (sS k) f).used ≤ 1000000 := by
  have h1 : ∀ s : Lk, ∀ n x, (accL s n x).used = s.used := fun s n x => by unfold accL Lk.used; split <;> rfl
  unfold inL
  by_cases hF : forB (sS k) f = true
  · rw [if_pos hF]
    have hak : f.ak ≤ (k : Int) := by unfold forB at hF; simp at hF; have := hF.2.2.2.1; rw [sS_used] at this; exact this
    have e : (if f.sq = 0 then closeL (sS k) f.ak else accL (closeL (sS k) f.ak) f.sq f.x).used = (closeL (sS k) f.ak).used := by split; rfl; exact h1 _ _ _
    rw [e]
    have e2 : (closeL (sS k) f.ak).used = max 0 f.ak.toNat + ((List.replicate k (⟨[], 0, 0⟩ : Op)).drop (f.ak.toNat - 0)).length := rfl
    rw [e2]
    simp only [List.length_drop, List.length_replicate]
    omega
  · rw [if_neg hF, sS_used]; omega

set_option linter.unusedSimpArgs false in
set_option maxRecDepth 100000 in
set_option maxHeartbeats 8000000 in
theorem walk_main (f : Fr) (a : Option Addr) (n c : Nat) (k : Nat) (w : World) (hok : Txt.ok w ⟨a, n, c, f.x⟩) (hn : n ≤ 5000) (hk : k ≤ 8) :
    Calls Try.prog 8 #[.agg #[.int .i64 f.fr, .int .i64 f.tt, .int .i64 f.lf, .int .i64 f.sq, .int .i64 f.ak, .slice a n c], .int .i64 (k : Int)] w fun e w' => e = .returned (.bool true) ∧ Below w.heap.size w w' := by
  obtain ⟨hl, hB, -, hnil, hr⟩ := hok
  simp only at hl hB hnil hr
  have hbn := below_new w (.cells #[.int .i64 f.fr, .int .i64 f.tt, .int .i64 f.lf, .int .i64 f.sq, .int .i64 f.ak, .slice a n c] 34)
  have hbx := BoxL.new w [.int .i64 f.fr, .int .i64 f.tt, .int .i64 f.lf, .int .i64 f.sq, .int .i64 f.ak, .slice a n c] 34
  obtain ⟨V, hV⟩ : ∃ V, V = w.alloc (.cells #[.int .i64 f.fr, .int .i64 f.tt, .int .i64 f.lf, .int .i64 f.sq, .int .i64 f.ak, .slice a n c] 34) := ⟨_, rfl⟩
  have HBX := hide (show BoxL V w.heap.size [.int .i64 f.fr, .int .i64 f.tt, .int .i64 f.lf, .int .i64 f.sq, .int .i64 f.ak, .slice a n c] by rw [hV]; exact hbx)
  rw [← hV] at hbn
  have HBN := hide hbn
  have HV := hide hV
  have HL := hide hl
  have HB := hide hB
  have HR := hide (hr.below hbn)
  have HNL := hide hnil
  have HLT := hide (Reads.lt (hr.below hbn) hl)
  have HWA := hide (want_eq k f n hl)
  have HIF := hide (inF_len k f)
  have HIL := hide (inL_len k f)
  have hni : ¬ (5000 : Int) < (n : Int) := by omega
  clear hbn hbx hV hl hB hnil hr
  go_enter Try.func8, Try.ntmps8
  go_upto_region 1 with fail
  rw [← HV.out]
  go_upto_region 2 with (go_at_call 9; go_must ((with_reducible refine (alive_any V).mono ?_); rintro e w0 ⟨rfl, hb0⟩; have HB0 := hide hb0; have C11 := hide (newB V w0 hb0 3 5 2 7 100); clear hb0))
  obtain ⟨x0, x1, x2, x3, x4, x5⟩ := (HBX.out.below HB0.out).c6
  go_wp2_with (go_at_call 11; go_must ((with_reducible refine C11.out.mono ?_); rintro e w1 ⟨g, rfl, hL1, hg1⟩; have HL1 := hide hL1; have HG := hide (Nat.le_trans HB0.out.size hg1); clear hL1 hg1))
  clear x0 x1 x2 x3 x4 x5
  go_loopw [7] (fun i wr => ∃ q : Nat, q ≤ k ∧ i = .int .i64 (q : Nat) ∧ Hid (LB V wr g (sS q))) (fun i _ => k - (intOf i).toNat)
  case atStart => exact ⟨0, Nat.zero_le _, by go_num, HL1⟩
  case round =>
    obtain ⟨q, hq, rfl, HLq⟩ := hrel
    by_cases hlt : q < k
    · have C12 := hide (sendB V wr g (sS q) none 0 0 [] HLq.out (by rw [sS_used]; omega) rfl (fun x hx => by cases hx) (.inl rfl) (fun _ => ⟨rfl, rfl⟩) (fun ad e _ => by cases e))
      rw [(sS_send q (by omega)).1, (sS_send q (by omega)).2] at C12
      go_wp2_with (go_at_call 12; go_must ((with_reducible refine C12.out.mono ?_); rintro e w2 ⟨rfl, hL2⟩; have HL2 := hide hL2; clear hL2))
      go_roundw
      case rel => exact ⟨q + 1, by omega, by go_num, HL2⟩
      case measure => simp [intOf]; omega
    · obtain rfl : q = k := by omega
      have C18 := hide (inB V wr g (sS q) f a n c HLq.out (by rw [sS_used]; omega) (Nat.zero_le _) HL.out HB.out (HR.out.below HLq.out.2) HNL.out (fun ad e h0 => by have := HLT.out ad e h0; have := HG.out; omega))
      obtain ⟨s2, hs2⟩ : ∃ s2, s2 = inL (sS q) f := ⟨_, rfl⟩
      have HU2 := hide (show s2.used ≤ 1000000 from by rw [hs2]; exact sL_used q f hk)
      rw [← hs2] at C18 HIL
      obtain ⟨R, hR⟩ : ∃ R, R = (inF (sS q) f).length := ⟨_, rfl⟩
      obtain ⟨L, hLe⟩ : ∃ L, L = s2.op.length := ⟨_, rfl⟩
      rw [← hR] at C18 HIF
      rw [← hLe] at HIL
      have HLE := hide hLe
      clear hs2 hR hLe
      obtain ⟨x0, x1, x2, x3, x4, x5⟩ := (HBX.out.below HLq.out.2).c6
      obtain ⟨fr, tt, lf, sq, ak, x⟩ := f
      simp only at HWA HIF HIL C18 x0 x1 x2 x3 x4 x5
      by_cases h1 : fr = 5
      · have q1 : (fr == 5) = true := by simpa using h1
        by_cases h2 : tt = 3
        · have q2 : (tt == 3) = true := by simpa using h2
          by_cases h3 : lf = 7
          · have q3 : (lf == 7) = true := by simpa using h3
            by_cases h4 : ak ≤ (q : Int)
            · have q4 : decide (ak ≤ (q : Int)) = true := by simpa using h4
              by_cases h5 : 0 ≤ sq
              · have q5 : decide (0 ≤ sq) = true := by simpa using h5
                by_cases h6 : n ≤ 4096
                · have q6 : decide ((n : Int) ≤ 4096) = true := by simp; omega
                  have HW := hide (show forB (sS q) ⟨fr, tt, lf, sq, ak, x⟩ = true from by rw [HWA.out]; simp [h1, h2, h3, h4, h5, h6])
                  clear h1 h2 h3
                  rw [HW.out] at C18 HIF HIL
                  simp only [true_and] at HIF HIL
                  by_cases h7 : 0 < ak
                  · have q7 : decide (0 < ak) = true := by simpa using h7
                    have hl0 : (L : Int) = (q : Int) - ak := by have := HIL.out; rw [if_pos h7] at this; exact this
                    have HL0 := hide hl0
                    have hlq : ((q : Int) - ak) = (L : Int) := by omega
                    have HLQ := hide hlq
                    have hqq : ((L : Int) == (q : Int) - ak) = true := by rw [hlq]; simp
                    have hak : ak = (q : Int) - (L : Int) := by omega
                    have hL8 : L ≤ q := by omega
                    clear hl0 hlq hak
                    by_cases h8 : sq = 1
                    · have hr0 : R = 1 := by have := HIF.out; rw [if_pos h8] at this; exact this
                      have q8 : (sq == 1) = true := by simpa using h8
                      subst hr0
                      clear h8
                      go_upto_region 10 with (go_at_call 18; go_must ((with_reducible refine C18.out.mono ?_); rintro e w2 ⟨b2, d2, rfl, -, hL2, -⟩; have HL2 := hide hL2; have HB2 := hide hL2.2; have C21 := hide (openB V w2 g s2 hL2 HU2.out); rw [← HLE.out] at C21; clear hL2))
                      clear x0 x1 x2 x3 x4 x5
                      obtain ⟨x0, x1, x2, x3, x4, x5⟩ := (HBX.out.below HB2.out).c6
                      go_wp2_with (go_at_call 21; go_must ((with_reducible refine C21.out.mono ?_); rintro e w3 ⟨rfl, hb3⟩; have y3 := keep_cell x3 hb3; have HB3 := hide (HB2.out.trans (hb3.mono HB2.out.size)); clear hb3))
                      go_ret
                      exact ⟨rfl, HBN.out.trans (HB3.out.mono HBN.out.size)⟩
                    · have hr0 : R = 0 := by have := HIF.out; rw [if_neg h8] at this; exact this
                      have q8 : (sq == 1) = false := by simpa using h8
                      subst hr0
                      clear h8
                      go_upto_region 10 with (go_at_call 18; go_must ((with_reducible refine C18.out.mono ?_); rintro e w2 ⟨b2, d2, rfl, -, hL2, -⟩; have HL2 := hide hL2; have HB2 := hide hL2.2; have C21 := hide (openB V w2 g s2 hL2 HU2.out); rw [← HLE.out] at C21; clear hL2))
                      clear x0 x1 x2 x3 x4 x5
                      obtain ⟨x0, x1, x2, x3, x4, x5⟩ := (HBX.out.below HB2.out).c6
                      go_wp2_with (go_at_call 21; go_must ((with_reducible refine C21.out.mono ?_); rintro e w3 ⟨rfl, hb3⟩; have y3 := keep_cell x3 hb3; have HB3 := hide (HB2.out.trans (hb3.mono HB2.out.size)); clear hb3))
                      go_ret
                      exact ⟨rfl, HBN.out.trans (HB3.out.mono HBN.out.size)⟩
                  · have q7 : decide (0 < ak) = false := by simp; omega
                    have hl0 : (L : Int) = (q : Int) := by have := HIL.out; rw [if_neg h7] at this; exact this
                    obtain rfl : L = q := by omega
                    clear hl0
                    by_cases h8 : sq = 1
                    · have hr0 : R = 1 := by have := HIF.out; rw [if_pos h8] at this; exact this
                      have q8 : (sq == 1) = true := by simpa using h8
                      subst hr0
                      clear h8
                      go_upto_region 10 with (go_at_call 18; go_must ((with_reducible refine C18.out.mono ?_); rintro e w2 ⟨b2, d2, rfl, -, hL2, -⟩; have HL2 := hide hL2; have HB2 := hide hL2.2; have C21 := hide (openB V w2 g s2 hL2 HU2.out); rw [← HLE.out] at C21; clear hL2))
                      clear x0 x1 x2 x3 x4 x5
                      obtain ⟨x0, x1, x2, x3, x4, x5⟩ := (HBX.out.below HB2.out).c6
                      go_wp2_with (go_at_call 21; go_must ((with_reducible refine C21.out.mono ?_); rintro e w3 ⟨rfl, hb3⟩; have y3 := keep_cell x3 hb3; have HB3 := hide (HB2.out.trans (hb3.mono HB2.out.size)); clear hb3))
                      go_ret
                      exact ⟨rfl, HBN.out.trans (HB3.out.mono HBN.out.size)⟩
                    · have hr0 : R = 0 := by have := HIF.out; rw [if_neg h8] at this; exact this
                      have q8 : (sq == 1) = false := by simpa using h8
                      subst hr0
                      clear h8
                      go_upto_region 10 with (go_at_call 18; go_must ((with_reducible refine C18.out.mono ?_); rintro e w2 ⟨b2, d2, rfl, -, hL2, -⟩; have HL2 := hide hL2; have HB2 := hide hL2.2; have C21 := hide (openB V w2 g s2 hL2 HU2.out); rw [← HLE.out] at C21; clear hL2))
                      clear x0 x1 x2 x3 x4 x5
                      obtain ⟨x0, x1, x2, x3, x4, x5⟩ := (HBX.out.below HB2.out).c6
                      go_wp2_with (go_at_call 21; go_must ((with_reducible refine C21.out.mono ?_); rintro e w3 ⟨rfl, hb3⟩; have y3 := keep_cell x3 hb3; have HB3 := hide (HB2.out.trans (hb3.mono HB2.out.size)); clear hb3))
                      go_ret
                      exact ⟨rfl, HBN.out.trans (HB3.out.mono HBN.out.size)⟩
                · have q6 : decide ((n : Int) ≤ 4096) = false := by simp; omega
                  have HW := hide (show forB (sS q) ⟨fr, tt, lf, sq, ak, x⟩ = false from by rw [HWA.out]; simp [h1, h2, h3, h4, h5, h6])
                  clear h1 h2 h3
                  rw [HW.out] at C18 HIF HIL
                  simp only [Bool.false_eq_true, false_and, if_false] at HIF HIL
                  have hr0 : R = 0 := HIF.out
                  have hl0 : (L : Int) = (q : Int) := HIL.out
                  obtain rfl : L = q := by omega
                  subst hr0
                  clear hl0
                  go_upto_region 10 with (go_at_call 18; go_must ((with_reducible refine C18.out.mono ?_); rintro e w2 ⟨b2, d2, rfl, -, hL2, -⟩; have HL2 := hide hL2; have HB2 := hide hL2.2; have C21 := hide (openB V w2 g s2 hL2 HU2.out); rw [← HLE.out] at C21; clear hL2))
                  clear x0 x1 x2 x3 x4 x5
                  obtain ⟨x0, x1, x2, x3, x4, x5⟩ := (HBX.out.below HB2.out).c6
                  go_wp2_with (go_at_call 21; go_must ((with_reducible refine C21.out.mono ?_); rintro e w3 ⟨rfl, hb3⟩; have y3 := keep_cell x3 hb3; have HB3 := hide (HB2.out.trans (hb3.mono HB2.out.size)); clear hb3))
                  go_ret
                  exact ⟨rfl, HBN.out.trans (HB3.out.mono HBN.out.size)⟩
              · have q5 : decide (0 ≤ sq) = false := by simp; omega
                have HW := hide (show forB (sS q) ⟨fr, tt, lf, sq, ak, x⟩ = false from by rw [HWA.out]; simp [h1, h2, h3, h4, h5])
                clear h1 h2 h3
                rw [HW.out] at C18 HIF HIL
                simp only [Bool.false_eq_true, false_and, if_false] at HIF HIL
                have hr0 : R = 0 := HIF.out
                have hl0 : (L : Int) = (q : Int) := HIL.out
                obtain rfl : L = q := by omega
                subst hr0
                clear hl0
                go_upto_region 10 with (go_at_call 18; go_must ((with_reducible refine C18.out.mono ?_); rintro e w2 ⟨b2, d2, rfl, -, hL2, -⟩; have HL2 := hide hL2; have HB2 := hide hL2.2; have C21 := hide (openB V w2 g s2 hL2 HU2.out); rw [← HLE.out] at C21; clear hL2))
                clear x0 x1 x2 x3 x4 x5
                obtain ⟨x0, x1, x2, x3, x4, x5⟩ := (HBX.out.below HB2.out).c6
                go_wp2_with (go_at_call 21; go_must ((with_reducible refine C21.out.mono ?_); rintro e w3 ⟨rfl, hb3⟩; have y3 := keep_cell x3 hb3; have HB3 := hide (HB2.out.trans (hb3.mono HB2.out.size)); clear hb3))
                go_ret
                exact ⟨rfl, HBN.out.trans (HB3.out.mono HBN.out.size)⟩
            · have q4 : decide (ak ≤ (q : Int)) = false := by simp; omega
              have HW := hide (show forB (sS q) ⟨fr, tt, lf, sq, ak, x⟩ = false from by rw [HWA.out]; simp [h1, h2, h3, h4])
              clear h1 h2 h3
              rw [HW.out] at C18 HIF HIL
              simp only [Bool.false_eq_true, false_and, if_false] at HIF HIL
              have hr0 : R = 0 := HIF.out
              have hl0 : (L : Int) = (q : Int) := HIL.out
              obtain rfl : L = q := by omega
              subst hr0
              clear hl0
              go_upto_region 10 with (go_at_call 18; go_must ((with_reducible refine C18.out.mono ?_); rintro e w2 ⟨b2, d2, rfl, -, hL2, -⟩; have HL2 := hide hL2; have HB2 := hide hL2.2; have C21 := hide (openB V w2 g s2 hL2 HU2.out); rw [← HLE.out] at C21; clear hL2))
              clear x0 x1 x2 x3 x4 x5
              obtain ⟨x0, x1, x2, x3, x4, x5⟩ := (HBX.out.below HB2.out).c6
              go_wp2_with (go_at_call 21; go_must ((with_reducible refine C21.out.mono ?_); rintro e w3 ⟨rfl, hb3⟩; have y3 := keep_cell x3 hb3; have HB3 := hide (HB2.out.trans (hb3.mono HB2.out.size)); clear hb3))
              go_ret
              exact ⟨rfl, HBN.out.trans (HB3.out.mono HBN.out.size)⟩
          · have q3 : (lf == 7) = false := by simpa using h3
            have HW := hide (show forB (sS q) ⟨fr, tt, lf, sq, ak, x⟩ = false from by rw [HWA.out]; simp [h1, h2, h3])
            clear h1 h2 h3
            rw [HW.out] at C18 HIF HIL
            simp only [Bool.false_eq_true, false_and, if_false] at HIF HIL
            have hr0 : R = 0 := HIF.out
            have hl0 : (L : Int) = (q : Int) := HIL.out
            obtain rfl : L = q := by omega
            subst hr0
            clear hl0
            go_upto_region 10 with (go_at_call 18; go_must ((with_reducible refine C18.out.mono ?_); rintro e w2 ⟨b2, d2, rfl, -, hL2, -⟩; have HL2 := hide hL2; have HB2 := hide hL2.2; have C21 := hide (openB V w2 g s2 hL2 HU2.out); rw [← HLE.out] at C21; clear hL2))
            clear x0 x1 x2 x3 x4 x5
            obtain ⟨x0, x1, x2, x3, x4, x5⟩ := (HBX.out.below HB2.out).c6
            go_wp2_with (go_at_call 21; go_must ((with_reducible refine C21.out.mono ?_); rintro e w3 ⟨rfl, hb3⟩; have y3 := keep_cell x3 hb3; have HB3 := hide (HB2.out.trans (hb3.mono HB2.out.size)); clear hb3))
            go_ret
            exact ⟨rfl, HBN.out.trans (HB3.out.mono HBN.out.size)⟩
        · have q2 : (tt == 3) = false := by simpa using h2
          have HW := hide (show forB (sS q) ⟨fr, tt, lf, sq, ak, x⟩ = false from by rw [HWA.out]; simp [h1, h2])
          clear h1 h2
          rw [HW.out] at C18 HIF HIL
          simp only [Bool.false_eq_true, false_and, if_false] at HIF HIL
          have hr0 : R = 0 := HIF.out
          have hl0 : (L : Int) = (q : Int) := HIL.out
          obtain rfl : L = q := by omega
          subst hr0
          clear hl0
          go_upto_region 10 with (go_at_call 18; go_must ((with_reducible refine C18.out.mono ?_); rintro e w2 ⟨b2, d2, rfl, -, hL2, -⟩; have HL2 := hide hL2; have HB2 := hide hL2.2; have C21 := hide (openB V w2 g s2 hL2 HU2.out); rw [← HLE.out] at C21; clear hL2))
          clear x0 x1 x2 x3 x4 x5
          obtain ⟨x0, x1, x2, x3, x4, x5⟩ := (HBX.out.below HB2.out).c6
          go_wp2_with (go_at_call 21; go_must ((with_reducible refine C21.out.mono ?_); rintro e w3 ⟨rfl, hb3⟩; have y3 := keep_cell x3 hb3; have HB3 := hide (HB2.out.trans (hb3.mono HB2.out.size)); clear hb3))
          go_ret
          exact ⟨rfl, HBN.out.trans (HB3.out.mono HBN.out.size)⟩
      · have q1 : (fr == 5) = false := by simpa using h1
        have HW := hide (show forB (sS q) ⟨fr, tt, lf, sq, ak, x⟩ = false from by rw [HWA.out]; simp [h1])
        clear h1
        rw [HW.out] at C18 HIF HIL
        simp only [Bool.false_eq_true, false_and, if_false] at HIF HIL
        have hr0 : R = 0 := HIF.out
        have hl0 : (L : Int) = (q : Int) := HIL.out
        obtain rfl : L = q := by omega
        subst hr0
        clear hl0
        go_upto_region 10 with (go_at_call 18; go_must ((with_reducible refine C18.out.mono ?_); rintro e w2 ⟨b2, d2, rfl, -, hL2, -⟩; have HL2 := hide hL2; have HB2 := hide hL2.2; have C21 := hide (openB V w2 g s2 hL2 HU2.out); rw [← HLE.out] at C21; clear hL2))
        clear x0 x1 x2 x3 x4 x5
        obtain ⟨x0, x1, x2, x3, x4, x5⟩ := (HBX.out.below HB2.out).c6
        go_wp2_with (go_at_call 21; go_must ((with_reducible refine C21.out.mono ?_); rintro e w3 ⟨rfl, hb3⟩; have y3 := keep_cell x3 hb3; have HB3 := hide (HB2.out.trans (hb3.mono HB2.out.size)); clear hb3))
        go_ret
        exact ⟨rfl, HBN.out.trans (HB3.out.mono HBN.out.size)⟩
set_option maxRecDepth 100000 in
set_option maxHeartbeats 1000000 in
theorem walk_skip (f : Fr) (a : Option Addr) (n c : Nat) (k : Int) (w : World) (h : k < 0 ∨ 8 < k ∨ 5000 < n) :
    Calls Try.prog 8 #[.agg #[.int .i64 f.fr, .int .i64 f.tt, .int .i64 f.lf, .int .i64 f.sq, .int .i64 f.ak, .slice a n c], .int .i64 k] w fun e w' => e = .returned (.bool true) ∧ Below w.heap.size w w' := by
  have hbn := below_new w (.cells #[.int .i64 f.fr, .int .i64 f.tt, .int .i64 f.lf, .int .i64 f.sq, .int .i64 f.ak, .slice a n c] 34)
  have hbx := BoxL.new w [.int .i64 f.fr, .int .i64 f.tt, .int .i64 f.lf, .int .i64 f.sq, .int .i64 f.ak, .slice a n c] 34
  obtain ⟨V, hV⟩ : ∃ V, V = w.alloc (.cells #[.int .i64 f.fr, .int .i64 f.tt, .int .i64 f.lf, .int .i64 f.sq, .int .i64 f.ak, .slice a n c] 34) := ⟨_, rfl⟩
  have HBX := hide (show BoxL V w.heap.size [.int .i64 f.fr, .int .i64 f.tt, .int .i64 f.lf, .int .i64 f.sq, .int .i64 f.ak, .slice a n c] by rw [hV]; exact hbx)
  rw [← hV] at hbn
  have HBN := hide hbn
  have HV := hide hV
  clear hbn hbx hV
  by_cases h1 : k < 0
  · clear h
    go_enter Try.func8, Try.ntmps8
    go_upto_region 1 with fail
    rw [← HV.out]
    go_wp2_with (go_at_call 9; go_must ((with_reducible refine (alive_any V).mono ?_); rintro e w1 ⟨rfl, hb1⟩))
    go_ret
    exact ⟨rfl, HBN.out.trans (hb1.mono HBN.out.size)⟩
  · by_cases h2 : 8 < k
    · clear h
      go_enter Try.func8, Try.ntmps8
      go_upto_region 1 with fail
      rw [← HV.out]
      go_wp2_with (go_at_call 9; go_must ((with_reducible refine (alive_any V).mono ?_); rintro e w1 ⟨rfl, hb1⟩))
      go_ret
      exact ⟨rfl, HBN.out.trans (hb1.mono HBN.out.size)⟩
    · have h3 : (5000 : Int) < (n : Int) := by omega
      clear h
      go_enter Try.func8, Try.ntmps8
      go_upto_region 1 with fail
      rw [← HV.out]
      go_wp2_with (go_at_call 9; go_must ((with_reducible refine (alive_any V).mono ?_); rintro e w1 ⟨rfl, hb1⟩; obtain ⟨x0, x1, x2, x3, x4, x5⟩ := (HBX.out.below hb1).c6))
      go_ret
      exact ⟨rfl, HBN.out.trans (hb1.mono HBN.out.size)⟩
/-- LinkLives answers true for every input. -/
theorem walk (f0 : Fr) (a0 : Option Addr) (l0 c0 : Nat) (x1 : Int) (W : World) (ok0 : Txt.ok W ⟨a0, l0, c0, f0.x⟩) (_h1 : -9223372036854775808 ≤ x1 ∧ x1 ≤ 9223372036854775807) :
    Calls Try.prog 8 #[.agg #[.int .i64 f0.fr, .int .i64 f0.tt, .int .i64 f0.lf, .int .i64 f0.sq, .int .i64 f0.ak, .slice a0 l0 c0], .int .i64 x1] W fun e w' => e = .returned (.bool true) ∧ Below W.heap.size W w' := by
  by_cases h : x1 < 0 ∨ 8 < x1 ∨ 5000 < l0
  · exact walk_skip f0 a0 l0 c0 x1 W h
  · obtain ⟨k, rfl⟩ : ∃ k : Nat, x1 = (k : Int) := ⟨x1.toNat, by omega⟩
    exact walk_main f0 a0 l0 c0 k W ok0 (by omega) (by omega)
end linkLives
end Go.Proofs.Ytofigofaiadffaa
