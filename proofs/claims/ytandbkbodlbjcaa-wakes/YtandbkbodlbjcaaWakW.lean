/- TableWakes answers true. -/
import Derived.Test.YtandbkbodlbjcaaWakM
namespace Go.Proofs.Ytandbkbodlbjcaa
open Go.RowKit Go.ChangeShapes Go.WideShapes Go.ChangeAt Go.Deep Go.Maps Go.Sort
namespace tableWakes

/-- Which task the j-th waits for. -/
def KW (l : List Int) (j : Nat) : Nat := (l.getD j 0 % 16).toNat
theorem KW_lt (l : List Int) (j : Nat) : KW l j < 16 := by unfold KW; omega

theorem sameN {w : World} {L : List ByteArray} {a1 a2 : Option Addr} {n c1 c2 : Nat} (hn : L.length = n) (h1 : RN w a1 n c1 L) (h2 : RN w a2 n c2 L) (hn16 : n ≤ 16) : Calls Try.prog 20 #[.slice a1 n c1, .slice a2 n c2] w fun e w' => e = .returned (.bool true) ∧ Below w.heap.size w w' := by
  have := same_any L L a1 a2 c1 c2 w h1.reads h2.reads (by omega) (by omega)
  rw [hn] at this
  refine this.mono ?_
  rintro e w' ⟨rfl, hb⟩
  exact ⟨ret_bool (by simp), hb⟩
theorem readyN {w : World} {B n : Nat} {v : Value} {L : List ByteArray} (hn : L.length = n) (h : w.ownsRow B 31 1 v L.length (nV L)) : ∃ a c, v = .slice a n c ∧ RN w a n c L ∧ ∀ b, blk a = some b → B ≤ b := by
  rw [hn] at h
  exact own_formS h

set_option maxRecDepth 100000 in
set_option maxHeartbeats 8000000 in
theorem walk_main (a0 : Option Addr) (n0 c0 : Nat) (l : List Int) (wk : Nat) (w : World) (hl : l.length = n0) (hn0 : n0 ≤ 16) (hwk : wk < 16) (hr : Reads w a0 (iV l)) : Calls Try.prog 6 #[.slice a0 n0 c0, .int .i64 (wk : Nat)] w fun e w' => e = .returned (.bool true) ∧ Below w.heap.size w w' := by
  have HL := hide hl
  have HR := hide hr
  have HWK := hide hwk
  clear hl hr
  have hn' : ¬ 16 < (n0 : Int) := by omega
  have hw0 : ¬ (wk : Int) < 0 := by omega
  have hw1 : ¬ 15 < (wk : Int) := by omega
  have hwu : IntKind.u8.wrap (wk : Int) = (wk : Int) := by rw [IntKind.wrap_u8]; omega
  have HKL := hide (KW_lt l)
  go_enter Try.func6, Try.ntmps6
  go_wp2_with (first
    | (go_at_call 7; go_must ((with_reducible refine (alive_any w).mono ?_); rintro e w1 ⟨rfl, hb1⟩; have HB1 := hide hb1; have C8 := hide (new_any 20 w1); clear hb1))
    | (go_at_call 8; go_must ((with_reducible refine C8.out.mono ?_); rintro e w2 ⟨rfl, hT, hB⟩; have HM := hide (EM.start HB1.out hT hB); clear hT hB)))
  clear C8
  generalize paint (fun _ => none) w1.heap.size .box = κ0 at HM
  generalize w1.heap.size = cb at HM ⊢
  go_loopw [7, 8] (fun r i wr => ∃ (k : Nat) (κ : Cl) (a : Option Addr) (n c : Nat), k ≤ n0 ∧ n ≤ k ∧ r = .slice a n c ∧ i = .int .i64 (k : Nat) ∧ Hid (EM w wr κ cb (TW (KW l) k) a n c (wantW (KW l) wk k))) (fun _ i _ => n0 - (intOf i).toNat)
  case atStart => exact ⟨0, κ0, none, 0, 0, by omega, by omega, rfl, rfl, hide HM.out⟩
  case round =>
    obtain ⟨k, κ, a, n, c, hk, hnk, rfl, rfl, HI⟩ := hrel
    by_cases hlt : k < n0
    · obtain ⟨b, off, rfl, hc0⟩ := iv_at HR.out (show k < l.length by have := HL.out; omega)
      have hc := keep_cell hc0 HI.out.bel
      have hk16 : k < 16 := by omega
      have hku : IntKind.u8.wrap (k : Int) = (k : Int) := by rw [IntKind.wrap_u8]; omega
      have hq : l.getD k 0 % 16 = (KW l k : Nat) := by unfold KW; omega
      have hbt : bits .and .i64 (l.getD k 0) 15 = (KW l k : Nat) := by rw [← hq]; exact i64_mask 4 (by omega) _
      have hqu : IntKind.u8.wrap (KW l k : Int) = (KW l k : Int) := by have := HKL.out k; rw [IntKind.wrap_u8]; omega
      have HQ := hide (HKL.out k)
      have HA := hide (addW (KW l) hk16)
      have HPK := hide (parkW (KW l) hk16 HQ.out)
      have HWS := hide (wantW_succ (KW l) wk k)
      have hc1 := keep_cell hc (below_new wr (.cells #[.int .u8 (k : Int)] 5))
      generalize l.getD k 0 = x at *
      obtain ⟨q, hqq⟩ : ∃ q, q = KW l k := ⟨_, rfl⟩
      rw [← hqq] at hbt hqu HQ HPK HWS
      have kk := conv1 k
      have k2 := conv2 15 q
      push_cast at k2
      have hM1 := hide (HI.out.below (below_new wr (.cells #[.int .u8 (k : Int)] 5)))
      have C11 := hide (add_at hM1.out.tab HA.out (by rw [idW_size]; omega) (by show (alW k).length ≤ _; rw [al_len]; omega) (by show 0 ≤ _; omega))
      have hI1 := idW_size k
      have HI1 := hide hI1
      have HI2 := hide (idB_size 15 q)
      generalize idW k = id at *
      generalize idB 15 q = on at *
      clear hc0 hq hI1 hqq
      have q1 : (id.toList != id.toList) = false := by simp
      by_cases hqw : q = wk
      · have hqw' : ((q : Int) == (wk : Int)) = true := by simp [hqw]
        have HWS2 := hide (HWS.out.trans (if_pos hqw))
        clear hqw
        go_wp2_with (first
          | (go_at_call 11; go_must ((with_reducible refine C11.out.mono ?_); rintro e w3 ⟨rfl, κ3, hT3, hS3⟩; have HM3 := hide (hM1.out.step hT3 hS3); have C13 := hide (next_some HM3.out.tab (by show 1 ≤ _; omega) (by show 0 ≤ _; omega) (fun x _ h => (by cases h)) (L := []) (x := id) rfl); clear hT3 hS3))
          | (go_at_call 13; go_must ((with_reducible refine C13.out.mono ?_); rintro e w4 ⟨rfl, -, κ4, hT4, hS4⟩; have HM4 := hide ((HM3.out.step hT4 hS4).below (below_new w4 (.cells #[.int .u8 15, .int .u8 (q : Int)] 5))); have C17 := hide (park_any HM4.out.tab id on (by have := HI1.out; omega) (by have := HI2.out; omega) (by show (prkW (KW l) k).length ≤ _; rw [prk_len]; omega) (by show k ≤ _; omega)); rw [HPK.out] at C17; clear hT4 hS4))
          | (go_at_call 17; go_must ((with_reducible refine C17.out.mono ?_); rintro e w5 ⟨rfl, κ5, hT5, hS5⟩; have HM5 := hide (HM4.out.step hT5 hS5); clear hT5 hS5))
          | (at_builtin; go_must (refine append_n rfl (.tmp 73) (.tmp 75) rfl a n c _ rfl (HM5.out.below (below_new _ _)).rn (by omega) _ id rfl (reads_new w5 (nV [id]) 31) ?_; intro a6 c6 w6 hov hgr hbk; have HM6 := hide ((HM5.out.below (below_new _ _)).app hov hgr hbk); clear hov hgr hbk)))
        go_roundw
        case rel => exact ⟨k + 1, κ5, a6, n + 1, c6, by omega, by omega, rfl, by go_num, hide (by rw [HWS2.out]; exact HM6.out)⟩
        case measure => simp [intOf]; omega
      · have hqw' : ((q : Int) == (wk : Int)) = false := by simp; omega
        have HWS2 := hide (HWS.out.trans (if_neg hqw))
        clear hqw
        go_wp2_with (first
          | (go_at_call 11; go_must ((with_reducible refine C11.out.mono ?_); rintro e w3 ⟨rfl, κ3, hT3, hS3⟩; have HM3 := hide (hM1.out.step hT3 hS3); have C13 := hide (next_some HM3.out.tab (by show 1 ≤ _; omega) (by show 0 ≤ _; omega) (fun x _ h => (by cases h)) (L := []) (x := id) rfl); clear hT3 hS3))
          | (go_at_call 13; go_must ((with_reducible refine C13.out.mono ?_); rintro e w4 ⟨rfl, -, κ4, hT4, hS4⟩; have HM4 := hide ((HM3.out.step hT4 hS4).below (below_new w4 (.cells #[.int .u8 15, .int .u8 (q : Int)] 5))); have C17 := hide (park_any HM4.out.tab id on (by have := HI1.out; omega) (by have := HI2.out; omega) (by show (prkW (KW l) k).length ≤ _; rw [prk_len]; omega) (by show k ≤ _; omega)); rw [HPK.out] at C17; clear hT4 hS4))
          | (go_at_call 17; go_must ((with_reducible refine C17.out.mono ?_); rintro e w5 ⟨rfl, κ5, hT5, hS5⟩; have HM5 := hide (HM4.out.step hT5 hS5); clear hT5 hS5)))
        go_roundw
        case rel => exact ⟨k + 1, κ5, a, n, c, by omega, by omega, rfl, by go_num, hide (by rw [HWS2.out]; exact HM5.out)⟩
        case measure => simp [intOf]; omega
    · obtain rfl : k = n0 := by omega
      have hln := HI.out.rn.1
      have HLN := hide hln
      have hwn := want_len (KW l) wk k
      have kw := conv2 15 wk
      push_cast at kw
      have hM1 := hide (HI.out.below (below_new wr (.cells #[.int .u8 15, .int .u8 (wk : Int)] 5)))
      have C19 := hide (wake_first hM1.out.tab hn0 HKL.out HWK.out hln)
      have esz : ∀ (w : World) (o : Obj), (w.alloc o).heap.size = w.heap.size + 1 := fun w o => by simp
      rw [esz] at C19
      have hn16 : n ≤ 16 := by omega
      have hsub : ((k : Int) - (n : Int)) = ((k - n : Nat) : Int) := by omega
      have hlkk : ¬ (k : Int) < (k : Int) := by omega
      clear hln hwn
      go_wp2_with (first
        | (go_at_call 19; ((with_reducible refine C19.out.mono ?_); rintro e w3 ⟨a3, c3, κ3, rfl, hR3, hT3, hS3⟩; have HM3 := hide ((hM1.out.below (below_new _ _)).step hT3 hS3); have C20 := hide (sameN HLN.out hR3 HM3.out.rn hn16); clear hT3 hS3 hR3 C19))
        | (go_at_call 20; ((with_reducible refine C20.out.mono ?_); rintro e w4 ⟨rfl, hb4⟩; have HM4 := hide (HM3.out.below hb4); have C27 := hide (tab_ready HM4.out.tab (by show (wantW (KW l) wk k).length ≤ _; have := HLN.out; omega)); clear hb4 C20))
        | (go_at_call 27; ((with_reducible refine C27.out.mono ?_); rintro e w5 ⟨v5, rfl, ho5, hb5⟩; obtain ⟨a5, c5, rfl, hR5, _⟩ := readyN HLN.out ho5; have HM5 := hide (HM4.out.below hb5); have C20' := hide (sameN HLN.out hR5 HM5.out.rn hn16); clear ho5 hb5 hR5 C27))
        | (go_at_call 20; ((with_reducible refine C20'.out.mono ?_); rintro e w6 ⟨rfl, hb6⟩; have HM6 := hide (HM5.out.below hb6); have C28 := hide (parked_len HM6.out.tab hn0 HKL.out HWK.out HLN.out); clear hb6 C20'))
        | (go_at_call 28; ((with_reducible refine C28.out.mono ?_); rintro e w7 ⟨a7, c7, rfl, hb7⟩; have HM7 := hide ((HM6.out.below hb7).below (below_new w7 (.cells #[.int .u8 15, .int .u8 (wk : Int)] 5))); have C19' := hide (wake_second HM7.out.tab hn0); rw [esz] at C19'; clear hb7 C28))
        | (go_at_call 19; ((with_reducible refine C19'.out.mono ?_); rintro e w8 ⟨a8, c8, κ8, T8, rfl, hT8, hS8⟩; have HM8 := hide ((HM7.out.below (below_new _ _)).step hT8 hS8); clear hT8 hS8)))
      go_ret
      exact ⟨rfl, HM8.out.bel⟩

theorem walk (a : Option Addr) (n c : Nat) (l : List Int) (x : Int) (w : World) (hl : l.length = n) (_hB : In64 l) (hm : n ≤ maxLen) (hr : Reads w a (iV l)) (_hx : -9223372036854775808 ≤ x ∧ x ≤ 9223372036854775807) : Calls Try.prog 6 #[.slice a n c, .int .i64 x] w fun e w' => e = .returned (.bool true) ∧ Below w.heap.size w w' := by
  have hm' : n ≤ 9223372036854775807 := by unfold maxLen at hm; omega
  by_cases h : n ≤ 16
  · by_cases h0 : 0 ≤ x
    · by_cases h1 : x ≤ 15
      · have := walk_main a n c l x.toNat w hl h (by omega) hr
        rw [Int.toNat_of_nonneg h0] at this
        exact this
      · have h' : ¬ 16 < (n : Int) := by omega
        have h0' : ¬ x < 0 := by omega
        have h1' : 15 < x := by omega
        go_enter Try.func6, Try.ntmps6
        go_wp2_with (go_at_call 7; go_must ((with_reducible refine (alive_any w).mono ?_); rintro e w1 ⟨rfl, hb1⟩))
        go_ret
        exact ⟨rfl, hb1⟩
    · have h' : ¬ 16 < (n : Int) := by omega
      have h0' : x < 0 := by omega
      go_enter Try.func6, Try.ntmps6
      go_wp2_with (go_at_call 7; go_must ((with_reducible refine (alive_any w).mono ?_); rintro e w1 ⟨rfl, hb1⟩))
      go_ret
      exact ⟨rfl, hb1⟩
  · have h' : 16 < (n : Int) := by omega
    go_enter Try.func6, Try.ntmps6
    go_wp2_with (go_at_call 7; go_must ((with_reducible refine (alive_any w).mono ?_); rintro e w1 ⟨rfl, hb1⟩))
    go_ret
    exact ⟨rfl, hb1⟩
end tableWakes
end Go.Proofs.Ytandbkbodlbjcaa
