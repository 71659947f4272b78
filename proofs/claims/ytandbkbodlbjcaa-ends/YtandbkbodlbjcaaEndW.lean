/- TableEnds answers true. -/
import Derived.Test.YtandbkbodlbjcaaEndM
namespace Go.Proofs.Ytandbkbodlbjcaa
open Go.RowKit Go.ChangeShapes Go.WideShapes Go.ChangeAt Go.Deep Go.Maps Go.Sort
namespace tableEnds

set_option maxRecDepth 100000 in
set_option maxHeartbeats 8000000 in
theorem walk_main (a0 : Option Addr) (n0 c0 : Nat) (l : List Int) (w : World) (hl : l.length = n0) (hn0 : n0 ≤ 200) (hr : Reads w a0 (iV l)) : Calls Try.prog 5 #[.slice a0 n0 c0] w fun e w' => e = .returned (.bool true) ∧ Below w.heap.size w w' := by
  have HL := hide hl
  have HR := hide hr
  clear hl hr
  have hn' : ¬ 200 < (n0 : Int) := by omega
  go_enter Try.func5, Try.ntmps5
  go_wp2_with (first
    | (go_at_call 7; go_must ((with_reducible refine (alive_any w).mono ?_); rintro e w1 ⟨rfl, hb1⟩; have HB1 := hide hb1; have C8 := hide (new_any 300 w1); clear hb1))
    | (go_at_call 8; go_must ((with_reducible refine C8.out.mono ?_); rintro e w2 ⟨rfl, hT, hB⟩; have HM := hide (EM.start HB1.out hT hB); clear hT hB)))
  clear C8
  generalize paint (fun _ => none) w1.heap.size .box = κ0 at HM
  generalize w1.heap.size = cb at HM ⊢
  go_loopw [5, 6] (fun r i wr => ∃ (k : Nat) (κ : Cl) (T : Tb) (a : Option Addr) (n c : Nat), k ≤ n0 ∧ n ≤ k ∧ r = .slice a n c ∧ i = .int .i64 (k : Nat) ∧ Hid (EM w wr κ cb T a n c T.rdy ∧ EI T k)) (fun _ i _ => n0 - (intOf i).toNat)
  case atStart => exact ⟨0, κ0, Tb.new 300, none, 0, 0, by omega, by omega, rfl, rfl, hide ⟨HM.out, EI.new⟩⟩
  case round =>
    obtain ⟨k, κ, T, a, n, c, hk, hnk, rfl, rfl, HI⟩ := hrel
    by_cases hlt : k < n0
    · obtain ⟨b, off, rfl, hc0⟩ := iv_at HR.out (show k < l.length by have := HL.out; omega)
      have hc := keep_cell hc0 HI.out.1.bel
      clear hc0
      generalize l.getD k 0 = x at *
      have hbt : bits .and .i64 x 3 = x % 4 := i64_mask 2 (by omega) x
      obtain ⟨q, hq⟩ : ∃ q : Nat, x % 4 = q := ⟨(x % 4).toNat, by omega⟩
      rw [hq] at hbt
      have hq4 : q = 0 ∨ q = 1 ∨ q = 2 ∨ q = 3 := by omega
      clear hq
      have HLN := hide HI.out.1.rn.1
      have HK2 := hide (show k < 200 by omega)
      by_cases hq01 : q = 0 ∨ q = 1
      · have kk : ∀ w : World, (convert 63 31 (.slice (some ⟨w.heap.size, 0, none⟩) 2 2)).run Try.prog (w.alloc (.cells #[.int .u8 ((k : Int) % 16), .int .u8 ((k : Int) / 16 % 16)] 5)) = .ok (.string (idB (k % 16) (k / 16 % 16))) (w.alloc (.cells #[.int .u8 ((k : Int) % 16), .int .u8 ((k : Int) / 16 % 16)] 5)) := fun w => by
          have := conv2 (k % 16) (k / 16 % 16) w
          push_cast at this
          exact this
        have HA := hide (HI.out.2.add HK2.out)
        have HA2 := hide (HI.out.2.added HK2.out)
        have HZ := hide (idB_size (k % 16) (k / 16 % 16))
        generalize idB (k % 16) (k / 16 % 16) = id at *
        have hM1 := hide (HI.out.1.below (below_new wr (.cells #[.int .u8 ((k : Int) % 16), .int .u8 ((k : Int) / 16 % 16)] 5)))
        have hl1 := HI.out.2.l1
        have hl2 := HI.out.2.l2
        have C11 := hide (add_at hM1.out.tab HA.out (by have := HZ.out; omega) (by omega) (by omega))
        clear hq4 hl1 hl2
        rcases hq01 with rfl | rfl
        all_goals
          go_wp2_with (first
            | (go_at_call 11; go_must ((with_reducible refine C11.out.mono ?_); rintro e w3 ⟨rfl, κ3, hT3, hS3⟩; have HM3 := hide (hM1.out.step hT3 hS3); clear hT3 hS3))
            | (at_builtin; go_must (refine append_n rfl (.tmp 71) (.tmp 73) rfl a n c T.rdy rfl (HM3.out.below (below_new _ _)).rn (by omega) _ id rfl (reads_new w3 (nV [id]) 31) ?_; intro a4 c4 w4 hov hgr hbk; have HM4 := hide ((HM3.out.below (below_new _ _)).app hov hgr hbk); have C27 := hide (ready_same HM4.out (by omega)); clear hov hgr hbk))
            | (go_at_call 27; go_must ((with_reducible refine C27.out.mono ?_); rintro e w5 ⟨a5, c5, rfl, hc5⟩; have C20 := hide hc5; clear hc5))
            | (go_at_call 20; go_must ((with_reducible refine C20.out.mono ?_); rintro e w6 ⟨rfl, hM6⟩; have HM6 := hide hM6; clear hM6)))
          go_roundw
          case rel => exact ⟨k + 1, κ3, _, a4, n + 1, c4, by omega, by omega, rfl, by go_num, hide ⟨HM6.out, HA2.out⟩⟩
          case measure => simp [intOf]; omega
      · by_cases hq2 : q = 2
        · subst hq2
          clear hq4 hq01
          have hl2 := HI.out.2.l2
          have hl3 := HI.out.2.l3
          by_cases hn0' : n = 0
          · subst hn0'
            have hR0 : T.rdy = [] := List.eq_nil_of_length_eq_zero HLN.out
            have C13 := hide (next_none HI.out.1.tab (by omega) (by omega) HI.out.2.dj hR0)
            have C27 := hide (ready_same HI.out.1 (by omega))
            clear hR0 hl2 hl3
            go_wp2_with (first
              | (go_at_call 13; go_must ((with_reducible refine C13.out.mono ?_); rintro e w3 ⟨rfl, rfl⟩))
              | (go_at_call 27; go_must ((with_reducible refine C27.out.mono ?_); rintro e w5 ⟨a5, c5, rfl, hc5⟩; have C20 := hide hc5; clear hc5))
              | (go_at_call 20; go_must ((with_reducible refine C20.out.mono ?_); rintro e w6 ⟨rfl, hM6⟩; have HM6 := hide hM6; clear hM6)))
            go_roundw
            case rel => exact ⟨k + 1, κ, T, a, 0, c, by omega, by omega, rfl, by go_num, hide ⟨HM6.out, HI.out.2.more⟩⟩
            case measure => simp [intOf]; omega
          · obtain ⟨n1, rfl⟩ : ∃ n1, n = n1 + 1 := ⟨n - 1, by omega⟩
            obtain ⟨b1, o1, rfl⟩ := HI.out.1.rn.addr (by omega)
            have hcc := HI.out.1.rn.2.1
            have h9 : (((n1 + 1 : Nat) : Int) == 0) = false := by simp; omega
            rcases T.rdy.eq_nil_or_concat with hR0 | ⟨L0, y, hR0⟩
            · have := HLN.out
              rw [hR0] at this
              simp at this
            · rw [List.concat_eq_append] at hR0
              have HR0 := hide hR0
              have hrn := HI.out.1.rn
              rw [hR0] at hrn
              obtain ⟨-, hcl, hov⟩ := hrn.last
              rw [Nat.add_sub_cancel] at hcl hov
              have HC := hide hcl
              have hsz := HI.out.1.rn.2.2.2
              have HOV := hide (hov : RN wr _ n1 c L0)
              have HN2 := hide (HI.out.2.next hR0)
              have C13 := hide (next_some HI.out.1.tab (by omega) (by omega) HI.out.2.dj hR0)
              clear hR0 hl2 hl3 hrn hov hsz hcl
              have q1 : (y.toList != y.toList) = false := by simp
              go_wp2_with (first
                | (go_at_call 13; go_must ((with_reducible refine C13.out.mono ?_); rintro e w3 ⟨rfl, -, κ3, hT3, hS3⟩; have HM3 := hide ((HI.out.1.cut HOV.out rfl).step hT3 hS3); have hcl3 := (HI.out.1.step hT3 hS3).rn; rw [HR0.out] at hcl3; obtain ⟨-, hcl, -⟩ := hcl3.last; rw [Nat.add_sub_cancel] at hcl; have C27 := hide (ready_same HM3.out (by omega)); clear hT3 hS3 hcl3))
                | (go_at_call 27; go_must ((with_reducible refine C27.out.mono ?_); rintro e w5 ⟨a5, c5, rfl, hc5⟩; have C20 := hide hc5; clear hc5))
                | (go_at_call 20; go_must ((with_reducible refine C20.out.mono ?_); rintro e w6 ⟨rfl, hM6⟩; have HM6 := hide hM6; clear hM6)))
              go_roundw
              case rel => exact ⟨k + 1, κ3, _, _, n1, c, by omega, by omega, rfl, by go_num, hide ⟨HM6.out, HN2.out⟩⟩
              case measure => simp [intOf]; omega
        · obtain rfl : q = 3 := by omega
          clear hq4 hq01 hq2
          have hl2 := HI.out.2.l2
          by_cases hn0' : n = 0
          · subst hn0'
            have hR0 : T.rdy = [] := List.eq_nil_of_length_eq_zero HLN.out
            have C23 := hide (steal_none HI.out.1.tab (by omega) hR0)
            have C27 := hide (ready_same HI.out.1 (by omega))
            clear hR0 hl2
            go_wp2_with (first
              | (go_at_call 23; go_must ((with_reducible refine C23.out.mono ?_); rintro e w3 ⟨rfl, rfl⟩))
              | (go_at_call 27; go_must ((with_reducible refine C27.out.mono ?_); rintro e w5 ⟨a5, c5, rfl, hc5⟩; have C20 := hide hc5; clear hc5))
              | (go_at_call 20; go_must ((with_reducible refine C20.out.mono ?_); rintro e w6 ⟨rfl, hM6⟩; have HM6 := hide hM6; clear hM6)))
            go_roundw
            case rel => exact ⟨k + 1, κ, T, a, 0, c, by omega, by omega, rfl, by go_num, hide ⟨HM6.out, HI.out.2.more⟩⟩
            case measure => simp [intOf]; omega
          · obtain ⟨b1, o1, rfl⟩ := HI.out.1.rn.addr (by omega)
            have hn1 : 1 ≤ n := by omega
            have hpos : 0 < n := by omega
            obtain ⟨A, hsl, hA, hAR⟩ := cut_first (b := b1) (off := o1) hn1 HI.out.1.rn.2.1
            have h9 : ((n : Int) == 0) = false := by simp; omega
            have h8 : (0 : Int) < (n : Int) := by omega
            cases hR0 : T.rdy with
            | nil =>
              have := HLN.out
              rw [hR0] at this
              simp at this
              omega
            | cons y L0 =>
              have HR0 := hide hR0
              have hrn := HI.out.1.rn
              rw [hR0] at hrn
              have HOV := hide (hAR wr y L0 hrn)
              have HBK := hide (show blk A = blk (some ⟨b1, o1, none⟩) from hA)
              have HN2 := hide (HI.out.2.steal hR0)
              have C23 := hide (steal_some HI.out.1.tab (by omega) hR0)
              have hz := HLN.out
              clear hR0 hl2 hrn hAR hA
              have q1 : (y.toList != y.toList) = false := by simp
              go_wp2_with (first
                | (go_at_call 23; go_must ((with_reducible refine C23.out.mono ?_); rintro e w3 ⟨rfl, -, hT3, hS3⟩; have HM3 := hide ((HI.out.1.cut HOV.out HBK.out).step hT3 hS3); have hcl3 := (HI.out.1.step hT3 hS3).rn; rw [HR0.out] at hcl3; obtain ⟨-, hcl, -, -⟩ := hcl3.first; have C27 := hide (ready_same HM3.out (by omega)); clear hT3 hS3 hcl3))
                | (go_at_call 27; go_must ((with_reducible refine C27.out.mono ?_); rintro e w5 ⟨a5, c5, rfl, hc5⟩; have C20 := hide hc5; clear hc5))
                | (go_at_call 20; go_must ((with_reducible refine C20.out.mono ?_); rintro e w6 ⟨rfl, hM6⟩; have HM6 := hide hM6; clear hM6)))
              go_roundw
              case rel => exact ⟨k + 1, κ, _, _, n - 1, c - 1, by omega, by omega, rfl, by go_num, hide ⟨HM6.out, HN2.out⟩⟩
              case measure => simp [intOf]; omega
    · obtain rfl : k = n0 := by omega
      go_wp2
      go_ret
      exact ⟨rfl, HI.out.1.bel⟩

theorem walk (a : Option Addr) (n c : Nat) (l : List Int) (w : World) (hl : l.length = n) (_hB : In64 l) (hm : n ≤ maxLen) (hr : Reads w a (iV l)) : Calls Try.prog 5 #[.slice a n c] w fun e w' => e = .returned (.bool true) ∧ Below w.heap.size w w' := by
  by_cases h : n ≤ 200
  · exact walk_main a n c l w hl h hr
  · have h' : 200 < (n : Int) := by omega
    have hm' : n ≤ 9223372036854775807 := by unfold maxLen at hm; omega
    go_enter Try.func5, Try.ntmps5
    go_wp2_with (go_at_call 7; go_must ((with_reducible refine (alive_any w).mono ?_); rintro e w1 ⟨rfl, hb1⟩))
    go_ret
    exact ⟨rfl, hb1⟩
end tableEnds
end Go.Proofs.Ytandbkbodlbjcaa
