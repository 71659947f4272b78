/- DequeAlone answers true. -/
import Derived.Test.YtaooglcjcnkgnaaAloM
namespace Go.Proofs.Ytaooglcjcnkgnaa
open Go.RowKit Go.ChangeShapes Go.WideShapes Go.ChangeAt Go.Deep
namespace dequeAlone

theorem pop_some {x v : Int} {R R2 : List Int} (h : x = 3 ∧ R = [] ∧ R2 = [] ∨ x = 2 ∧ R = R2 ++ [v]) (hn : 0 < R.length) : x = 2 ∧ R = R2 ++ [v] := by
  rcases h with ⟨_, h, _⟩ | h
  · rw [h] at hn; simp at hn
  · exact h
theorem pop_none {x v : Int} {R R2 : List Int} (h : x = 3 ∧ R = [] ∧ R2 = [] ∨ x = 2 ∧ R = R2 ++ [v]) (hn : R.length = 0) : x = 3 ∧ R2 = [] := by
  rcases h with ⟨h1, _, h2⟩ | ⟨_, h⟩
  · exact ⟨h1, h2⟩
  · rw [h] at hn; simp at hn
theorem st_some {x v : Int} {R R2 : List Int} (h : x = 3 ∧ R = [] ∧ R2 = [] ∨ x = 2 ∧ R = v :: R2) (hn : 0 < R.length) : x = 2 ∧ R = v :: R2 := by
  rcases h with ⟨_, h, _⟩ | h
  · rw [h] at hn; simp at hn
  · exact h
theorem st_none {x v : Int} {R R2 : List Int} (h : x = 3 ∧ R = [] ∧ R2 = [] ∨ x = 2 ∧ R = v :: R2) (hn : R.length = 0) : x = 3 ∧ R2 = [] := by
  rcases h with ⟨h1, _, h2⟩ | ⟨_, h⟩
  · exact ⟨h1, h2⟩
  · rw [h] at hn; simp at hn

theorem AM.items {w wr : World} {cb m : Nat} {d : Dq} {R : List Int} {a : Option Addr} {n c : Nat} (h : AM w wr cb m d R a n c R) (hm : m ≤ 10000) (hn : n ≤ 1000) : Calls Try.prog 21 #[.pointer (some ⟨cb, 0, none⟩)] wr fun e w' => ∃ a5 c5, e = .returned (.slice a5 n c5) ∧ AM w w' cb m d R a n c R ∧ Calls Try.prog 20 #[.slice a5 n c5, .slice a n c] w' fun e w'' => e = .returned (.bool true) ∧ AM w w'' cb m d R a n c R := by
  refine (h.dn.items (h.sm.mono (by omega))).mono ?_
  rintro e w' ⟨a5, n5, c5, rfl, hn5, ho5, hb5⟩
  rw [h.al.items] at ho5 hn5
  have hl := h.ov.1
  obtain rfl : n5 = n := by omega
  obtain ⟨a6, c6, e6, _, hr6, _, _⟩ := own_reads ho5
  simp only [Value.slice.injEq, true_and] at e6
  obtain ⟨rfl, rfl⟩ := e6
  have h2 := h.below hb5
  refine ⟨_, _, rfl, h2, (sameInts_any R R _ _ _ _ _ _ w' hl hl (by omega) hr6 h2.ov.reads).mono ?_⟩
  rintro e w'' ⟨rfl, hb⟩
  exact ⟨ret_bool (by simp), h2.below hb⟩

set_option maxRecDepth 100000 in
set_option maxHeartbeats 8000000 in
theorem walk_main (a0 : Option Addr) (n0 c0 : Nat) (l : List Int) (w : World) (hl : l.length = n0) (hn0 : n0 ≤ 300) (hr : Reads w a0 (iV l)) : Calls Try.prog 5 #[.slice a0 n0 c0] w fun e w' => e = .returned (.bool true) ∧ Below w.heap.size w w' := by
  have HL := hide hl
  have HR := hide hr
  clear hl hr
  have hn' : ¬ 300 < (n0 : Int) := by omega
  go_enter Try.func5, Try.ntmps5
  go_wp2_with (first
    | (go_at_call 10; go_must ((with_reducible refine (alive_any w).mono ?_); rintro e w1 ⟨rfl, hb1⟩; have C11 := hide (Dn.new hb1); clear hb1))
    | (go_at_call 11; go_must ((with_reducible refine C11.out.mono ?_); rintro e w2 ⟨cb, rfl, hD, hB⟩; have HM := hide (show AM w w2 cb 0 Dq.zero [] none 0 0 [] from ⟨hB, hD.less (fun k hk => by rcases hk with hk | hk; exact hk; cases hk), OV.nil _ _, Al.zero, Sml.zero⟩); clear hD hB)))
  clear C11
  go_loopw [5, 6] (fun r i wr => ∃ (k : Nat) (d : Dq) (R : List Int) (a : Option Addr) (n c : Nat), k ≤ n0 ∧ n ≤ k ∧ r = .slice a n c ∧ i = .int .i64 (k : Nat) ∧ Hid (AM w wr cb (12 * k) d R a n c R)) (fun _ i _ => n0 - (intOf i).toNat)
  case atStart => exact ⟨0, Dq.zero, [], none, 0, 0, by omega, by omega, rfl, rfl, HM⟩
  case round =>
    obtain ⟨k, d, R, a, n, c, hk, hnk, rfl, rfl, HM⟩ := hrel
    by_cases hlt : k < n0
    · obtain ⟨b, off, rfl, hc0⟩ := iv_at HR.out (show k < l.length by have := HL.out; omega)
      have hc := keep_cell hc0 HM.out.bel
      clear hc0
      generalize l.getD k 0 = x at *
      have hbt : bits .and .i64 x 3 = x % 4 := i64_mask 2 (by omega) x
      obtain ⟨q, hq⟩ : ∃ q : Nat, x % 4 = q := ⟨(x % 4).toNat, by omega⟩
      rw [hq] at hbt
      have hq4 : q = 0 ∨ q = 1 ∨ q = 2 ∨ q = 3 := by omega
      clear hq
      have e12 : 12 * (k + 1) = 12 * k + 12 := by omega
      have HE := hide e12
      clear e12
      have hln := HM.out.ov.1
      have HLN := hide hln
      clear hln
      by_cases hq01 : q = 0 ∨ q = 1
      · have C23 := hide (HM.out.push (by omega) (k : Int))
        clear hq4
        rcases hq01 with rfl | rfl
        all_goals
          go_wp2_with (first
            | (go_at_call 23; go_must ((with_reducible refine C23.out.mono ?_); rintro e w3 ⟨v3, d3, rfl, hM⟩; have HM3 := hide hM; clear hM))
            | (at_builtin; go_must (refine append_v rfl (.tmp 67) (.tmp 69) rfl w.heap.size a n c R rfl (HM3.out.below (below_new _ _)).ov (by omega) (by have := HM3.out.bel.size; simp; omega) _ (k : Int) rfl (reads_new w3 (iV [(k : Int)]) 3) ?_; intro a4 c4 w4 hov hgr hbk; have HM4 := hide ((HM3.out.below (below_new _ _)).app hov hgr hbk); have C21 := hide (HM4.out.items (by omega) (by omega)); clear hov hgr hbk))
            | (go_at_call 21; go_must ((with_reducible refine C21.out.mono ?_); rintro e w5 ⟨a5, c5, rfl, hM5, hc5⟩; have C20 := hide hc5; clear hM5 hc5))
            | (go_at_call 20; go_must ((with_reducible refine C20.out.mono ?_); rintro e w6 ⟨rfl, hM6⟩; have HM6 := hide hM6; clear hM6)))
          go_roundw
          case rel => exact ⟨k + 1, d3, R ++ [(k : Int)], a4, n + 1, c4, by omega, by omega, rfl, by go_num, hide (by rw [HE.out]; exact HM6.out)⟩
          case measure => simp [intOf]; omega
      · by_cases hq2 : q = 2
        · subst hq2
          have C23 := hide (HM.out.pop (by omega))
          clear hq4 hq01
          by_cases hn0' : n = 0
          · subst hn0'
            obtain rfl : R = [] := List.eq_nil_of_length_eq_zero HLN.out
            go_wp2_with (go_at_call 23; go_must ((with_reducible refine C23.out.mono ?_); rintro e w3 ⟨x3, v3, d3, R3, rfl, hM, hR⟩; obtain ⟨rfl, rfl⟩ := pop_none hR rfl; have HM3 := hide hM; clear hM hR))
            go_roundw
            case rel => exact ⟨k + 1, d3, [], a, 0, c, by omega, by omega, rfl, by go_num, hide (by rw [HE.out]; exact HM3.out)⟩
            case measure => simp [intOf]; omega
          · obtain ⟨n1, rfl⟩ : ∃ n1, n = n1 + 1 := ⟨n - 1, by omega⟩
            obtain ⟨b1, o1, rfl⟩ := HM.out.ov.some (by omega)
            have hcc := HM.out.ov.2.1
            have h9 : (((n1 + 1 : Nat) : Int) == 0) = false := by simp; omega
            go_wp2_with (first
              | (go_at_call 23; go_must ((with_reducible refine C23.out.mono ?_); rintro e w3 ⟨x3, v3, d3, R3, rfl, hM, hR⟩; obtain ⟨rfl, hRR⟩ := pop_some hR (by rw [HLN.out]; omega); rw [hRR] at hM; obtain ⟨-, hcl, hov⟩ := hM.ov.last; rw [Nat.add_sub_cancel] at hcl hov; have HM3 := hide (hM.cut hov rfl); have C21 := hide (HM3.out.items (by omega) (by omega)); clear hM hR hov hRR))
              | (go_at_call 21; go_must ((with_reducible refine C21.out.mono ?_); rintro e w5 ⟨a5, c5, rfl, hM5, hc5⟩; have C20 := hide hc5; clear hM5 hc5))
              | (go_at_call 20; go_must ((with_reducible refine C20.out.mono ?_); rintro e w6 ⟨rfl, hM6⟩; have HM6 := hide hM6; clear hM6)))
            go_roundw
            case rel => exact ⟨k + 1, d3, R3, _, n1, c, by omega, by omega, rfl, by go_num, hide (by rw [HE.out]; exact HM6.out)⟩
            case measure => simp [intOf]; omega
        · obtain rfl : q = 3 := by omega
          have C23 := hide (HM.out.steal (by omega) (1 + k % 15) (by omega) (by omega))
          have hp : (((1 + k % 15 : Nat) : Nat) : Int) = 1 + (k : Int) % 15 := by omega
          rw [hp] at C23
          clear hp hq4 hq01 hq2
          by_cases hn0' : n = 0
          · subst hn0'
            obtain rfl : R = [] := List.eq_nil_of_length_eq_zero HLN.out
            go_wp2_with (go_at_call 23; go_must ((with_reducible refine C23.out.mono ?_); rintro e w3 ⟨x3, v3, d3, R3, rfl, hM, hR⟩; obtain ⟨rfl, rfl⟩ := st_none hR rfl; have HM3 := hide hM; clear hM hR))
            go_roundw
            case rel => exact ⟨k + 1, d3, [], a, 0, c, by omega, by omega, rfl, by go_num, hide (by rw [HE.out]; exact HM3.out)⟩
            case measure => simp [intOf]; omega
          · obtain ⟨n1, rfl⟩ : ∃ n1, n = n1 + 1 := ⟨n - 1, by omega⟩
            obtain ⟨b1, o1, rfl⟩ := HM.out.ov.some (by omega)
            have hcc := HM.out.ov.2.1
            have h9 : (((n1 + 1 : Nat) : Int) == 0) = false := by simp; omega
            by_cases hc1 : c = 1
            · subst hc1
              obtain rfl : n1 = 0 := by omega
              go_wp2_with (first
                | (go_at_call 23; go_must ((with_reducible refine C23.out.mono ?_); rintro e w3 ⟨x3, v3, d3, R3, rfl, hM, hR⟩; obtain ⟨rfl, hRR⟩ := st_some hR (by rw [HLN.out]; omega); rw [hRR] at hM; obtain ⟨hcl, hov⟩ := hM.ov.first1; have HM3 := hide (hM.cut hov rfl); have C21 := hide (HM3.out.items (by omega) (by omega)); clear hM hR hov hRR))
                | (go_at_call 21; go_must ((with_reducible refine C21.out.mono ?_); rintro e w5 ⟨a5, c5, rfl, hM5, hc5⟩; have C20 := hide hc5; clear hM5 hc5))
                | (go_at_call 20; go_must ((with_reducible refine C20.out.mono ?_); rintro e w6 ⟨rfl, hM6⟩; have HM6 := hide hM6; clear hM6)))
              go_roundw
              case rel => exact ⟨k + 1, d3, R3, _, 0, 0, by omega, by omega, rfl, by go_num, hide (by rw [HE.out]; exact HM6.out)⟩
              case measure => simp [intOf]; omega
            · skip
              go_wp2_with (first
                | (go_at_call 23; go_must ((with_reducible refine C23.out.mono ?_); rintro e w3 ⟨x3, v3, d3, R3, rfl, hM, hR⟩; obtain ⟨rfl, hRR⟩ := st_some hR (by rw [HLN.out]; omega); rw [hRR] at hM; obtain ⟨-, hcl, hov⟩ := hM.ov.first; rw [Nat.add_sub_cancel] at hov; have HM3 := hide (hM.cut hov rfl); have C21 := hide (HM3.out.items (by omega) (by omega)); clear hM hR hov hRR))
                | (go_at_call 21; go_must ((with_reducible refine C21.out.mono ?_); rintro e w5 ⟨a5, c5, rfl, hM5, hc5⟩; have C20 := hide hc5; clear hM5 hc5))
                | (go_at_call 20; go_must ((with_reducible refine C20.out.mono ?_); rintro e w6 ⟨rfl, hM6⟩; have HM6 := hide hM6; clear hM6)))
              go_roundw
              case rel => exact ⟨k + 1, d3, R3, _, n1, c - 1, by omega, by omega, rfl, by go_num, hide (by rw [HE.out]; exact HM6.out)⟩
              case measure => simp [intOf]; omega
    · obtain rfl : k = n0 := by omega
      go_wp2
      go_ret
      exact ⟨rfl, HM.out.bel⟩

theorem walk (a : Option Addr) (n c : Nat) (l : List Int) (w : World) (hl : l.length = n) (_hB : In64 l) (hm : n ≤ maxLen) (hr : Reads w a (iV l)) : Calls Try.prog 5 #[.slice a n c] w fun e w' => e = .returned (.bool true) ∧ Below w.heap.size w w' := by
  by_cases h : n ≤ 300
  · exact walk_main a n c l w hl h hr
  · have h' : 300 < (n : Int) := by omega
    have hm' : n ≤ 9223372036854775807 := by unfold maxLen at hm; omega
    go_enter Try.func5, Try.ntmps5
    go_wp2_with (go_at_call 10; go_must ((with_reducible refine (alive_any w).mono ?_); rintro e w1 ⟨rfl, hb1⟩))
    go_ret
    exact ⟨rfl, hb1⟩
end dequeAlone
end Go.Proofs.Ytaooglcjcnkgnaa
