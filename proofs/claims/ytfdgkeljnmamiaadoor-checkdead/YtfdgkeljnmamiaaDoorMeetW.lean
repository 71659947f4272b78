/- CheckMeets' walk. -/
import Derived.Test.YtfdgkeljnmamiaaDoorMeetP
namespace Go.Proofs.YtfdgkeljnmamiaaDoor
open Go.RowKit Go.ChangeShapes Go.WideShapes Go.ChangeAt Go.Deep

theorem one_deps {w : World} {h : Nat} {a : Option Addr} {n cap : Nat} (code : List (Int × Int)) (hrow : w.heap[h]? = some (.cells [.string fnm, .int .i64 0, .int .i64 0, .slice a n cap].toArray 43 (0, 0))) (hn : code.length = n) (hr : Reads w a (insV code)) (hE : Env w) (hb : n ≤ 1000000000) :
    Calls Tryd.prog 15 #[.agg (oneJ h).cells, .int .i64 0] w (DepsPost w (oneD code)) :=
  deps_any (oneJ h) _ (oneF code) [] 0 w (job_one hrow hn hr) hE (by simp [oneF]) (fun f hf => by
    simp [oneF] at hf
    subst hf
    exact ⟨by show code.length ≤ _; omega, by show fnm.size < _; decide⟩)

set_option maxRecDepth 100000 in
set_option maxHeartbeats 4000000 in
theorem meets_any (x y : Int) (w : World) (hE : Env w) : Calls Tryd.prog 7 #[.int .i64 x, .int .i64 y] w fun r w' => r = .returned (.bool true) ∧ Below w.heap.size w w' := by
  have CA := alive_any w hE
  by_cases h1 : x < 0
  · go_enter Tryd.func7, Tryd.ntmps7
    go_wp2_with (go_at_call 9; go_must (with_reducible refine CA.mono ?_; (rintro e w1 ⟨rfl, hb1⟩)))
    go_ret
    exact ⟨rfl, hb1⟩
  by_cases h2 : y < 0
  · go_enter Tryd.func7, Tryd.ntmps7
    go_wp2_with (go_at_call 9; go_must (with_reducible refine CA.mono ?_; (rintro e w1 ⟨rfl, hb1⟩)))
    go_ret
    exact ⟨rfl, hb1⟩
  by_cases h3 : 20 < x
  · go_enter Tryd.func7, Tryd.ntmps7
    go_wp2_with (go_at_call 9; go_must (with_reducible refine CA.mono ?_; (rintro e w1 ⟨rfl, hb1⟩)))
    go_ret
    exact ⟨rfl, hb1⟩
  by_cases h4 : 20 < y
  · go_enter Tryd.func7, Tryd.ntmps7
    go_wp2_with (go_at_call 9; go_must (with_reducible refine CA.mono ?_; (rintro e w1 ⟨rfl, hb1⟩)))
    go_ret
    exact ⟨rfl, hb1⟩
  obtain ⟨a, rfl⟩ : ∃ m : Nat, x = (m : Int) := ⟨x.toNat, by omega⟩
  obtain ⟨b, rfl⟩ : ∃ m : Nat, y = (m : Int) := ⟨y.toNat, by omega⟩
  have ha : a ≤ 20 := by omega
  have hb : b ≤ 20 := by omega
  have HT := hide (meet_res a b ha hb)
  have HD := hide (meet_deps a ha)
  have q1 : wrap64 (3 + (a : Int)) = 3 + (a : Int) := IntWalk.wrap64_in _ (by omega)
  have q2 : wrap64 (3 + (a : Int) + (b : Int)) = 3 + (a : Int) + (b : Int) := IntWalk.wrap64_in _ (by omega)
  obtain ⟨i0, hi, hz0, hz1, hz2⟩ := info_parts Tryd.info39
  go_enter Tryd.func7, Tryd.ntmps7
  go_wp2_with (go_at_call 9; go_must (with_reducible refine CA.mono ?_; (rintro e w1 ⟨rfl, hb1⟩)))
  clear CA
  have ho1 : (w1.alloc (.cells #[.int .i64 1, .int .i64 0, .int .i64 15, .int .i64 (3 + (a : Int))] 39)).ownsRow w.heap.size 39 2 (.slice (some ⟨w1.heap.size, 0, none⟩) 2 2) 2 (insV (meetA a 0)) := World.ownsRow_lit w1 #[.int .i64 1, .int .i64 0, .int .i64 15, .int .i64 (3 + (a : Int))] 2 hb1.size (by unfold maxLen; omega) rfl
  have hb2 : Hid (Below w.heap.size w (w1.alloc (.cells #[.int .i64 1, .int .i64 0, .int .i64 15, .int .i64 (3 + (a : Int))] 39))) := hb1.alloc hb1.size _
  go_loopw [6, 7] (fun l i wr => Hid (Below w.heap.size w wr) ∧ ∃ k : Nat, k ≤ a ∧ i = .int .i64 (k : Nat) ∧ wr.ownsRow w.heap.size 39 2 l (k + 2) (insV (meetA a k))) (fun _ i _ => a - (intOf i).toNat)
  case atStart => exact ⟨hb2, 0, Nat.zero_le _, rfl, ho1⟩
  case round =>
    clear ho1 hb2 hb1
    obtain ⟨hbw, k, hk, rfl, ho⟩ := hrel
    have hsz := hbw.out.size
    by_cases hlt : k < a
    · have hlt' : (k : Int) < (a : Int) := by omega
      go_wp2_with (at_builtin; go_must (refine wpList_append_own _ rfl (.tmp 43) (.tmp 45) 41 rfl w.heap.size 39 i0 (.agg #[.int .i64 0, .int .i64 0]) 2 16 Tryd.underlying41 hi hz0 hz1 hz2 rfl (by decide) u6 (k + 2) _ rfl (ho.alloc _) ⟨wr.heap.size, 0, none⟩ 1 1 [.int .i64 1, .int .i64 0] rfl rfl (cells_new wr _ 39) (by simp [Value.oneCell']) (by unfold maxLen; omega) (by omega) (by simp; omega) ?_; intro v2 w2 ho2 hg2 hnn; clear hnn))
      have HB2 := hide ((hbw.out.alloc (by omega) _).grown hg2 (by simp; omega) (fun q hq => (ho.lt q hq).1))
      go_roundw
      case rel => exact ⟨HB2, k + 1, by omega, by go_num, by rw [meetA_succ, insV_app, show k + 1 + 2 = k + 2 + 1 by omega]; exact ho2⟩
      case measure => simp [intOf]; omega
    · have hkm : k = a := by omega
      subst hkm
      go_wp2_with (at_builtin; go_must (refine wpList_append_own _ rfl (.tmp 47) (.tmp 53) 41 rfl w.heap.size 39 i0 (.agg #[.int .i64 0, .int .i64 0]) 2 16 Tryd.underlying41 hi hz0 hz1 hz2 rfl (by decide) u6 (k + 2) _ rfl (ho.alloc _) ⟨wr.heap.size, 0, none⟩ 1 1 [.int .i64 14, .int .i64 (3 + (k : Int) + (b : Int))] rfl rfl (cells_new wr _ 39) (by simp [Value.oneCell']) (by unfold maxLen; omega) (by omega) (by simp; omega) ?_; intro v2 w2 ho2 hg2 hnn; clear hnn))
      have HB2 : Hid (Below w.heap.size w w2) := ((hbw.out.alloc (by omega) _).grown hg2 (by simp; omega) (fun q hq => (ho.lt q hq).1))
      have ho3 : w2.ownsRow w.heap.size 39 2 v2 (k + 3) (insV (meetB k b 0)) := by
        have e : meetB k b 0 = meetA k k ++ [(14, 3 + (k : Int) + (b : Int))] := by simp [meetB]
        rw [e, insV_app]; exact ho2
      clear ho ho2 hg2 hbw hsz
      go_loopw [6, 8] (fun l i wr => Hid (Below w.heap.size w wr) ∧ ∃ n : Nat, n ≤ b ∧ i = .int .i64 (n : Nat) ∧ wr.ownsRow w.heap.size 39 2 l (k + 3 + n) (insV (meetB k b n))) (fun _ i _ => b - (intOf i).toNat)
      case atStart => exact ⟨HB2, 0, Nat.zero_le _, rfl, ho3⟩
      case round =>
        clear ho3 HB2
        obtain ⟨hbw, n, hn, rfl, ho⟩ := hrel
        have hsz := hbw.out.size
        by_cases hlt2 : n < b
        · have hlt' : (n : Int) < (b : Int) := by omega
          go_wp2_with (at_builtin; go_must (refine wpList_append_own _ rfl (.tmp 60) (.tmp 62) 41 rfl w.heap.size 39 i0 (.agg #[.int .i64 0, .int .i64 0]) 2 16 Tryd.underlying41 hi hz0 hz1 hz2 rfl (by decide) u6 (k + 3 + n) _ rfl (ho.alloc _) ⟨wr.heap.size, 0, none⟩ 1 1 [.int .i64 1, .int .i64 0] rfl rfl (cells_new wr _ 39) (by simp [Value.oneCell']) (by unfold maxLen; omega) (by omega) (by simp; omega) ?_; intro v2 w2 ho2 hg2 hnn; clear hnn))
          have HB2 := hide ((hbw.out.alloc (by omega) _).grown hg2 (by simp; omega) (fun q hq => (ho.lt q hq).1))
          go_roundw
          case rel => exact ⟨HB2, n + 1, by omega, by go_num, by rw [meetB_succ, insV_app, show k + 3 + (n + 1) = k + 3 + n + 1 by omega]; exact ho2⟩
          case measure => simp [intOf]; omega
        · have hkm : n = b := by omega
          subst hkm
          go_wp2_with (first
            | (at_builtin; go_must (refine wpList_append_own _ rfl (.tmp 64) (.tmp 67) 41 rfl w.heap.size 39 i0 (.agg #[.int .i64 0, .int .i64 0]) 2 16 Tryd.underlying41 hi hz0 hz1 hz2 rfl (by decide) u6 (k + 3 + n) _ rfl (ho.alloc _) ⟨wr.heap.size, 0, none⟩ 2 2 [.int .i64 1, .int .i64 0, .int .i64 18, .int .i64 0] rfl rfl (cells_new wr _ 39) (by simp [Value.oneCell']) (by unfold maxLen; omega) (by omega) (by simp; omega) ?_; intro v2 w2 ho2 hg2 hnn; clear hnn))
            | (go_at_call 17; refine Hid.out ?_))
          refine Lib.hid ?_
          have hb2 := ((hbw.out.alloc (by omega) _).grown hg2 (by simp; omega) (fun q hq => (ho.lt q hq).1))
          have ho3 : w2.ownsRow w.heap.size 39 2 v2 (k + 3 + n + 2) (insV (meetC k n)) := by
            unfold meetC
            rw [insV_app]; exact ho2
          obtain ⟨ca, cap, rfl, hr⟩ := own_code ho3
          have C1 := fun w => one_any ca (k + 3 + n + 2) cap w
          unfold OnePost at C1
          refine (C1 _).mono ?_
          rintro e w3 ⟨h3, rfl, hrow3, hb3⟩
          have hb03 := chain hb2 hb3
          have C2 := one_check (meetC k n) hrow3 (by rw [meetC_len]; omega) (hr.below hb3) (hE.below hb03) (by omega)
          unfold CheckPost at C2
          have hq := HT.out
          generalize oneL (meetC k n) = res at C2 hq
          obtain ⟨r0, r1, r2⟩ := res
          simp only at hq C2
          simp only [oneJ, JV.cells] at C2 ⊢
          have NM := fun e w => num_any e w
          have HR := hide (fun W hb => (hr.below (w' := W) hb))
          clear hrow3 hr ho3 ho2 hg2 ho
          by_cases hkn : k = n
          · subst hkn
            rw [if_pos rfl] at hq
            subst hq
            go_wp2_with (first
              | (go_at_call 11; go_must (with_reducible refine C2.mono ?_; (rintro e w6 ⟨rfl, hb6⟩)))
              | (go_at_call 17; refine Hid.out ?_))
            refine Lib.hid ?_
            have hb26 := chain hb3 hb6
            have hb06 := chain hb03 hb6
            refine (C1 _).mono ?_
            rintro e w7 ⟨h7, rfl, hrow7, hb7⟩
            have hb27 := chain hb26 hb7
            have hb07 := chain hb06 hb7
            have C3 := one_deps (meetC k k) hrow7 (by rw [meetC_len]; omega) (HR.out _ hb27) (hE.below hb07) (by omega)
            unfold DepsPost at C3
            obtain ⟨hd1, hd2⟩ := HD.out
            generalize oneD (meetC k k) = dd at C3 hd1 hd2
            simp only [oneJ, JV.cells] at C3 ⊢
            rw [hd1] at C3
            clear C1 C2 hrow7 HR
            have hlen : k + k + 5 = k + 3 + k + 2 := by omega
            rw [hlen] at C3
            go_wp2_with (first
              | (go_at_call 15; go_must (with_reducible refine C3.mono ?_; (rintro e w8 ⟨da, dc, rfl, hrd, hb8⟩); refine Hid.out ?_)))
            refine Lib.hid ?_
            obtain ⟨db, doff, rfl, hcell⟩ := reads_at hrd (show 3 + k + k < dd.length by omega)
            have hc := hcell.out (3 + k + k) (.int .i64 (k : Int)) (by
              have : 3 + k + k < dd.length := by omega
              rw [← hd2]
              simp [iV, this])
            have hlt9 : 3 + (k : Int) + (k : Int) < (k : Int) + 3 + (k : Int) + 2 := by omega
            have hq8 : Below w.heap.size w w8 := chain hb07 hb8
            clear hcell hrd C3 hd1 hd2
            have HQ8 := hide hq8
            clear hb8 hb07 hb27 hb26 hb06 hq8 hb03 hb3 hb2 hb7 hb6
            go_wp2_with (first
              | (go_at_call 13; go_must (with_reducible refine (NM _ _).mono ?_; (rintro e w9 ⟨rfl, hw9⟩); replace hw9 := hw9.symm; subst hw9)))
            go_ret
            exact ⟨rfl, HQ8.out⟩
          · rw [if_neg hkn] at hq
            have hkn' : ((k : Int) == (n : Int)) = false := by simp; omega
            subst hq
            go_wp2_with (first
              | (go_at_call 11; go_must (with_reducible refine C2.mono ?_; (rintro e w6 ⟨rfl, hb6⟩)))
              | (go_at_call 13; go_must (with_reducible refine (NM _ _).mono ?_; (rintro e w7 ⟨rfl, hw7⟩); replace hw7 := hw7.symm; subst hw7)))
            go_ret
            exact ⟨rfl, chain hb03 hb6⟩
end Go.Proofs.YtfdgkeljnmamiaaDoor
