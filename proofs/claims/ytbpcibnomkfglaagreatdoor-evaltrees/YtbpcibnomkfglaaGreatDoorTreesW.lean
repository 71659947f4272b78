/- EvalTrees: its walk. -/
import Derived.Test.YtbpcibnomkfglaaGreatDoorTreE1
import Derived.Test.YtbpcibnomkfglaaGreatDoorTreE2
import Derived.Test.YtbpcibnomkfglaaGreatDoorTreE3
import Derived.Test.YtbpcibnomkfglaaGreatDoorTreE4
import Derived.BigQuiet
import Derived.Deep.CutBlock
namespace Go.Proofs.YtbpcibnomkfglaaGreatDoor
open Go.RowKit Go.ChangeShapes Go.WideShapes Go.ChangeAt Go.Deep

theorem trees_all (w d : Nat) (hw : w ≤ 6) (hd : d ≤ 6) : treesB w d = true := by
  match w, hw with
  | 0, _ =>
    match d, hd with
    | 0, _ => exact trees_0_0
    | 1, _ => exact trees_0_1
    | 2, _ => exact trees_0_2
    | 3, _ => exact trees_0_3
    | 4, _ => exact trees_0_4
    | 5, _ => exact trees_0_5
    | 6, _ => exact trees_0_6
    | n + 7, h => omega
  | 1, _ =>
    match d, hd with
    | 0, _ => exact trees_1_0
    | 1, _ => exact trees_1_1
    | 2, _ => exact trees_1_2
    | 3, _ => exact trees_1_3
    | 4, _ => exact trees_1_4
    | 5, _ => exact trees_1_5
    | 6, _ => exact trees_1_6
    | n + 7, h => omega
  | 2, _ =>
    match d, hd with
    | 0, _ => exact trees_2_0
    | 1, _ => exact trees_2_1
    | 2, _ => exact trees_2_2
    | 3, _ => exact trees_2_3
    | 4, _ => exact trees_2_4
    | 5, _ => exact trees_2_5
    | 6, _ => exact trees_2_6
    | n + 7, h => omega
  | 3, _ =>
    match d, hd with
    | 0, _ => exact trees_3_0
    | 1, _ => exact trees_3_1
    | 2, _ => exact trees_3_2
    | 3, _ => exact trees_3_3
    | 4, _ => exact trees_3_4
    | 5, _ => exact trees_3_5
    | 6, _ => exact trees_3_6
    | n + 7, h => omega
  | 4, _ =>
    match d, hd with
    | 0, _ => exact trees_4_0
    | 1, _ => exact trees_4_1
    | 2, _ => exact trees_4_2
    | 3, _ => exact trees_4_3
    | 4, _ => exact trees_4_4
    | 5, _ => exact trees_4_5
    | 6, _ => exact trees_4_6
    | n + 7, h => omega
  | 5, _ =>
    match d, hd with
    | 0, _ => exact trees_5_0
    | 1, _ => exact trees_5_1
    | 2, _ => exact trees_5_2
    | 3, _ => exact trees_5_3
    | 4, _ => exact trees_5_4
    | 5, _ => exact trees_5_5
    | 6, _ => exact trees_5_6
    | n + 7, h => omega
  | 6, _ =>
    match d, hd with
    | 0, _ => exact trees_6_0
    | 1, _ => exact trees_6_1
    | 2, _ => exact trees_6_2
    | 3, _ => exact trees_6_3
    | 4, _ => exact trees_6_4
    | 5, _ => exact trees_6_5
    | 6, _ => exact trees_6_6
    | n + 7, h => omega
  | n + 7, h => omega
theorem okL_at {wide deep : Nat} : ∀ (E : List En) (p : Option (List UInt8)), okL wide deep p E = true → ∀ (i : Nat) (x : En), E[i]? = some x → (x.er = 0 ∧ x.kids = x.awaits.length ∧ (x.id.length < deep → x.kids = wide)) ∧ ∀ (j : Nat) (y : En), i = j + 1 → E[j]? = some y → Op.bytesLess y.id x.id = true
  | [], _, _, i, x, h => by cases h
  | z :: E, p, h, i, x, hx => by
    unfold okL at h
    simp only [Bool.and_eq_true] at h
    obtain ⟨⟨⟨⟨h0, h1⟩, h2⟩, h3⟩, h4⟩ := h
    cases i with
    | zero =>
      simp at hx
      subst hx
      refine ⟨⟨by simpa using h1, by simpa using h2, fun hl => ?_⟩, fun j y e => by omega⟩
      rw [decide_eq_false (by omega)] at h3
      simpa using h3
    | succ i =>
      have hx' : E[i]? = some x := by simpa using hx
      have ih := okL_at E (some z.id) h4 i x hx'
      refine ⟨ih.1, fun j y e hy => ?_⟩
      cases j with
      | zero =>
        have : i = 0 := by omega
        subst this
        simp at hy
        subst hy
        cases E with
        | nil => cases hx'
        | cons q E =>
          simp at hx'
          subst hx'
          unfold okL at h4
          simp only [Bool.and_eq_true] at h4
          exact h4.1.1.1.1
      | succ j => exact ih.2 j y (by omega) (by simpa using hy)
theorem trees_ev (m d : Nat) (hm : m ≤ 6) (hd : d ≤ 6) : ∃ E ov r, doE [treeFn m] 1000 500 1001 1001 14 [] [] 0 [(d : Int)] = some (E, ov, r) ∧ (if 500 < (sumT m d).1 then ov = true else ov = false ∧ E.length = (sumT m d).1 ∧ (∃ x, E[0]? = some x ∧ x.ev = ((sumT m d).1 : Int)) ∧ okL m d none E = true) := by
  have hb := trees_all m d hm hd
  unfold treesB at hb
  split at hb
  · rename_i E ov r hq
    refine ⟨E, ov, r, hq, ?_⟩
    split at hb
    · rename_i hl
      rw [if_pos hl]
      exact hb
    · rename_i hl
      rw [if_neg hl]
      simp only [Bool.and_eq_true, Bool.not_eq_true', beq_iff_eq] at hb
      obtain ⟨⟨⟨h1, h2⟩, h3⟩, h4⟩ := hb
      refine ⟨h1, h2, ?_, h4⟩
      split at h3
      · rename_i x hx
        exact ⟨x, hx, by simpa using h3⟩
      · cases h3
  · cases hb
theorem sumT_bound : ∀ m k : Fin 7, (sumT m.1 k.1).1 ≤ 60000 ∧ (sumT m.1 k.1).2 ≤ 60000 := by decide +kernel
theorem sumT_mono : ∀ m k d : Fin 7, k.1 ≤ d.1 → (sumT m.1 k.1).1 ≤ (sumT m.1 d.1).1 := by decide +kernel
set_option linter.unusedSimpArgs false in
set_option maxRecDepth 100000 in
set_option maxHeartbeats 16000000 in
theorem trees_any (n k : Int) (w : World) (hE : Env w) : Calls Tryz.prog 3 #[.int .i64 n, .int .i64 k] w fun r w' => r = .returned (.bool true) ∧ Below w.heap.size w w' := by
  have CA := alive_any w hE
  by_cases g0 : n < 0
  · go_enter Tryz.func3, Tryz.ntmps3
    go_wp2_with (go_at_call 10; go_must (with_reducible refine CA.mono ?_; (rintro e w1 ⟨rfl, hb1⟩)))
    go_ret
    exact ⟨rfl, hb1⟩
  by_cases g1 : 6 < n
  · go_enter Tryz.func3, Tryz.ntmps3
    go_wp2_with (go_at_call 10; go_must (with_reducible refine CA.mono ?_; (rintro e w1 ⟨rfl, hb1⟩)))
    go_ret
    exact ⟨rfl, hb1⟩
  by_cases g2 : k < 0
  · go_enter Tryz.func3, Tryz.ntmps3
    go_wp2_with (go_at_call 10; go_must (with_reducible refine CA.mono ?_; (rintro e w1 ⟨rfl, hb1⟩)))
    go_ret
    exact ⟨rfl, hb1⟩
  by_cases g3 : 6 < k
  · go_enter Tryz.func3, Tryz.ntmps3
    go_wp2_with (go_at_call 10; go_must (with_reducible refine CA.mono ?_; (rintro e w1 ⟨rfl, hb1⟩)))
    go_ret
    exact ⟨rfl, hb1⟩
  obtain ⟨m, rfl⟩ : ∃ m : Nat, n = (m : Int) := ⟨n.toNat, by omega⟩
  obtain ⟨d, rfl⟩ : ∃ d : Nat, k = (d : Int) := ⟨k.toNat, by omega⟩
  have hm : m ≤ 6 := by omega
  have hd : d ≤ 6 := by omega
  obtain ⟨E, ov, r, hq, hall⟩ := trees_ev m d hm hd
  obtain ⟨r1, r2⟩ := r
  have HQ := hide hq
  have HALL := hide hall
  have HC := hide (tree_check m (by omega) 500 (by decide) (by decide))
  have TN := num_any
  have C12 := fun (W : World) => tree_any m (by omega) (d : Int) W
  unfold TreePost at C12
  have HBD := hide (fun k (hk : k ≤ 6) => sumT_bound ⟨m, by omega⟩ ⟨k, by omega⟩)
  have HMO := hide (fun k (hk : k ≤ d) => sumT_mono ⟨m, by omega⟩ ⟨k, by omega⟩ ⟨d, by omega⟩ hk)
  clear hq hall
  go_enter Tryz.func3, Tryz.ntmps3
  go_upto_block 0 with (go_at_call 10; go_must (with_reducible refine CA.mono ?_; (rintro e w1 ⟨rfl, hb1⟩)))
  clear CA
  go_cut [6] from 32 (fun v wc => wc = w1 ∧ ∃ nf : Nat, v = .int .i64 (nf : Int) ∧ nf ≤ 60000 ∧ Hid ((nf ≤ 500 → nf = (sumT m d).1) ∧ (500 < nf → 500 < (sumT m d).1)))
  case first =>
    go_wp2_with fail
    go_loopw [6, 7, 8] (fun a b i wr => wr = w1 ∧ ∃ k : Nat, k ≤ d ∧ i = .int .i64 (k : Int) ∧ a = .int .i64 ((sumT m k).1 : Int) ∧ b = .int .i64 ((sumT m k).2 : Int)) (fun _ _ i _ => d - (intOf i).toNat)
    case atStart => exact ⟨rfl, 0, by omega, rfl, rfl, rfl⟩
    case round =>
      obtain ⟨hwr, k, hk, rfl, rfl, rfl⟩ := hrel
      subst hwr
      have b1 := HBD.out k (by omega)
      have b2 := HMO.out k hk
      by_cases hlt : k < d
      · have hlt' : (k : Int) < (d : Int) := by omega
        by_cases hn : (sumT m k).1 < 1000
        · have hn' : ((sumT m k).1 : Int) < 1000 := by omega
          have b3 := HBD.out (k + 1) (by omega)
          have e1 : ((sumT m k).2 : Int) * (m : Int) = ((sumT m (k + 1)).2 : Int) := by show _ = (((sumT m k).2 * m : Nat) : Int); simp
          have e2 : ((sumT m k).1 : Int) + ((sumT m (k + 1)).2 : Int) = ((sumT m (k + 1)).1 : Int) := by
            show _ = (((sumT m k).1 + (sumT m k).2 * m : Nat) : Int)
            rw [← e1]
            simp
          have w1' : IntKind.i64.wrap (((sumT m k).2 : Int) * (m : Int)) = ((sumT m (k + 1)).2 : Int) := by rw [e1]; exact wrapi (by have := b3.2; omega)
          have w2' : IntKind.i64.wrap (((sumT m k).1 : Int) + ((sumT m (k + 1)).2 : Int)) = ((sumT m (k + 1)).1 : Int) := by rw [e2]; exact wrapi (by have := b3.1; omega)
          have w3' : IntKind.i64.wrap ((k : Int) + 1) = (k : Int) + 1 := wrapi (by omega)
          clear b1 b2 b3 e1 e2
          go_wp2_with fail
          go_roundw
          case rel => exact ⟨by trivial, k + 1, by omega, by go_num, rfl, rfl⟩
          case measure => simp [intOf]; omega
        · have hn' : ¬ ((sumT m k).1 : Int) < 1000 := by omega
          have HF := hide (show ((sumT m k).1 ≤ 500 → (sumT m k).1 = (sumT m d).1) ∧ (500 < (sumT m k).1 → 500 < (sumT m d).1) from ⟨fun h => by omega, fun h => by have b2' : (sumT m k).1 ≤ (sumT m d).1 := b2; omega⟩)
          have hb := b1.1
          clear b1 b2
          go_wp2_with fail
          go_meet
          case rel => exact ⟨rfl, (sumT m k).1, rfl, hb, HF.out⟩
      · have hlt' : ¬ (k : Int) < (d : Int) := by omega
        have hkd : k = d := by omega
        have HF := hide (show ((sumT m k).1 ≤ 500 → (sumT m k).1 = (sumT m d).1) ∧ (500 < (sumT m k).1 → 500 < (sumT m d).1) from ⟨fun h => by rw [hkd], fun h => by rw [← hkd]; exact h⟩)
        have hb := b1.1
        clear b1 b2 hkd
        go_wp2_with fail
        go_meet
        case rel => exact ⟨rfl, (sumT m k).1, rfl, hb, HF.out⟩
  case rest =>
    obtain ⟨rfl, nf, rfl, hnf, hN⟩ := hcut
    clear HBD HMO
    go_wp2_with (go_at_call 12; go_must (with_reducible refine (C12 _).mono ?_; (rintro e w2 ⟨h, b, a, cap, rfl, hrow, hr, hra, hb2⟩); refine Hid.out ?_))
    refine Lib.hid ?_
    have hb12 := chain hb1 hb2
    have C11 : Calls Tryz.prog 11 #[.agg #[.slice (some ⟨h, 0, none⟩) 1 1, .int .i64 0, .slice (some ⟨b, 0, none⟩) 1 1, .int .i64 1000, .int .i64 500]] w2 (EvalPost w2 (E, ov, r1, r2)) := eval_gen 1 1 1000 500 (some ⟨b, 0, none⟩) 1 1 [(d : Int)] hrow (treeC_len m) hr rfl hra (fun h => by cases h) (hE.below hb12) (by omega) HC.out 1001 1001 14 _ HQ.out
    clear C12 hrow hr hra hb1 hb2 HQ HC hE
    by_cases h500 : 500 < nf
    · have hk5 : (500 : Int) < (nf : Int) := by omega
      have hall := HALL.out
      rw [if_pos (hN.out.2 h500)] at hall
      subst hall
      have C := C11.mono fun e w' h => h.no
      unfold EvNo at C
      clear C11 HALL hN h500
      go_wp2_with (first
        | (go_at_call 11; go_must (with_reducible refine C.mono ?_; (rintro e w5 ⟨rfl, hb5⟩)))
        | (go_at_call 13; go_must (with_reducible refine (TN _ _).mono ?_; (rintro e wz ⟨rfl, hwz⟩; replace hwz := hwz.symm; subst hwz))))
      go_ret
      exact ⟨rfl, chain hb12 hb5⟩
    · have hk5 : ¬ (500 : Int) < (nf : Int) := by omega
      have hS := hN.out.1 (by omega)
      have hall := HALL.out
      rw [← hS, if_neg h500] at hall
      obtain ⟨rfl, hl, ⟨x0, hx0, hv0⟩, hok⟩ := hall
      have hne : E ≠ [] := by rintro rfl; cases hx0
      have hpos : 0 < nf := by rw [← hl]; exact (List.getElem?_eq_some_iff.1 hx0).1
      have C := C11.mono fun e w' h => h.ok hne
      unfold EvOk at C
      rw [hl] at C
      have HOK := hide hok
      have HX0 := hide hx0
      have HV0 := hide hv0
      have HLE := hide hl
      clear C11 HALL hN h500 hS hl hne hok hx0 hv0
      go_wp2_with (go_at_call 11; go_must (with_reducible refine C.mono ?_; (rintro e w5 ⟨g, ec, rfl, hat, hb5⟩); refine Hid.out ?_))
      refine Lib.hid ?_
      have c4 : w5.cell? ⟨g, 4, none⟩ = some (.int .i64 (nf : Int)) := by rw [← HV0.out]; exact (hat 0 x0 HX0.out).ev
      have hb15 := chain hb12 hb5
      have hpi : (0 : Int) < (nf : Int) := by omega
      have hee : ((nf : Int) != (nf : Int)) = false := by simp
      have HAT := hide hat
      have HB5 := hide hb15
      clear C hat hb5 hb12 hb15
      go_wp2_with (go_at_call 13; go_must (with_reducible refine (TN _ _).mono ?_; (rintro e wz ⟨rfl, hwz⟩; replace hwz := hwz.symm; subst hwz)))
      clear c4
      go_loopw [11] (fun i wr => Hid (Below w5.heap.size w5 wr) ∧ ∃ k : Nat, k ≤ nf ∧ i = .int .i64 (k : Int)) (fun i _ => nf - (intOf i).toNat)
      case atStart => exact ⟨Below.refl _ _, 0, by omega, rfl⟩
      case round =>
        obtain ⟨hbw, k, hk, rfl⟩ := hrel
        by_cases hlt : k < nf
        · have hlt' : (k : Int) < (nf : Int) := by omega
          obtain ⟨x, hx⟩ : ∃ x, E[k]? = some x := ⟨E[k]'(by rw [HLE.out]; exact hlt), List.getElem?_eq_getElem _⟩
          obtain ⟨⟨p1, p2, p3⟩, p4⟩ := okL_at E none HOK.out k x hx
          have a := (HAT.out k x hx).below hbw.out
          obtain ⟨wa, wc, z7, _⟩ := a.aws
          have z0 := a.id
          have z3 := a.er
          have z6 := a.kids
          rw [p1] at z3
          rw [← p2] at z7
          obtain ⟨S, hS⟩ : ∃ S, S = bs x.id := ⟨_, rfl⟩
          rw [← hS] at z0
          have hsz : S.size = x.id.length := by rw [hS, bs_size]
          have hkk : ((x.kids : Int) != (x.kids : Int)) = false := by simp
          have wk : IntKind.i64.wrap ((k : Int) + 1) = (k : Int) + 1 := wrapi (by omega)
          have HXX := hide p1
          clear p1
          cases k with
          | zero =>
            by_cases hl : x.id.length < d
            · have hl' : (S.size : Int) < (d : Int) := by rw [hsz]; omega
              have hcm : ((x.kids : Int) != (m : Int)) = false := by rw [p3 hl]; simp
              clear hl hsz
              clear a hx p4 p3 p2 hS HXX
              go_upto_region 19 with fail
              go_quiet (first | (go_at_call 13; with_reducible exact Calls.quiet_of_same (TN _ _)))
              have HB2 := hide (fun n => below_drewN hbw.out n)
              go_wp2_with fail
              go_roundw
              case rel => exact ⟨HB2.out _, 0 + 1, by omega, by go_num⟩
              case measure => simp [intOf]; omega
            · have hl' : ¬ (S.size : Int) < (d : Int) := by rw [hsz]; omega
              clear hl hsz
              clear a hx p4 p3 p2 hS HXX
              go_upto_region 19 with fail
              go_quiet (first | (go_at_call 13; with_reducible exact Calls.quiet_of_same (TN _ _)))
              have HB2 := hide (fun n => below_drewN hbw.out n)
              go_wp2_with fail
              go_roundw
              case rel => exact ⟨HB2.out _, 0 + 1, by omega, by go_num⟩
              case measure => simp [intOf]; omega
          | succ j =>
            obtain ⟨y, hy⟩ : ∃ y, E[j]? = some y := ⟨E[j]'(by rw [HLE.out]; omega), List.getElem?_eq_getElem _⟩
            have b := (HAT.out j y hy).below hbw.out
            have y0 := b.id
            have hless : Op.bytesLess (bs y.id).toList S.toList = true := by
              rw [hS, ByteArray.toList_eq, ByteArray.toList_eq, bs_list, bs_list]
              exact p4 j y rfl hy
            obtain ⟨S', hS'⟩ : ∃ S', S' = bs y.id := ⟨_, rfl⟩
            rw [← hS'] at y0 hless
            have wj : IntKind.i64.wrap (((j + 1 : Nat) : Int) - 1) = (j : Int) := by
              rw [show ((j + 1 : Nat) : Int) - 1 = (j : Int) by omega]
              exact wrapi (by omega)
            have hj' : (j : Int) < (nf : Int) := by omega
            have hjn : j < nf := by omega
            have hj0 : (0 : Int) < ((j + 1 : Nat) : Int) := by omega
            clear b hy hS'
            by_cases hl : x.id.length < d
            · have hl' : (S.size : Int) < (d : Int) := by rw [hsz]; omega
              have hcm : ((x.kids : Int) != (m : Int)) = false := by rw [p3 hl]; simp
              clear hl hsz
              clear a hx p4 p3 p2 hS HXX
              go_upto_region 19 with fail
              go_quiet (first | (go_at_call 13; with_reducible exact Calls.quiet_of_same (TN _ _)))
              have HB2 := hide (fun n => below_drewN hbw.out n)
              go_wp2_with fail
              go_roundw
              case rel => exact ⟨HB2.out _, (j + 1) + 1, by omega, by go_num⟩
              case measure => simp [intOf]; omega
            · have hl' : ¬ (S.size : Int) < (d : Int) := by rw [hsz]; omega
              clear hl hsz
              clear a hx p4 p3 p2 hS HXX
              go_upto_region 19 with fail
              go_quiet (first | (go_at_call 13; with_reducible exact Calls.quiet_of_same (TN _ _)))
              have HB2 := hide (fun n => below_drewN hbw.out n)
              go_wp2_with fail
              go_roundw
              case rel => exact ⟨HB2.out _, (j + 1) + 1, by omega, by go_num⟩
              case measure => simp [intOf]; omega
        · have hlt' : ¬ (k : Int) < (nf : Int) := by omega
          go_wp2_with fail
          go_ret
          exact ⟨rfl, chain HB5.out hbw.out⟩
end Go.Proofs.YtbpcibnomkfglaaGreatDoor
