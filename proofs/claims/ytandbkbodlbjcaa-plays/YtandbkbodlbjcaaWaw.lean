/- A table's parked tasks: wait, its walk; Park. -/
import Derived.Test.YtandbkbodlbjcaaWai
namespace Go.Proofs.Ytandbkbodlbjcaa
open Go.RowKit Go.ChangeShapes Go.WideShapes Go.ChangeAt Go.Deep Go.Maps Go.Sort

/-- What wait's last region wants. -/
theorem wait_mid {κ : Cl} {W : World} {cb m : Nat} {T : Tb} {on : ByteArray} {D : DataW Value} {a : Option Addr} {n c : Nat} (x : ByteArray) (h : TabM κ W cb T) (hc : W.cell? ⟨cb, 2, none⟩ = some (.map (some m))) (hW : WO κ W T on m D a n c) (hon : on.size ≤ 12) (hl : T.prk.length ≤ 1000) :
    (W.drew.cell? ⟨cb, 2, none⟩ = some (.map (some m)) ∧ (W.drew.alloc (.cells #[.string x] 31)).cell? ⟨cb, 2, none⟩ = some (.map (some m))) ∧
    ((Instr.lookup 55 (.map (some m)) (.string on) false).run Try.prog W.drew = .ok (.slice a n c) W.drew ∧ (Instr.lookup 55 (.map (some m)) (.string on) false).run Try.prog (W.drew.alloc (.cells #[.string x] 31)) = .ok (.slice a n c) (W.drew.alloc (.cells #[.string x] 31)) ∧ (Instr.lookup 55 (.map (some m)) (.string on) false).run Try.prog (W.alloc (.cells #[.string x] 31)).drew = .ok (.slice a n c) (W.alloc (.cells #[.string x] 31)).drew) ∧
    RN (W.drew.alloc (.cells #[.string x] 31)) a n c (kids T.prk on) ∧ Below W.heap.size W (W.drew.alloc (.cells #[.string x] 31)) ∧ n ≤ 1000 ∧
    (∀ w3, (W.drew.alloc (.cells #[.string x] 31)).grownBy w3 (blk a) → w3.ownsMap Try.prog 31 heldR m (Maps.size D) D ∧ w3.cell? ⟨cb, 2, none⟩ = some (.map (some m)) ∧ ∀ w4, w3.grownBy w4 (some m) → w4.cell? ⟨cb, 2, none⟩ = some (.map (some m))) := by
  have hb : Below W.heap.size W (W.drew.alloc (.cells #[.string x] 31)) := below_undrew (below_new W.drew (.cells #[.string x] 31))
  have hown1 : W.drew.ownsMap Try.prog 31 heldR m (Maps.size D) D := hW.own
  have hown2 := hown1.alloc (.cells #[.string x] 31)
  have hm : cb ≠ m := by
    obtain ⟨h1, h2, _⟩ := h
    intro e
    have := hW.col
    rw [← e, h2] at this
    cases this
  have hba : ∀ k, blk a = some k → k ≠ cb ∧ k ≠ m := by
    obtain ⟨h1, h2, _⟩ := h
    intro k hk
    have := hW.rk k hk
    refine ⟨fun e => ?_, fun e => ?_⟩
    · rw [e, h2] at this; cases this
    · rw [e, hW.col] at this; cases this
  have hcb := cell_some_lt hc
  have hnl : n ≤ 1000 := by
    have h1 := hW.rn.1
    have h2 : (kids T.prk on).length ≤ T.prk.length := by simp [kids]; exact List.length_filter_le _ _
    omega
  refine ⟨⟨hc, keep_cell hc hb⟩, ⟨look_bag hown1 (by omega) hW.hat, look_bag hown2 (by omega) hW.hat, look_bag (w := (W.alloc (.cells #[.string x] 31)).drew) hown2 (by omega) hW.hat⟩, hW.rn.below hb, hb, hnl, fun w3 hg => ⟨hown2.kept hg (fun e => (hba m e.symm).2 rfl), ?_, fun w4 hg4 => ?_⟩⟩
  · rw [World.cell?_of_block (hg.block cb (Nat.lt_of_lt_of_le hcb hb.size) (fun e => (hba cb e.symm).1 rfl))]
    exact keep_cell hc hb
  · have h3 := Nat.le_trans hb.size hg.size
    have hcb' : cb < W.heap.size := hcb
    rw [World.cell?_of_block (hg4.block cb (Nat.lt_of_lt_of_le hcb' h3) (by simpa using hm)), World.cell?_of_block (hg.block cb (Nat.lt_of_lt_of_le hcb hb.size) (fun e => (hba cb e.symm).1 rfl))]
    exact keep_cell hc hb

set_option linter.unusedSimpArgs false in
set_option maxRecDepth 100000 in
set_option maxHeartbeats 4000000 in
theorem wait_any {κ0 : Cl} {w : World} {cb : Nat} {T : Tb} (h : TabM κ0 w cb T) (x on : ByteArray) (hx : x.size ≤ 12) (hon : on.size ≤ 12) (hl : T.prk.length ≤ 1000) (hw : T.wt ≤ 1000) :
    Calls Try.prog 45 #[.pointer (some ⟨cb, 2, none⟩), .string x, .string on] w fun e w' => e = .returned (.tuple #[]) ∧ ∃ κ', TabM κ' w' cb { T with prk := T.prk ++ [(x, on)], wt := T.wt + 1 } ∧ Stp κ0 κ' w w' := by
  have HX := hide hx
  have HON := hide hon
  have HL := hide hl
  have HWT := hide hw
  rcases h.bag with ⟨c0, f0, _⟩ | ⟨m, c0⟩
  · obtain ⟨hT0, hS0, hcW⟩ := bag_made h c0
    have hb := below_new w (.map #[] 0)
    have hlt := cell_some_lt c0
    have c1 := keep_cell c0 hb
    have f1 : (w.alloc (.map #[] 0)).frozen? ⟨cb, 2, none⟩ = false := by rw [keep_frozen c0 hb]; exact f0
    have hmm := @run_makeMap Try.prog
    have heq : ∀ w, (binOp .eql 55 (.map none) (.map none)).run Try.prog w = .ok (.bool true) w := fun w => run_eql_map_nil w 55 31 27 none Try.underlying55
    generalize hκ : paint κ0 w.heap.size .pk = κ at hT0 hS0
    obtain ⟨W, hW⟩ : ∃ W, W = (w.alloc (.map #[] 0)).setCell ⟨cb, 2, none⟩ (.map (some w.heap.size)) := ⟨_, rfl⟩
    rw [← hW] at hT0 hS0 hcW
    have HW := hide hW
    have HTW := hide hT0
    have HS0 := hide hS0
    have CW := hide hcW
    have hmx : ∃ m, m = w.heap.size := ⟨_, rfl⟩
    clear h hT0 hS0 hW hb hlt hκ hx hon hl hw
    go_enter Try.func45, Try.ntmps45
    go_upto_region 2 with fail
    rw [← HW.out]
    obtain ⟨m, hm⟩ := hmx
    rw [← hm] at CW
    clear hcW HW hm c0 f0 c1 f1 hmm heq
    obtain ⟨D, a, n, c, hWO⟩ := wait_open HTW.out CW.out on
    have HWO := hide hWO
    obtain ⟨⟨cD, cV⟩, ⟨hl1, hl2, hl3⟩, hRV, hBV, hnl, hAT⟩ := wait_mid x HTW.out CW.out hWO HON.out HL.out
    have HRV := hide hRV
    have HBV := hide hBV
    have HAT := hide hAT
    have HSZ := hide (show Maps.size D ≤ 1000 from Nat.le_trans hWO.sz HWT.out)
    clear hWO hRV hBV hAT
    refine wp_region_noPanic ?_
    refine wp_region_held_drew (S := fun W => W.cell? ⟨cb, 2, none⟩ = some (.map (some m))) (by kernel_rfl) (cD) (fun hHeld => ?_)
    refine takeD (i := 0) (d := some 15) (v := ?_) rfl rfl (by kernel_rfl) (by kernel_rfl) (by kernel_rfl) (fun _ _ _ h => h) (Or.inl ⟨by rfl, ?_⟩) (by assumption) ?_
    rotate_left
    · intro w hSw
      go_simp
      try (with_reducible rfl)
    try simp only [Act.put, List.setIfInBounds_toArray, List.set_cons_zero, List.set_cons_succ]
    refine takeD (i := 1) (d := some 16) (v := ?_) rfl rfl (by kernel_rfl) (by kernel_rfl) (by kernel_rfl) (fun _ _ _ h => h) (Or.inl ⟨by rfl, ?_⟩) (by assumption) ?_
    rotate_left
    · intro w hSw
      go_simp
      try (with_reducible rfl)
    try simp only [Act.put, List.setIfInBounds_toArray, List.set_cons_zero, List.set_cons_succ]
    refine takeD (i := 2) (d := some 17) (v := ?_) rfl rfl (by kernel_rfl) (by kernel_rfl) (by kernel_rfl) (fun _ _ _ h => h) (Or.inl ⟨by rfl, ?_⟩) (by assumption) ?_
    rotate_left
    · intro w hSw
      go_simp
      try (with_reducible rfl)
    try simp only [Act.put, List.setIfInBounds_toArray, List.set_cons_zero, List.set_cons_succ]
    refine takeD (i := 3) (d := some 18) (v := ?_) rfl rfl (by kernel_rfl) (by kernel_rfl) (by kernel_rfl) (fun _ _ _ h => h) (Or.inl ⟨by rfl, ?_⟩) (by assumption) ?_
    rotate_left
    · intro w hSw
      go_simp
      try (with_reducible rfl)
    try simp only [Act.put, List.setIfInBounds_toArray, List.set_cons_zero, List.set_cons_succ]
    refine takeD (i := 4) (d := some 19) (v := ?_) rfl rfl (by kernel_rfl) (by kernel_rfl) (by kernel_rfl) (fun _ _ _ h => h) (Or.inl ⟨by rfl, ?_⟩) (by assumption) ?_
    rotate_left
    · intro w hSw
      go_simp
      try (with_reducible rfl)
    try simp only [Act.put, List.setIfInBounds_toArray, List.set_cons_zero, List.set_cons_succ]
    refine takeD (i := 5) (d := some 20) (v := ?_) rfl rfl (by kernel_rfl) (by kernel_rfl) (by kernel_rfl) (fun _ _ _ h => h) (Or.inl ⟨by rfl, ?_⟩) (by assumption) ?_
    rotate_left
    · intro w hSw
      go_simp
      try (with_reducible rfl)
    try simp only [Act.put, List.setIfInBounds_toArray, List.set_cons_zero, List.set_cons_succ]
    refine takeD (i := 6) (d := some 21) (v := ?_) rfl rfl (by kernel_rfl) (by kernel_rfl) (by kernel_rfl) (fun _ _ _ h => h) (Or.inl ⟨by rfl, ?_⟩) (by assumption) ?_
    rotate_left
    · intro w hSw
      go_simp
      try (with_reducible rfl)
    try simp only [Act.put, List.setIfInBounds_toArray, List.set_cons_zero, List.set_cons_succ]
    refine takeD (i := 7) (d := some 22) (v := ?_) rfl rfl (by kernel_rfl) (by kernel_rfl) (by kernel_rfl) (fun _ _ _ h => h) (Or.inl ⟨by rfl, ?_⟩) (by assumption) ?_
    rotate_left
    · intro w hSw
      go_simp
      try (with_reducible rfl)
    try simp only [Act.put, List.setIfInBounds_toArray, List.set_cons_zero, List.set_cons_succ]
    refine takeD (i := 8) (d := some 23) (v := ?_) rfl rfl (by kernel_rfl) (by kernel_rfl) (by kernel_rfl) (fun _ _ _ h => h) (Or.inl ⟨by rfl, ?_⟩) (by assumption) ?_
    rotate_left
    · intro w hSw
      go_simp
      try (with_reducible rfl)
    try simp only [Act.put, List.setIfInBounds_toArray, List.set_cons_zero, List.set_cons_succ]
    refine takeD (i := 9) (d := some 24) (v := ?_) rfl rfl (by kernel_rfl) (by kernel_rfl) (by kernel_rfl) (fun _ _ _ h => h) (Or.inl ⟨by rfl, ?_⟩) (by assumption) ?_
    rotate_left
    · intro w hSw
      go_simp
      try (with_reducible rfl)
    try simp only [Act.put, List.setIfInBounds_toArray, List.set_cons_zero, List.set_cons_succ]
    refine takeD (i := 11) (d := some 26) (v := ?_) rfl rfl (by kernel_rfl) (by kernel_rfl) (by kernel_rfl) (fun _ _ _ h => h) (Or.inl ⟨by rfl, ?_⟩) (by assumption) ?_
    rotate_left
    · intro w hSw
      go_simp
      try (with_reducible rfl)
    try simp only [Act.put, List.setIfInBounds_toArray, List.set_cons_zero, List.set_cons_succ]
    refine wpAnyH_ready (rs := [10, 12]) (by kernel_rfl) (by simp) ?_
    refine AllReadyH.cons rfl (fun K hK => ?_) (AllReadyH.cons rfl (fun K hK => ?_) AllReadyH.nil)
    · skip
      go_simp
      go_wp2_with fail
      refine hK.out _ _ (cD) (fun hHeld => ?_)
      clear hK K
      try simp only [Act.put, List.setIfInBounds_toArray, List.set_cons_zero, List.set_cons_succ]
      refine wpAnyH_ready (rs := [12]) (by kernel_rfl) (by simp) ?_
      refine AllReadyH.cons rfl (fun K hK => ?_) AllReadyH.nil
      go_simp
      go_wp2_with fail
      refine hK.out _ _ cV (fun hHeld => ?_)
      clear hK K
      try simp only [Act.put, List.setIfInBounds_toArray, List.set_cons_zero, List.set_cons_succ]
      refine wpAnyH_ready (rs := [13]) (by kernel_rfl) (by simp) ?_
      refine AllReadyH.cons rfl (fun K hK => ?_) AllReadyH.nil
      refine app_n (.tmp 25) (.tmp 27) rfl a n c _ rfl HRV.out (by omega) W.heap.size x rfl (reads_new W.drew [.string x] 31) ?_
      intro a' c' w3 hR3 hg3 hw3
      have HO3 := hide (HAT.out w3 hg3)
      have cT := HO3.out.2.1
      have HR3 := hide hR3
      have HG3 := hide hg3
      have HW3 := hide hw3
      clear hR3 hg3 hw3
      refine hK.out _ _ cT (fun hHeld => ?_)
      clear hK K
      try simp only [Act.put, List.setIfInBounds_toArray, List.set_cons_zero, List.set_cons_succ]
      refine wpAnyH_ready (rs := [14]) (by kernel_rfl) (by simp) ?_
      refine AllReadyH.cons rfl (fun K hK => ?_) AllReadyH.nil
      refine mu_bag (.tmp 18) (.tmp 19) (.tmp 28) rfl m _ D rfl HO3.out.1 (by have := HSZ.out; omega) on (by have := HON.out; omega) rfl _ rfl ?_
      intro w4 ho4 hg4
      have cU := HO3.out.2.2 w4 hg4
      have HO4 := hide ho4
      have HG4 := hide hg4
      clear ho4 hg4
      refine hK.out _ _ cU (fun hHeld => ?_)
      clear hK K
      try simp only [Act.put, List.setIfInBounds_toArray, List.set_cons_zero, List.set_cons_succ]
      refine wpAnyH_done (by kernel_rfl) ?_ _
      refine NoPanic.normal ?_
      refine bodyPost_end (results_none rfl _ _ _) rfl ⟨rfl, ?_⟩
      obtain ⟨κ4, hT4, hS4⟩ := wait_close HTW.out CW.out HWO.out HX.out HON.out HBV.out HG3.out HR3.out HW3.out HG4.out HO4.out
      exact ⟨κ4, hT4, HS0.out.trans hS4⟩
    · skip
      go_simp
      go_wp2_with fail
      refine hK.out _ _ (cV) (fun hHeld => ?_)
      clear hK K
      try simp only [Act.put, List.setIfInBounds_toArray, List.set_cons_zero, List.set_cons_succ]
      refine wpAnyH_ready (rs := [10]) (by kernel_rfl) (by simp) ?_
      refine AllReadyH.cons rfl (fun K hK => ?_) AllReadyH.nil
      go_simp
      go_wp2_with fail
      refine hK.out _ _ cV (fun hHeld => ?_)
      clear hK K
      try simp only [Act.put, List.setIfInBounds_toArray, List.set_cons_zero, List.set_cons_succ]
      refine wpAnyH_ready (rs := [13]) (by kernel_rfl) (by simp) ?_
      refine AllReadyH.cons rfl (fun K hK => ?_) AllReadyH.nil
      refine app_n (.tmp 25) (.tmp 27) rfl a n c _ rfl HRV.out (by omega) W.heap.size x rfl (reads_new W.drew [.string x] 31) ?_
      intro a' c' w3 hR3 hg3 hw3
      have HO3 := hide (HAT.out w3 hg3)
      have cT := HO3.out.2.1
      have HR3 := hide hR3
      have HG3 := hide hg3
      have HW3 := hide hw3
      clear hR3 hg3 hw3
      refine hK.out _ _ cT (fun hHeld => ?_)
      clear hK K
      try simp only [Act.put, List.setIfInBounds_toArray, List.set_cons_zero, List.set_cons_succ]
      refine wpAnyH_ready (rs := [14]) (by kernel_rfl) (by simp) ?_
      refine AllReadyH.cons rfl (fun K hK => ?_) AllReadyH.nil
      refine mu_bag (.tmp 18) (.tmp 19) (.tmp 28) rfl m _ D rfl HO3.out.1 (by have := HSZ.out; omega) on (by have := HON.out; omega) rfl _ rfl ?_
      intro w4 ho4 hg4
      have cU := HO3.out.2.2 w4 hg4
      have HO4 := hide ho4
      have HG4 := hide hg4
      clear ho4 hg4
      refine hK.out _ _ cU (fun hHeld => ?_)
      clear hK K
      try simp only [Act.put, List.setIfInBounds_toArray, List.set_cons_zero, List.set_cons_succ]
      refine wpAnyH_done (by kernel_rfl) ?_ _
      refine NoPanic.normal ?_
      refine bodyPost_end (results_none rfl _ _ _) rfl ⟨rfl, ?_⟩
      obtain ⟨κ4, hT4, hS4⟩ := wait_close HTW.out CW.out HWO.out HX.out HON.out HBV.out HG3.out HR3.out HW3.out HG4.out HO4.out
      exact ⟨κ4, hT4, HS0.out.trans hS4⟩
  · have heq : ∀ w, (binOp .eql 55 (.map (some m)) (.map none)).run Try.prog w = .ok (.bool false) w := fun w => run_eql_map_nil w 55 31 27 (some m) Try.underlying55
    have HTW := hide h
    have HS0 := hide (Stp.refl κ0 w)
    have CW := hide c0
    obtain ⟨W, hW⟩ : ∃ W, W = w := ⟨_, rfl⟩
    obtain ⟨κ, hκ⟩ : ∃ κ, κ = κ0 := ⟨_, rfl⟩
    obtain ⟨D, a, n, c, hWO⟩ := wait_open HTW.out CW.out on
    have HWO := hide hWO
    obtain ⟨⟨cD, cV⟩, ⟨hl1, hl2, hl3⟩, hRV, hBV, hnl, hAT⟩ := wait_mid x HTW.out CW.out hWO HON.out HL.out
    have HRV := hide hRV
    have HBV := hide hBV
    have HAT := hide hAT
    have HSZ := hide (show Maps.size D ≤ 1000 from Nat.le_trans hWO.sz HWT.out)
    clear h hx hon hl hw hWO hRV hBV hAT
    subst hW hκ
    go_enter Try.func45, Try.ntmps45
    go_upto_region 2 with fail
    clear heq c0
    refine wp_region_noPanic ?_
    refine wp_region_held_drew (S := fun W => W.cell? ⟨cb, 2, none⟩ = some (.map (some m))) (by kernel_rfl) (cD) (fun hHeld => ?_)
    refine takeD (i := 0) (d := some 15) (v := ?_) rfl rfl (by kernel_rfl) (by kernel_rfl) (by kernel_rfl) (fun _ _ _ h => h) (Or.inl ⟨by rfl, ?_⟩) (by assumption) ?_
    rotate_left
    · intro w hSw
      go_simp
      try (with_reducible rfl)
    try simp only [Act.put, List.setIfInBounds_toArray, List.set_cons_zero, List.set_cons_succ]
    refine takeD (i := 1) (d := some 16) (v := ?_) rfl rfl (by kernel_rfl) (by kernel_rfl) (by kernel_rfl) (fun _ _ _ h => h) (Or.inl ⟨by rfl, ?_⟩) (by assumption) ?_
    rotate_left
    · intro w hSw
      go_simp
      try (with_reducible rfl)
    try simp only [Act.put, List.setIfInBounds_toArray, List.set_cons_zero, List.set_cons_succ]
    refine takeD (i := 2) (d := some 17) (v := ?_) rfl rfl (by kernel_rfl) (by kernel_rfl) (by kernel_rfl) (fun _ _ _ h => h) (Or.inl ⟨by rfl, ?_⟩) (by assumption) ?_
    rotate_left
    · intro w hSw
      go_simp
      try (with_reducible rfl)
    try simp only [Act.put, List.setIfInBounds_toArray, List.set_cons_zero, List.set_cons_succ]
    refine takeD (i := 3) (d := some 18) (v := ?_) rfl rfl (by kernel_rfl) (by kernel_rfl) (by kernel_rfl) (fun _ _ _ h => h) (Or.inl ⟨by rfl, ?_⟩) (by assumption) ?_
    rotate_left
    · intro w hSw
      go_simp
      try (with_reducible rfl)
    try simp only [Act.put, List.setIfInBounds_toArray, List.set_cons_zero, List.set_cons_succ]
    refine takeD (i := 4) (d := some 19) (v := ?_) rfl rfl (by kernel_rfl) (by kernel_rfl) (by kernel_rfl) (fun _ _ _ h => h) (Or.inl ⟨by rfl, ?_⟩) (by assumption) ?_
    rotate_left
    · intro w hSw
      go_simp
      try (with_reducible rfl)
    try simp only [Act.put, List.setIfInBounds_toArray, List.set_cons_zero, List.set_cons_succ]
    refine takeD (i := 5) (d := some 20) (v := ?_) rfl rfl (by kernel_rfl) (by kernel_rfl) (by kernel_rfl) (fun _ _ _ h => h) (Or.inl ⟨by rfl, ?_⟩) (by assumption) ?_
    rotate_left
    · intro w hSw
      go_simp
      try (with_reducible rfl)
    try simp only [Act.put, List.setIfInBounds_toArray, List.set_cons_zero, List.set_cons_succ]
    refine takeD (i := 6) (d := some 21) (v := ?_) rfl rfl (by kernel_rfl) (by kernel_rfl) (by kernel_rfl) (fun _ _ _ h => h) (Or.inl ⟨by rfl, ?_⟩) (by assumption) ?_
    rotate_left
    · intro w hSw
      go_simp
      try (with_reducible rfl)
    try simp only [Act.put, List.setIfInBounds_toArray, List.set_cons_zero, List.set_cons_succ]
    refine takeD (i := 7) (d := some 22) (v := ?_) rfl rfl (by kernel_rfl) (by kernel_rfl) (by kernel_rfl) (fun _ _ _ h => h) (Or.inl ⟨by rfl, ?_⟩) (by assumption) ?_
    rotate_left
    · intro w hSw
      go_simp
      try (with_reducible rfl)
    try simp only [Act.put, List.setIfInBounds_toArray, List.set_cons_zero, List.set_cons_succ]
    refine takeD (i := 8) (d := some 23) (v := ?_) rfl rfl (by kernel_rfl) (by kernel_rfl) (by kernel_rfl) (fun _ _ _ h => h) (Or.inl ⟨by rfl, ?_⟩) (by assumption) ?_
    rotate_left
    · intro w hSw
      go_simp
      try (with_reducible rfl)
    try simp only [Act.put, List.setIfInBounds_toArray, List.set_cons_zero, List.set_cons_succ]
    refine takeD (i := 9) (d := some 24) (v := ?_) rfl rfl (by kernel_rfl) (by kernel_rfl) (by kernel_rfl) (fun _ _ _ h => h) (Or.inl ⟨by rfl, ?_⟩) (by assumption) ?_
    rotate_left
    · intro w hSw
      go_simp
      try (with_reducible rfl)
    try simp only [Act.put, List.setIfInBounds_toArray, List.set_cons_zero, List.set_cons_succ]
    refine takeD (i := 11) (d := some 26) (v := ?_) rfl rfl (by kernel_rfl) (by kernel_rfl) (by kernel_rfl) (fun _ _ _ h => h) (Or.inl ⟨by rfl, ?_⟩) (by assumption) ?_
    rotate_left
    · intro w hSw
      go_simp
      try (with_reducible rfl)
    try simp only [Act.put, List.setIfInBounds_toArray, List.set_cons_zero, List.set_cons_succ]
    refine wpAnyH_ready (rs := [10, 12]) (by kernel_rfl) (by simp) ?_
    refine AllReadyH.cons rfl (fun K hK => ?_) (AllReadyH.cons rfl (fun K hK => ?_) AllReadyH.nil)
    · skip
      go_simp
      go_wp2_with fail
      refine hK.out _ _ (cD) (fun hHeld => ?_)
      clear hK K
      try simp only [Act.put, List.setIfInBounds_toArray, List.set_cons_zero, List.set_cons_succ]
      refine wpAnyH_ready (rs := [12]) (by kernel_rfl) (by simp) ?_
      refine AllReadyH.cons rfl (fun K hK => ?_) AllReadyH.nil
      go_simp
      go_wp2_with fail
      refine hK.out _ _ cV (fun hHeld => ?_)
      clear hK K
      try simp only [Act.put, List.setIfInBounds_toArray, List.set_cons_zero, List.set_cons_succ]
      refine wpAnyH_ready (rs := [13]) (by kernel_rfl) (by simp) ?_
      refine AllReadyH.cons rfl (fun K hK => ?_) AllReadyH.nil
      refine app_n (.tmp 25) (.tmp 27) rfl a n c _ rfl HRV.out (by omega) W.heap.size x rfl (reads_new W.drew [.string x] 31) ?_
      intro a' c' w3 hR3 hg3 hw3
      have HO3 := hide (HAT.out w3 hg3)
      have cT := HO3.out.2.1
      have HR3 := hide hR3
      have HG3 := hide hg3
      have HW3 := hide hw3
      clear hR3 hg3 hw3
      refine hK.out _ _ cT (fun hHeld => ?_)
      clear hK K
      try simp only [Act.put, List.setIfInBounds_toArray, List.set_cons_zero, List.set_cons_succ]
      refine wpAnyH_ready (rs := [14]) (by kernel_rfl) (by simp) ?_
      refine AllReadyH.cons rfl (fun K hK => ?_) AllReadyH.nil
      refine mu_bag (.tmp 18) (.tmp 19) (.tmp 28) rfl m _ D rfl HO3.out.1 (by have := HSZ.out; omega) on (by have := HON.out; omega) rfl _ rfl ?_
      intro w4 ho4 hg4
      have cU := HO3.out.2.2 w4 hg4
      have HO4 := hide ho4
      have HG4 := hide hg4
      clear ho4 hg4
      refine hK.out _ _ cU (fun hHeld => ?_)
      clear hK K
      try simp only [Act.put, List.setIfInBounds_toArray, List.set_cons_zero, List.set_cons_succ]
      refine wpAnyH_done (by kernel_rfl) ?_ _
      refine NoPanic.normal ?_
      refine bodyPost_end (results_none rfl _ _ _) rfl ⟨rfl, ?_⟩
      obtain ⟨κ4, hT4, hS4⟩ := wait_close HTW.out CW.out HWO.out HX.out HON.out HBV.out HG3.out HR3.out HW3.out HG4.out HO4.out
      exact ⟨κ4, hT4, HS0.out.trans hS4⟩
    · skip
      go_simp
      go_wp2_with fail
      refine hK.out _ _ (cV) (fun hHeld => ?_)
      clear hK K
      try simp only [Act.put, List.setIfInBounds_toArray, List.set_cons_zero, List.set_cons_succ]
      refine wpAnyH_ready (rs := [10]) (by kernel_rfl) (by simp) ?_
      refine AllReadyH.cons rfl (fun K hK => ?_) AllReadyH.nil
      go_simp
      go_wp2_with fail
      refine hK.out _ _ cV (fun hHeld => ?_)
      clear hK K
      try simp only [Act.put, List.setIfInBounds_toArray, List.set_cons_zero, List.set_cons_succ]
      refine wpAnyH_ready (rs := [13]) (by kernel_rfl) (by simp) ?_
      refine AllReadyH.cons rfl (fun K hK => ?_) AllReadyH.nil
      refine app_n (.tmp 25) (.tmp 27) rfl a n c _ rfl HRV.out (by omega) W.heap.size x rfl (reads_new W.drew [.string x] 31) ?_
      intro a' c' w3 hR3 hg3 hw3
      have HO3 := hide (HAT.out w3 hg3)
      have cT := HO3.out.2.1
      have HR3 := hide hR3
      have HG3 := hide hg3
      have HW3 := hide hw3
      clear hR3 hg3 hw3
      refine hK.out _ _ cT (fun hHeld => ?_)
      clear hK K
      try simp only [Act.put, List.setIfInBounds_toArray, List.set_cons_zero, List.set_cons_succ]
      refine wpAnyH_ready (rs := [14]) (by kernel_rfl) (by simp) ?_
      refine AllReadyH.cons rfl (fun K hK => ?_) AllReadyH.nil
      refine mu_bag (.tmp 18) (.tmp 19) (.tmp 28) rfl m _ D rfl HO3.out.1 (by have := HSZ.out; omega) on (by have := HON.out; omega) rfl _ rfl ?_
      intro w4 ho4 hg4
      have cU := HO3.out.2.2 w4 hg4
      have HO4 := hide ho4
      have HG4 := hide hg4
      clear ho4 hg4
      refine hK.out _ _ cU (fun hHeld => ?_)
      clear hK K
      try simp only [Act.put, List.setIfInBounds_toArray, List.set_cons_zero, List.set_cons_succ]
      refine wpAnyH_done (by kernel_rfl) ?_ _
      refine NoPanic.normal ?_
      refine bodyPost_end (results_none rfl _ _ _) rfl ⟨rfl, ?_⟩
      obtain ⟨κ4, hT4, hS4⟩ := wait_close HTW.out CW.out HWO.out HX.out HON.out HBV.out HG3.out HR3.out HW3.out HG4.out HO4.out
      exact ⟨κ4, hT4, HS0.out.trans hS4⟩
end Go.Proofs.Ytandbkbodlbjcaa
