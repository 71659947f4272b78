/- own, ownState, newMachine. -/
import Derived.Test.YtnkfdpnommjlcaaGreatDoorPm
namespace Go.Proofs.YtnkfdpnommjlcaaGreatDoor
open Go.RowKit Go.ChangeShapes Go.WideShapes Go.ChangeAt Go.Deep

set_option maxRecDepth 100000 in
set_option maxHeartbeats 1000000 in
theorem town_any (a : Option Addr) (c : Nat) (xs : List Int) (w : World) (hr : Reads w a (iV xs)) (hnil : a = none → xs.length = 0 ∧ c = 0) (hl : xs.length ≤ 100000) :
    Calls Tryz.prog 70 #[.slice a xs.length c] w fun e w' => ∃ v, e = .returned v ∧ w'.ownsRow w.heap.size 3 1 v xs.length (iV xs) ∧ Below w.heap.size w w' := by
  obtain ⟨v', w', hrun, ho, hg⟩ := run_append_ints w w.heap.size (.slice none 0 0) 0 [] xs a xs.length c (World.ownsRow_nil _ _ _ _) hnil rfl hr (by omega) (Nat.le_refl _)
  have ho' : w'.ownsRow w.heap.size 3 1 v' xs.length (iV xs) := by simpa using ho
  have hb : Below w.heap.size w w' := below_of hg
  clear ho hg
  go_enter Tryz.func70, Tryz.ntmps70
  go_wp2_with (at_builtin; go_must (refine wpList_plain rfl fun K hK => ?_; refine wp_append_run (.const (.slice none 0 0)) (.tmp 3) rfl rfl rfl hrun ?_; refine hK _ _ ?_))
  go_ret
  exact ⟨v', rfl, ho', hb⟩

theorem cells35 {w4 : World} {s : Nat} {old : Array Value} {S : List Value} (hz : w4.heap[s + 1]? = some (.cells old 101 (0, 0))) (hl : old.size = S.length) (v3 v4 : Value) (i : Nat) (u : Value) (hu : S[i]? = some u) : (((w4.setCell ⟨s, 3, none⟩ v3).setCell ⟨s, 4, none⟩ v4).setCells (s + 1) 0 S).cell? ⟨s + 1, i, none⟩ = some u :=
  setCells_at (by rw [heap_setCell_other _ _ _ _ (by show s + 1 ≠ s; omega), heap_setCell_other _ _ _ _ (by show s + 1 ≠ s; omega)]; exact hz) hl hu
theorem fin35 {w w1 w2 w4 : World} {s : Nat} {a2 a4 : Option Addr} {n2 c2 n4 c4 : Nat} {st lo : List Value} {S : List Value} (h1 : Below w.heap.size w w1) (hs : s = w.heap.size) (hw : w1.heap.size = w.heap.size + 2)
    (hb2 : Below w1.heap.size w1 w2) (hb4 : Below w2.heap.size w2 w4) (ho2 : w2.ownsRow w1.heap.size 3 1 (.slice a2 n2 c2) n2 st) (ho4 : w4.ownsRow w2.heap.size 3 1 (.slice a4 n4 c4) n4 lo) (v3 v4 : Value) :
    (((w4.setCell ⟨s, 3, none⟩ v3).setCell ⟨s, 4, none⟩ v4).setCells (s + 1) 0 S).ownsRow w.heap.size 3 1 (.slice a2 n2 c2) n2 st ∧ (((w4.setCell ⟨s, 3, none⟩ v3).setCell ⟨s, 4, none⟩ v4).setCells (s + 1) 0 S).ownsRow w.heap.size 3 1 (.slice a4 n4 c4) n4 lo ∧ (∀ g, (Value.slice a2 n2 c2).ownBlock = some g → (Value.slice a4 n4 c4).ownBlock ≠ some g) ∧ Below w.heap.size w (((w4.setCell ⟨s, 3, none⟩ v3).setCell ⟨s, 4, none⟩ v4).setCells (s + 1) 0 S) := by
  have e2 := hb2.size
  have hk : ∀ g, w.heap.size + 2 ≤ g → (((w4.setCell ⟨s, 3, none⟩ v3).setCell ⟨s, 4, none⟩ v4).setCells (s + 1) 0 S).heap[g]? = w4.heap[g]? := fun g hg => by
    rw [setCells_other (by omega), heap_setCell_other _ _ _ _ (by show g ≠ s; omega), heap_setCell_other _ _ _ _ (by show g ≠ s; omega)]
  refine ⟨own_monoI (own_keepI (own_belowI ho2 hb4) (fun g hg => hk g (by have := (ho2.lt g hg).1; omega))) (by omega), own_monoI (own_keepI ho4 (fun g hg => hk g (by have := (ho4.lt g hg).1; omega))) (by omega), fun g q1 q2 => by
    have x1 := (ho2.lt g q1).2
    have x2 := (ho4.lt g q2).1
    omega, ?_⟩
  refine setCells_below (by omega) _ _ ?_
  exact ((((h1.trans (hb2.mono (by omega))).trans (hb4.mono (by omega))).setCell (p := ⟨s, 3, none⟩) (by show w.heap.size ≤ s; omega) _).setCell (p := ⟨s, 4, none⟩) (by show w.heap.size ≤ s; omega) _)

set_option linter.unusedSimpArgs false in
set_option maxRecDepth 100000 in
set_option maxHeartbeats 2000000 in
theorem ownState_any (fn pc fu kd : Int) (wt : Bool) (sa la : Option Addr) (sc lc : Nat) (st lo : List Int) (w : World) (hs : Reads w sa (iV st)) (hl : Reads w la (iV lo)) (hsn : sa = none → st.length = 0 ∧ sc = 0) (hln : la = none → lo.length = 0 ∧ lc = 0) (h1 : st.length ≤ 100000) (h2 : lo.length ≤ 100000) :
    Calls Tryz.prog 47 #[.agg #[.int .i64 fn, .int .i64 pc, .int .i64 fu, .slice sa st.length sc, .slice la lo.length lc, .int .i64 kd, .bool wt]] w fun e w' => ∃ sv lv, e = .returned (.agg #[.int .i64 fn, .int .i64 pc, .int .i64 fu, sv, lv, .int .i64 kd, .bool wt]) ∧ w'.ownsRow w.heap.size 3 1 sv st.length (iV st) ∧ w'.ownsRow w.heap.size 3 1 lv lo.length (iV lo) ∧ (∀ g, sv.ownBlock = some g → lv.ownBlock ≠ some g) ∧ Below w.heap.size w w' := by
  have hb0 : Below w.heap.size w ((w.alloc (.cells #[.int .i64 fn, .int .i64 pc, .int .i64 fu, .slice sa st.length sc, .slice la lo.length lc, .int .i64 kd, .bool wt] 29)).alloc (.cells #[.int .i64 0, .int .i64 0, .int .i64 0, .slice none 0 0, .slice none 0 0, .int .i64 0, .bool false] 101)).drew := (((Below.refl _ _).alloc (Nat.le_refl _) _).alloc (by simp) _).drew
  have hx : ((w.alloc (.cells #[.int .i64 fn, .int .i64 pc, .int .i64 fu, .slice sa st.length sc, .slice la lo.length lc, .int .i64 kd, .bool wt] 29)).alloc (.cells #[.int .i64 0, .int .i64 0, .int .i64 0, .slice none 0 0, .slice none 0 0, .int .i64 0, .bool false] 101)).drew.heap[w.heap.size]? = some (.cells #[.int .i64 fn, .int .i64 pc, .int .i64 fu, .slice sa st.length sc, .slice la lo.length lc, .int .i64 kd, .bool wt] 29 (0, 0)) := by
    show ((w.alloc (.cells #[.int .i64 fn, .int .i64 pc, .int .i64 fu, .slice sa st.length sc, .slice la lo.length lc, .int .i64 kd, .bool wt] 29)).alloc (.cells #[.int .i64 0, .int .i64 0, .int .i64 0, .slice none 0 0, .slice none 0 0, .int .i64 0, .bool false] 101)).heap[w.heap.size]? = _
    rw [heap_alloc_old _ _ (by simp), heap_alloc_new]
  have hz : ((w.alloc (.cells #[.int .i64 fn, .int .i64 pc, .int .i64 fu, .slice sa st.length sc, .slice la lo.length lc, .int .i64 kd, .bool wt] 29)).alloc (.cells #[.int .i64 0, .int .i64 0, .int .i64 0, .slice none 0 0, .slice none 0 0, .int .i64 0, .bool false] 101)).drew.heap[w.heap.size + 1]? = some (.cells #[.int .i64 0, .int .i64 0, .int .i64 0, .slice none 0 0, .slice none 0 0, .int .i64 0, .bool false] 101 (0, 0)) := by
    have := heap_alloc_new (w.alloc (.cells #[.int .i64 fn, .int .i64 pc, .int .i64 fu, .slice sa st.length sc, .slice la lo.length lc, .int .i64 kd, .bool wt] 29)) (.cells #[.int .i64 0, .int .i64 0, .int .i64 0, .slice none 0 0, .slice none 0 0, .int .i64 0, .bool false] 101)
    show ((w.alloc (.cells #[.int .i64 fn, .int .i64 pc, .int .i64 fu, .slice sa st.length sc, .slice la lo.length lc, .int .i64 kd, .bool wt] 29)).alloc (.cells #[.int .i64 0, .int .i64 0, .int .i64 0, .slice none 0 0, .slice none 0 0, .int .i64 0, .bool false] 101)).heap[w.heap.size + 1]? = _
    simpa using this
  have C1 := town_any sa sc st ((w.alloc (.cells #[.int .i64 fn, .int .i64 pc, .int .i64 fu, .slice sa st.length sc, .slice la lo.length lc, .int .i64 kd, .bool wt] 29)).alloc (.cells #[.int .i64 0, .int .i64 0, .int .i64 0, .slice none 0 0, .slice none 0 0, .int .i64 0, .bool false] 101)).drew (hs.below hb0) hsn h1
  have HL := hide (hl.below hb0)
  have b0 : ((w.alloc (.cells #[.int .i64 fn, .int .i64 pc, .int .i64 fu, .slice sa st.length sc, .slice la lo.length lc, .int .i64 kd, .bool wt] 29)).alloc (.cells #[.int .i64 0, .int .i64 0, .int .i64 0, .slice none 0 0, .slice none 0 0, .int .i64 0, .bool false] 101)).drew.cell? ⟨w.heap.size, 0, none⟩ = some (.int .i64 fn) := by simp only [World.cell?, hx]; rfl
  have z0 : ((w.alloc (.cells #[.int .i64 fn, .int .i64 pc, .int .i64 fu, .slice sa st.length sc, .slice la lo.length lc, .int .i64 kd, .bool wt] 29)).alloc (.cells #[.int .i64 0, .int .i64 0, .int .i64 0, .slice none 0 0, .slice none 0 0, .int .i64 0, .bool false] 101)).drew.cell? ⟨w.heap.size + 1, 0, none⟩ = some (.int .i64 0) := by simp only [World.cell?, hz]; rfl
  have b1 : ((w.alloc (.cells #[.int .i64 fn, .int .i64 pc, .int .i64 fu, .slice sa st.length sc, .slice la lo.length lc, .int .i64 kd, .bool wt] 29)).alloc (.cells #[.int .i64 0, .int .i64 0, .int .i64 0, .slice none 0 0, .slice none 0 0, .int .i64 0, .bool false] 101)).drew.cell? ⟨w.heap.size, 1, none⟩ = some (.int .i64 pc) := by simp only [World.cell?, hx]; rfl
  have z1 : ((w.alloc (.cells #[.int .i64 fn, .int .i64 pc, .int .i64 fu, .slice sa st.length sc, .slice la lo.length lc, .int .i64 kd, .bool wt] 29)).alloc (.cells #[.int .i64 0, .int .i64 0, .int .i64 0, .slice none 0 0, .slice none 0 0, .int .i64 0, .bool false] 101)).drew.cell? ⟨w.heap.size + 1, 1, none⟩ = some (.int .i64 0) := by simp only [World.cell?, hz]; rfl
  have b2 : ((w.alloc (.cells #[.int .i64 fn, .int .i64 pc, .int .i64 fu, .slice sa st.length sc, .slice la lo.length lc, .int .i64 kd, .bool wt] 29)).alloc (.cells #[.int .i64 0, .int .i64 0, .int .i64 0, .slice none 0 0, .slice none 0 0, .int .i64 0, .bool false] 101)).drew.cell? ⟨w.heap.size, 2, none⟩ = some (.int .i64 fu) := by simp only [World.cell?, hx]; rfl
  have z2 : ((w.alloc (.cells #[.int .i64 fn, .int .i64 pc, .int .i64 fu, .slice sa st.length sc, .slice la lo.length lc, .int .i64 kd, .bool wt] 29)).alloc (.cells #[.int .i64 0, .int .i64 0, .int .i64 0, .slice none 0 0, .slice none 0 0, .int .i64 0, .bool false] 101)).drew.cell? ⟨w.heap.size + 1, 2, none⟩ = some (.int .i64 0) := by simp only [World.cell?, hz]; rfl
  have b3 : ((w.alloc (.cells #[.int .i64 fn, .int .i64 pc, .int .i64 fu, .slice sa st.length sc, .slice la lo.length lc, .int .i64 kd, .bool wt] 29)).alloc (.cells #[.int .i64 0, .int .i64 0, .int .i64 0, .slice none 0 0, .slice none 0 0, .int .i64 0, .bool false] 101)).drew.cell? ⟨w.heap.size, 3, none⟩ = some (.slice sa st.length sc) := by simp only [World.cell?, hx]; rfl
  have z3 : ((w.alloc (.cells #[.int .i64 fn, .int .i64 pc, .int .i64 fu, .slice sa st.length sc, .slice la lo.length lc, .int .i64 kd, .bool wt] 29)).alloc (.cells #[.int .i64 0, .int .i64 0, .int .i64 0, .slice none 0 0, .slice none 0 0, .int .i64 0, .bool false] 101)).drew.cell? ⟨w.heap.size + 1, 3, none⟩ = some (.slice none 0 0) := by simp only [World.cell?, hz]; rfl
  have b4 : ((w.alloc (.cells #[.int .i64 fn, .int .i64 pc, .int .i64 fu, .slice sa st.length sc, .slice la lo.length lc, .int .i64 kd, .bool wt] 29)).alloc (.cells #[.int .i64 0, .int .i64 0, .int .i64 0, .slice none 0 0, .slice none 0 0, .int .i64 0, .bool false] 101)).drew.cell? ⟨w.heap.size, 4, none⟩ = some (.slice la lo.length lc) := by simp only [World.cell?, hx]; rfl
  have z4 : ((w.alloc (.cells #[.int .i64 fn, .int .i64 pc, .int .i64 fu, .slice sa st.length sc, .slice la lo.length lc, .int .i64 kd, .bool wt] 29)).alloc (.cells #[.int .i64 0, .int .i64 0, .int .i64 0, .slice none 0 0, .slice none 0 0, .int .i64 0, .bool false] 101)).drew.cell? ⟨w.heap.size + 1, 4, none⟩ = some (.slice none 0 0) := by simp only [World.cell?, hz]; rfl
  have b5 : ((w.alloc (.cells #[.int .i64 fn, .int .i64 pc, .int .i64 fu, .slice sa st.length sc, .slice la lo.length lc, .int .i64 kd, .bool wt] 29)).alloc (.cells #[.int .i64 0, .int .i64 0, .int .i64 0, .slice none 0 0, .slice none 0 0, .int .i64 0, .bool false] 101)).drew.cell? ⟨w.heap.size, 5, none⟩ = some (.int .i64 kd) := by simp only [World.cell?, hx]; rfl
  have z5 : ((w.alloc (.cells #[.int .i64 fn, .int .i64 pc, .int .i64 fu, .slice sa st.length sc, .slice la lo.length lc, .int .i64 kd, .bool wt] 29)).alloc (.cells #[.int .i64 0, .int .i64 0, .int .i64 0, .slice none 0 0, .slice none 0 0, .int .i64 0, .bool false] 101)).drew.cell? ⟨w.heap.size + 1, 5, none⟩ = some (.int .i64 0) := by simp only [World.cell?, hz]; rfl
  have b6 : ((w.alloc (.cells #[.int .i64 fn, .int .i64 pc, .int .i64 fu, .slice sa st.length sc, .slice la lo.length lc, .int .i64 kd, .bool wt] 29)).alloc (.cells #[.int .i64 0, .int .i64 0, .int .i64 0, .slice none 0 0, .slice none 0 0, .int .i64 0, .bool false] 101)).drew.cell? ⟨w.heap.size, 6, none⟩ = some (.bool wt) := by simp only [World.cell?, hx]; rfl
  have z6 : ((w.alloc (.cells #[.int .i64 fn, .int .i64 pc, .int .i64 fu, .slice sa st.length sc, .slice la lo.length lc, .int .i64 kd, .bool wt] 29)).alloc (.cells #[.int .i64 0, .int .i64 0, .int .i64 0, .slice none 0 0, .slice none 0 0, .int .i64 0, .bool false] 101)).drew.cell? ⟨w.heap.size + 1, 6, none⟩ = some (.bool false) := by simp only [World.cell?, hz]; rfl
  have HX := hide hx
  have HZ := hide hz
  have HB0 := hide hb0
  have hbk : ∀ {w w' : World} {b : Nat} {o : Obj}, w.heap[b]? = some o → Below w.heap.size w w' → w'.heap[b]? = some o := fun {w w' b o} h hb => by
    rw [hb.block b (by
      rcases Nat.lt_or_ge b w.heap.size with q | q
      · exact q
      · rw [Array.getElem?_eq_none q] at h; cases h)]
    exact h
  have frz : ∀ {w : World} {b : Nat} {c : Array Value} {t : TypeId}, w.heap[b]? = some (.cells c t (0, 0)) → ∀ i, w.frozen? ⟨b, i, none⟩ = false := fun {w b c t} h i => by simp [World.frozen?, h]
  clear hx hz hb0 hs hl
  go_enter Tryz.func47, Tryz.ntmps47
  go_wp2_with fail
  refine wp_region_noPanic ?_
  refine wp_region_held_drew (S := fun _ => True) (by kernel_rfl) trivial (fun _ => ?_)
  refine takeD (i := 0) (d := some 3) (v := ?_) rfl rfl (by kernel_rfl) (by kernel_rfl) (by kernel_rfl) (fun _ _ _ h => h) (Or.inl ⟨by rfl, ?_⟩) trivial ?_
  rotate_left
  · intro w hSw
    go_simp
    try (with_reducible rfl)
  try simp only [Act.put, List.setIfInBounds_toArray, List.set_cons_zero, List.set_cons_succ]
  refine takeD (i := 3) (d := some 6) (v := ?_) rfl rfl (by kernel_rfl) (by kernel_rfl) (by kernel_rfl) (fun _ _ _ h => h) (Or.inl ⟨by rfl, ?_⟩) trivial ?_
  rotate_left
  · intro w hSw
    go_simp
    try (with_reducible rfl)
  try simp only [Act.put, List.setIfInBounds_toArray, List.set_cons_zero, List.set_cons_succ]
  refine wpAnyH_ready (rs := [1, 4]) (by kernel_rfl) (by simp) ?_
  refine AllReadyH.cons rfl (fun K hK => ?_) (AllReadyH.cons rfl (fun K hK => ?_) AllReadyH.nil)
  · go_simp
    go_wp2_with fail
    refine hK.out _ _ trivial (fun _ => ?_)
    clear hK K
    try simp only [Act.put, List.setIfInBounds_toArray, List.set_cons_zero, List.set_cons_succ]
    refine wpAnyH_ready (rs := [2, 4]) (by kernel_rfl) (by simp) ?_
    refine AllReadyH.cons rfl (fun K hK => ?_) (AllReadyH.cons rfl (fun K hK => ?_) AllReadyH.nil)
    · skip
      go_simp
      go_at_call 70
      with_reducible refine C1.mono ?_
      (rintro e w2 ⟨v2, rfl, ho2, hb2⟩)
      have b0 := keep_cell b0 hb2
      have b1 := keep_cell b1 hb2
      have b2 := keep_cell b2 hb2
      have b3 := keep_cell b3 hb2
      have b4 := keep_cell b4 hb2
      have b5 := keep_cell b5 hb2
      have b6 := keep_cell b6 hb2
      have z0 := keep_cell z0 hb2
      have z1 := keep_cell z1 hb2
      have z2 := keep_cell z2 hb2
      have z3 := keep_cell z3 hb2
      have z4 := keep_cell z4 hb2
      have z5 := keep_cell z5 hb2
      have z6 := keep_cell z6 hb2
      have HX := hide (hbk HX.out hb2)
      have HZ := hide (hbk HZ.out hb2)
      have C2 := town_any la lc lo w2 (HL.out.below hb2) hln h2
      obtain ⟨a2, c2, rfl, _⟩ := own_formI ho2
      have HO2 := hide ho2
      have HB2 := hide hb2
      clear ho2 hb2
      go_wp2_with fail
      refine hK.out _ _ trivial (fun _ => ?_)
      clear hK K
      try simp only [Act.put, List.setIfInBounds_toArray, List.set_cons_zero, List.set_cons_succ]
      refine wpAnyH_ready (rs := [4]) (by kernel_rfl) (by simp) ?_
      refine AllReadyH.cons rfl (fun K hK => ?_) AllReadyH.nil
      go_simp
      go_wp2_with fail
      refine hK.out _ _ trivial (fun _ => ?_)
      clear hK K
      try simp only [Act.put, List.setIfInBounds_toArray, List.set_cons_zero, List.set_cons_succ]
      refine takeD (i := 6) (d := some 9) (v := ?_) rfl rfl (by kernel_rfl) (by kernel_rfl) (by kernel_rfl) (fun _ _ _ h => h) (Or.inl ⟨by rfl, ?_⟩) trivial ?_
      rotate_left
      · intro w hSw
        go_simp
        try (with_reducible rfl)
      try simp only [Act.put, List.setIfInBounds_toArray, List.set_cons_zero, List.set_cons_succ]
      refine wpAnyH_ready (rs := [5]) (by kernel_rfl) (by simp) ?_
      refine AllReadyH.cons rfl (fun K hK => ?_) AllReadyH.nil
      go_simp
      go_at_call 70
      with_reducible refine C2.mono ?_
      (rintro e w4 ⟨v4, rfl, ho4, hb4⟩)
      have b0 := keep_cell b0 hb4
      have b1 := keep_cell b1 hb4
      have b2 := keep_cell b2 hb4
      have b3 := keep_cell b3 hb4
      have b4 := keep_cell b4 hb4
      have b5 := keep_cell b5 hb4
      have b6 := keep_cell b6 hb4
      have z0 := keep_cell z0 hb4
      have z1 := keep_cell z1 hb4
      have z2 := keep_cell z2 hb4
      have z3 := keep_cell z3 hb4
      have z4 := keep_cell z4 hb4
      have z5 := keep_cell z5 hb4
      have z6 := keep_cell z6 hb4
      have HX := hide (hbk HX.out hb4)
      have HZ := hide (hbk HZ.out hb4)
      obtain ⟨a4, c4, rfl, _⟩ := own_formI ho4
      have HO4 := hide ho4
      have HB4 := hide hb4
      have f3 := frz HX.out 3
      have f4 := frz HX.out 4
      clear ho4 hb4
      go_wp2_with fail
      refine hK.out _ _ trivial (fun _ => ?_)
      clear hK K
      try simp only [Act.put, List.setIfInBounds_toArray, List.set_cons_zero, List.set_cons_succ]
      refine wpAnyH_ready (rs := [7]) (by kernel_rfl) (by simp) ?_
      refine AllReadyH.cons rfl (fun K hK => ?_) AllReadyH.nil
      go_simp
      go_wp2_with fail
      refine hK.out _ _ trivial (fun _ => ?_)
      clear hK K
      try simp only [Act.put, List.setIfInBounds_toArray, List.set_cons_zero, List.set_cons_succ]
      refine takeD (i := 8) (d := some 10) (v := ?_) rfl rfl (by kernel_rfl) (by kernel_rfl) (by kernel_rfl) (fun _ _ _ h => h) (Or.inl ⟨by rfl, ?_⟩) trivial ?_
      rotate_left
      · intro w hSw
        go_simp
        try (with_reducible rfl)
      try simp only [Act.put, List.setIfInBounds_toArray, List.set_cons_zero, List.set_cons_succ]
      refine wpAnyH_ready (rs := [9]) (by kernel_rfl) (by simp) ?_
      refine AllReadyH.cons rfl (fun K hK => ?_) AllReadyH.nil
      go_simp
      go_wp2_with fail
      refine hK.out _ _ trivial (fun _ => ?_)
      clear hK K
      try simp only [Act.put, List.setIfInBounds_toArray, List.set_cons_zero, List.set_cons_succ]
      refine wpAnyH_done (by kernel_rfl) ?_ _
      refine NoPanic.normal ?_
      have f0 := frz HZ.out 0
      have f1 := frz HZ.out 1
      have f2 := frz HZ.out 2
      have f3z := frz HZ.out 3
      have f4z := frz HZ.out 4
      have f5 := frz HZ.out 5
      have f6 := frz HZ.out 6
      go_wp2_with fail
      show bodyPost Tryz.prog Tryz.f47 _ _ _ (((w4.setCell ⟨w.heap.size, 3, none⟩ (.slice a2 st.length c2)).setCell ⟨w.heap.size, 4, none⟩ (.slice a4 lo.length c4)).setCells (w.heap.size + 1) 0 [.int .i64 fn, .int .i64 pc, .int .i64 fu, .slice a2 st.length c2, .slice a4 lo.length c4, .int .i64 kd, .bool wt])
      have HF := hide (fin35 (S := [.int .i64 fn, .int .i64 pc, .int .i64 fu, .slice a2 st.length c2, .slice a4 lo.length c4, .int .i64 kd, .bool wt]) HB0.out rfl (by simp) HB2.out HB4.out HO2.out HO4.out (.slice a2 st.length c2) (.slice a4 lo.length c4))
      have rz := cells35 (S := [.int .i64 fn, .int .i64 pc, .int .i64 fu, .slice a2 st.length c2, .slice a4 lo.length c4, .int .i64 kd, .bool wt]) HZ.out rfl (.slice a2 st.length c2) (.slice a4 lo.length c4)
      generalize (((w4.setCell ⟨w.heap.size, 3, none⟩ (.slice a2 st.length c2)).setCell ⟨w.heap.size, 4, none⟩ (.slice a4 lo.length c4)).setCells (w.heap.size + 1) 0 [.int .i64 fn, .int .i64 pc, .int .i64 fu, .slice a2 st.length c2, .slice a4 lo.length c4, .int .i64 kd, .bool wt]) = w9 at HF rz ⊢
      have r0 := rz 0 _ rfl
      have r1 := rz 1 _ rfl
      have r2 := rz 2 _ rfl
      have r3 := rz 3 _ rfl
      have r4 := rz 4 _ rfl
      have r5 := rz 5 _ rfl
      have r6 := rz 6 _ rfl
      exact bodyPost_ret (v := .agg #[.int .i64 fn, .int .i64 pc, .int .i64 fu, .slice a2 st.length c2, .slice a4 lo.length c4, .int .i64 kd, .bool wt]) (by simp [results, Tryz.results47, go_sem, r0, r1, r2, r3, r4, r5, r6]) rfl ⟨.slice a2 st.length c2, .slice a4 lo.length c4, rfl, HF.out⟩
    · go_simp
      go_wp2_with fail
      refine hK.out _ _ trivial (fun _ => ?_)
      clear hK K
      try simp only [Act.put, List.setIfInBounds_toArray, List.set_cons_zero, List.set_cons_succ]
      refine wpAnyH_ready (rs := [2]) (by kernel_rfl) (by simp) ?_
      refine AllReadyH.cons rfl (fun K hK => ?_) AllReadyH.nil
      go_simp
      go_at_call 70
      with_reducible refine C1.mono ?_
      (rintro e w2 ⟨v2, rfl, ho2, hb2⟩)
      have b0 := keep_cell b0 hb2
      have b1 := keep_cell b1 hb2
      have b2 := keep_cell b2 hb2
      have b3 := keep_cell b3 hb2
      have b4 := keep_cell b4 hb2
      have b5 := keep_cell b5 hb2
      have b6 := keep_cell b6 hb2
      have z0 := keep_cell z0 hb2
      have z1 := keep_cell z1 hb2
      have z2 := keep_cell z2 hb2
      have z3 := keep_cell z3 hb2
      have z4 := keep_cell z4 hb2
      have z5 := keep_cell z5 hb2
      have z6 := keep_cell z6 hb2
      have HX := hide (hbk HX.out hb2)
      have HZ := hide (hbk HZ.out hb2)
      have C2 := town_any la lc lo w2 (HL.out.below hb2) hln h2
      obtain ⟨a2, c2, rfl, _⟩ := own_formI ho2
      have HO2 := hide ho2
      have HB2 := hide hb2
      clear ho2 hb2
      go_wp2_with fail
      refine hK.out _ _ trivial (fun _ => ?_)
      clear hK K
      try simp only [Act.put, List.setIfInBounds_toArray, List.set_cons_zero, List.set_cons_succ]
      refine takeD (i := 6) (d := some 9) (v := ?_) rfl rfl (by kernel_rfl) (by kernel_rfl) (by kernel_rfl) (fun _ _ _ h => h) (Or.inl ⟨by rfl, ?_⟩) trivial ?_
      rotate_left
      · intro w hSw
        go_simp
        try (with_reducible rfl)
      try simp only [Act.put, List.setIfInBounds_toArray, List.set_cons_zero, List.set_cons_succ]
      refine wpAnyH_ready (rs := [5]) (by kernel_rfl) (by simp) ?_
      refine AllReadyH.cons rfl (fun K hK => ?_) AllReadyH.nil
      go_simp
      go_at_call 70
      with_reducible refine C2.mono ?_
      (rintro e w4 ⟨v4, rfl, ho4, hb4⟩)
      have b0 := keep_cell b0 hb4
      have b1 := keep_cell b1 hb4
      have b2 := keep_cell b2 hb4
      have b3 := keep_cell b3 hb4
      have b4 := keep_cell b4 hb4
      have b5 := keep_cell b5 hb4
      have b6 := keep_cell b6 hb4
      have z0 := keep_cell z0 hb4
      have z1 := keep_cell z1 hb4
      have z2 := keep_cell z2 hb4
      have z3 := keep_cell z3 hb4
      have z4 := keep_cell z4 hb4
      have z5 := keep_cell z5 hb4
      have z6 := keep_cell z6 hb4
      have HX := hide (hbk HX.out hb4)
      have HZ := hide (hbk HZ.out hb4)
      obtain ⟨a4, c4, rfl, _⟩ := own_formI ho4
      have HO4 := hide ho4
      have HB4 := hide hb4
      have f3 := frz HX.out 3
      have f4 := frz HX.out 4
      clear ho4 hb4
      go_wp2_with fail
      refine hK.out _ _ trivial (fun _ => ?_)
      clear hK K
      try simp only [Act.put, List.setIfInBounds_toArray, List.set_cons_zero, List.set_cons_succ]
      refine wpAnyH_ready (rs := [7]) (by kernel_rfl) (by simp) ?_
      refine AllReadyH.cons rfl (fun K hK => ?_) AllReadyH.nil
      go_simp
      go_wp2_with fail
      refine hK.out _ _ trivial (fun _ => ?_)
      clear hK K
      try simp only [Act.put, List.setIfInBounds_toArray, List.set_cons_zero, List.set_cons_succ]
      refine takeD (i := 8) (d := some 10) (v := ?_) rfl rfl (by kernel_rfl) (by kernel_rfl) (by kernel_rfl) (fun _ _ _ h => h) (Or.inl ⟨by rfl, ?_⟩) trivial ?_
      rotate_left
      · intro w hSw
        go_simp
        try (with_reducible rfl)
      try simp only [Act.put, List.setIfInBounds_toArray, List.set_cons_zero, List.set_cons_succ]
      refine wpAnyH_ready (rs := [9]) (by kernel_rfl) (by simp) ?_
      refine AllReadyH.cons rfl (fun K hK => ?_) AllReadyH.nil
      go_simp
      go_wp2_with fail
      refine hK.out _ _ trivial (fun _ => ?_)
      clear hK K
      try simp only [Act.put, List.setIfInBounds_toArray, List.set_cons_zero, List.set_cons_succ]
      refine wpAnyH_done (by kernel_rfl) ?_ _
      refine NoPanic.normal ?_
      have f0 := frz HZ.out 0
      have f1 := frz HZ.out 1
      have f2 := frz HZ.out 2
      have f3z := frz HZ.out 3
      have f4z := frz HZ.out 4
      have f5 := frz HZ.out 5
      have f6 := frz HZ.out 6
      go_wp2_with fail
      show bodyPost Tryz.prog Tryz.f47 _ _ _ (((w4.setCell ⟨w.heap.size, 3, none⟩ (.slice a2 st.length c2)).setCell ⟨w.heap.size, 4, none⟩ (.slice a4 lo.length c4)).setCells (w.heap.size + 1) 0 [.int .i64 fn, .int .i64 pc, .int .i64 fu, .slice a2 st.length c2, .slice a4 lo.length c4, .int .i64 kd, .bool wt])
      have HF := hide (fin35 (S := [.int .i64 fn, .int .i64 pc, .int .i64 fu, .slice a2 st.length c2, .slice a4 lo.length c4, .int .i64 kd, .bool wt]) HB0.out rfl (by simp) HB2.out HB4.out HO2.out HO4.out (.slice a2 st.length c2) (.slice a4 lo.length c4))
      have rz := cells35 (S := [.int .i64 fn, .int .i64 pc, .int .i64 fu, .slice a2 st.length c2, .slice a4 lo.length c4, .int .i64 kd, .bool wt]) HZ.out rfl (.slice a2 st.length c2) (.slice a4 lo.length c4)
      generalize (((w4.setCell ⟨w.heap.size, 3, none⟩ (.slice a2 st.length c2)).setCell ⟨w.heap.size, 4, none⟩ (.slice a4 lo.length c4)).setCells (w.heap.size + 1) 0 [.int .i64 fn, .int .i64 pc, .int .i64 fu, .slice a2 st.length c2, .slice a4 lo.length c4, .int .i64 kd, .bool wt]) = w9 at HF rz ⊢
      have r0 := rz 0 _ rfl
      have r1 := rz 1 _ rfl
      have r2 := rz 2 _ rfl
      have r3 := rz 3 _ rfl
      have r4 := rz 4 _ rfl
      have r5 := rz 5 _ rfl
      have r6 := rz 6 _ rfl
      exact bodyPost_ret (v := .agg #[.int .i64 fn, .int .i64 pc, .int .i64 fu, .slice a2 st.length c2, .slice a4 lo.length c4, .int .i64 kd, .bool wt]) (by simp [results, Tryz.results47, go_sem, r0, r1, r2, r3, r4, r5, r6]) rfl ⟨.slice a2 st.length c2, .slice a4 lo.length c4, rfl, HF.out⟩
  · go_simp
    go_wp2_with fail
    refine hK.out _ _ trivial (fun _ => ?_)
    clear hK K
    try simp only [Act.put, List.setIfInBounds_toArray, List.set_cons_zero, List.set_cons_succ]
    refine wpAnyH_ready (rs := [1]) (by kernel_rfl) (by simp) ?_
    refine AllReadyH.cons rfl (fun K hK => ?_) AllReadyH.nil
    go_simp
    go_wp2_with fail
    refine hK.out _ _ trivial (fun _ => ?_)
    clear hK K
    try simp only [Act.put, List.setIfInBounds_toArray, List.set_cons_zero, List.set_cons_succ]
    refine wpAnyH_ready (rs := [2]) (by kernel_rfl) (by simp) ?_
    refine AllReadyH.cons rfl (fun K hK => ?_) AllReadyH.nil
    go_simp
    go_at_call 70
    with_reducible refine C1.mono ?_
    (rintro e w2 ⟨v2, rfl, ho2, hb2⟩)
    have b0 := keep_cell b0 hb2
    have b1 := keep_cell b1 hb2
    have b2 := keep_cell b2 hb2
    have b3 := keep_cell b3 hb2
    have b4 := keep_cell b4 hb2
    have b5 := keep_cell b5 hb2
    have b6 := keep_cell b6 hb2
    have z0 := keep_cell z0 hb2
    have z1 := keep_cell z1 hb2
    have z2 := keep_cell z2 hb2
    have z3 := keep_cell z3 hb2
    have z4 := keep_cell z4 hb2
    have z5 := keep_cell z5 hb2
    have z6 := keep_cell z6 hb2
    have HX := hide (hbk HX.out hb2)
    have HZ := hide (hbk HZ.out hb2)
    have C2 := town_any la lc lo w2 (HL.out.below hb2) hln h2
    obtain ⟨a2, c2, rfl, _⟩ := own_formI ho2
    have HO2 := hide ho2
    have HB2 := hide hb2
    clear ho2 hb2
    go_wp2_with fail
    refine hK.out _ _ trivial (fun _ => ?_)
    clear hK K
    try simp only [Act.put, List.setIfInBounds_toArray, List.set_cons_zero, List.set_cons_succ]
    refine takeD (i := 6) (d := some 9) (v := ?_) rfl rfl (by kernel_rfl) (by kernel_rfl) (by kernel_rfl) (fun _ _ _ h => h) (Or.inl ⟨by rfl, ?_⟩) trivial ?_
    rotate_left
    · intro w hSw
      go_simp
      try (with_reducible rfl)
    try simp only [Act.put, List.setIfInBounds_toArray, List.set_cons_zero, List.set_cons_succ]
    refine wpAnyH_ready (rs := [5]) (by kernel_rfl) (by simp) ?_
    refine AllReadyH.cons rfl (fun K hK => ?_) AllReadyH.nil
    go_simp
    go_at_call 70
    with_reducible refine C2.mono ?_
    (rintro e w4 ⟨v4, rfl, ho4, hb4⟩)
    have b0 := keep_cell b0 hb4
    have b1 := keep_cell b1 hb4
    have b2 := keep_cell b2 hb4
    have b3 := keep_cell b3 hb4
    have b4 := keep_cell b4 hb4
    have b5 := keep_cell b5 hb4
    have b6 := keep_cell b6 hb4
    have z0 := keep_cell z0 hb4
    have z1 := keep_cell z1 hb4
    have z2 := keep_cell z2 hb4
    have z3 := keep_cell z3 hb4
    have z4 := keep_cell z4 hb4
    have z5 := keep_cell z5 hb4
    have z6 := keep_cell z6 hb4
    have HX := hide (hbk HX.out hb4)
    have HZ := hide (hbk HZ.out hb4)
    obtain ⟨a4, c4, rfl, _⟩ := own_formI ho4
    have HO4 := hide ho4
    have HB4 := hide hb4
    have f3 := frz HX.out 3
    have f4 := frz HX.out 4
    clear ho4 hb4
    go_wp2_with fail
    refine hK.out _ _ trivial (fun _ => ?_)
    clear hK K
    try simp only [Act.put, List.setIfInBounds_toArray, List.set_cons_zero, List.set_cons_succ]
    refine wpAnyH_ready (rs := [7]) (by kernel_rfl) (by simp) ?_
    refine AllReadyH.cons rfl (fun K hK => ?_) AllReadyH.nil
    go_simp
    go_wp2_with fail
    refine hK.out _ _ trivial (fun _ => ?_)
    clear hK K
    try simp only [Act.put, List.setIfInBounds_toArray, List.set_cons_zero, List.set_cons_succ]
    refine takeD (i := 8) (d := some 10) (v := ?_) rfl rfl (by kernel_rfl) (by kernel_rfl) (by kernel_rfl) (fun _ _ _ h => h) (Or.inl ⟨by rfl, ?_⟩) trivial ?_
    rotate_left
    · intro w hSw
      go_simp
      try (with_reducible rfl)
    try simp only [Act.put, List.setIfInBounds_toArray, List.set_cons_zero, List.set_cons_succ]
    refine wpAnyH_ready (rs := [9]) (by kernel_rfl) (by simp) ?_
    refine AllReadyH.cons rfl (fun K hK => ?_) AllReadyH.nil
    go_simp
    go_wp2_with fail
    refine hK.out _ _ trivial (fun _ => ?_)
    clear hK K
    try simp only [Act.put, List.setIfInBounds_toArray, List.set_cons_zero, List.set_cons_succ]
    refine wpAnyH_done (by kernel_rfl) ?_ _
    refine NoPanic.normal ?_
    have f0 := frz HZ.out 0
    have f1 := frz HZ.out 1
    have f2 := frz HZ.out 2
    have f3z := frz HZ.out 3
    have f4z := frz HZ.out 4
    have f5 := frz HZ.out 5
    have f6 := frz HZ.out 6
    go_wp2_with fail
    show bodyPost Tryz.prog Tryz.f47 _ _ _ (((w4.setCell ⟨w.heap.size, 3, none⟩ (.slice a2 st.length c2)).setCell ⟨w.heap.size, 4, none⟩ (.slice a4 lo.length c4)).setCells (w.heap.size + 1) 0 [.int .i64 fn, .int .i64 pc, .int .i64 fu, .slice a2 st.length c2, .slice a4 lo.length c4, .int .i64 kd, .bool wt])
    have HF := hide (fin35 (S := [.int .i64 fn, .int .i64 pc, .int .i64 fu, .slice a2 st.length c2, .slice a4 lo.length c4, .int .i64 kd, .bool wt]) HB0.out rfl (by simp) HB2.out HB4.out HO2.out HO4.out (.slice a2 st.length c2) (.slice a4 lo.length c4))
    have rz := cells35 (S := [.int .i64 fn, .int .i64 pc, .int .i64 fu, .slice a2 st.length c2, .slice a4 lo.length c4, .int .i64 kd, .bool wt]) HZ.out rfl (.slice a2 st.length c2) (.slice a4 lo.length c4)
    generalize (((w4.setCell ⟨w.heap.size, 3, none⟩ (.slice a2 st.length c2)).setCell ⟨w.heap.size, 4, none⟩ (.slice a4 lo.length c4)).setCells (w.heap.size + 1) 0 [.int .i64 fn, .int .i64 pc, .int .i64 fu, .slice a2 st.length c2, .slice a4 lo.length c4, .int .i64 kd, .bool wt]) = w9 at HF rz ⊢
    have r0 := rz 0 _ rfl
    have r1 := rz 1 _ rfl
    have r2 := rz 2 _ rfl
    have r3 := rz 3 _ rfl
    have r4 := rz 4 _ rfl
    have r5 := rz 5 _ rfl
    have r6 := rz 6 _ rfl
    exact bodyPost_ret (v := .agg #[.int .i64 fn, .int .i64 pc, .int .i64 fu, .slice a2 st.length c2, .slice a4 lo.length c4, .int .i64 kd, .bool wt]) (by simp [results, Tryz.results47, go_sem, r0, r1, r2, r3, r4, r5, r6]) rfl ⟨.slice a2 st.length c2, .slice a4 lo.length c4, rfl, HF.out⟩
end Go.Proofs.YtnkfdpnommjlcaaGreatDoor
