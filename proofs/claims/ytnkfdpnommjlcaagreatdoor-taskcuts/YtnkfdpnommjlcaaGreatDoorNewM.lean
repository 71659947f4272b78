/- newMachine. -/
import Derived.Test.YtnkfdpnommjlcaaGreatDoorOwn
namespace Go.Proofs.YtnkfdpnommjlcaaGreatDoor
open Go.RowKit Go.ChangeShapes Go.WideShapes Go.ChangeAt Go.Deep

set_option linter.unusedSimpArgs false in
set_option maxRecDepth 100000 in
set_option maxHeartbeats 4000000 in
theorem newMachine_any (j : JV) (fn pc fu kd : Int) (wt : Bool) (sa la : Option Addr) (sc lc : Nat) (st lo : List Int) (w : World) (hs : Reads w sa (iV st)) (hl : Reads w la (iV lo)) (hsn : sa = none → st.length = 0 ∧ sc = 0) (hln : la = none → lo.length = 0 ∧ lc = 0) (h1 : st.length ≤ 100000) (h2 : lo.length ≤ 100000) :
    Calls Tryz.prog 28 #[.agg #[.slice j.fa j.nf j.fc, .int .i64 j.main, .slice j.aa j.na j.ac, .int .i64 j.fuel, .int .i64 j.tasks], .agg #[.int .i64 fn, .int .i64 pc, .int .i64 fu, .slice sa st.length sc, .slice la lo.length lc, .int .i64 kd, .bool wt]] w fun e w' => ∃ m sv lv, e = .returned (.pointer (some ⟨m, 0, none⟩)) ∧ Mach ⟨w.heap.size, none⟩ w' m ⟨fn, pc, fu, sv, lv, kd, wt, j, 0, 0, 0, 0, .slice none 0 0, 0, 0⟩ st lo [] ∧ Below w.heap.size w w' := by
  have hb0 : Below w.heap.size w ((w.alloc (.cells #[.slice j.fa j.nf j.fc, .int .i64 j.main, .slice j.aa j.na j.ac, .int .i64 j.fuel, .int .i64 j.tasks] 25)).alloc (.cells #[.int .i64 fn, .int .i64 pc, .int .i64 fu, .slice sa st.length sc, .slice la lo.length lc, .int .i64 kd, .bool wt] 29)) := (((Below.refl _ _).alloc (Nat.le_refl _) _).alloc (by simp) _)
  have hx : ((w.alloc (.cells #[.slice j.fa j.nf j.fc, .int .i64 j.main, .slice j.aa j.na j.ac, .int .i64 j.fuel, .int .i64 j.tasks] 25)).alloc (.cells #[.int .i64 fn, .int .i64 pc, .int .i64 fu, .slice sa st.length sc, .slice la lo.length lc, .int .i64 kd, .bool wt] 29)).heap[w.heap.size]? = some (.cells #[.slice j.fa j.nf j.fc, .int .i64 j.main, .slice j.aa j.na j.ac, .int .i64 j.fuel, .int .i64 j.tasks] 25 (0, 0)) := by
    rw [heap_alloc_old _ _ (by simp), heap_alloc_new]
  have hz : ((w.alloc (.cells #[.slice j.fa j.nf j.fc, .int .i64 j.main, .slice j.aa j.na j.ac, .int .i64 j.fuel, .int .i64 j.tasks] 25)).alloc (.cells #[.int .i64 fn, .int .i64 pc, .int .i64 fu, .slice sa st.length sc, .slice la lo.length lc, .int .i64 kd, .bool wt] 29)).heap[w.heap.size + 1]? = some (.cells #[.int .i64 fn, .int .i64 pc, .int .i64 fu, .slice sa st.length sc, .slice la lo.length lc, .int .i64 kd, .bool wt] 29 (0, 0)) := by
    have := heap_alloc_new (w.alloc (.cells #[.slice j.fa j.nf j.fc, .int .i64 j.main, .slice j.aa j.na j.ac, .int .i64 j.fuel, .int .i64 j.tasks] 25)) (.cells #[.int .i64 fn, .int .i64 pc, .int .i64 fu, .slice sa st.length sc, .slice la lo.length lc, .int .i64 kd, .bool wt] 29)
    simpa using this
  have HW := hide (show ((w.alloc (.cells #[.slice j.fa j.nf j.fc, .int .i64 j.main, .slice j.aa j.na j.ac, .int .i64 j.fuel, .int .i64 j.tasks] 25)).alloc (.cells #[.int .i64 fn, .int .i64 pc, .int .i64 fu, .slice sa st.length sc, .slice la lo.length lc, .int .i64 kd, .bool wt] 29)).heap.size = w.heap.size + 2 by simp)
  go_enter Tryz.func28, Tryz.ntmps28
  go_wp2_with fail
  generalize ((w.alloc (.cells #[.slice j.fa j.nf j.fc, .int .i64 j.main, .slice j.aa j.na j.ac, .int .i64 j.fuel, .int .i64 j.tasks] 25)).alloc (.cells #[.int .i64 fn, .int .i64 pc, .int .i64 fu, .slice sa st.length sc, .slice la lo.length lc, .int .i64 kd, .bool wt] 29)) = w1 at *
  have j0 : w1.cell? ⟨w.heap.size, 0, none⟩ = some (.slice j.fa j.nf j.fc) := by simp only [World.cell?, hx]; rfl
  have j1 : w1.cell? ⟨w.heap.size, 1, none⟩ = some (.int .i64 j.main) := by simp only [World.cell?, hx]; rfl
  have j2 : w1.cell? ⟨w.heap.size, 2, none⟩ = some (.slice j.aa j.na j.ac) := by simp only [World.cell?, hx]; rfl
  have j3 : w1.cell? ⟨w.heap.size, 3, none⟩ = some (.int .i64 j.fuel) := by simp only [World.cell?, hx]; rfl
  have j4 : w1.cell? ⟨w.heap.size, 4, none⟩ = some (.int .i64 j.tasks) := by simp only [World.cell?, hx]; rfl
  have b0 : w1.cell? ⟨w.heap.size + 1, 0, none⟩ = some (.int .i64 fn) := by simp only [World.cell?, hz]; rfl
  have b1 : w1.cell? ⟨w.heap.size + 1, 1, none⟩ = some (.int .i64 pc) := by simp only [World.cell?, hz]; rfl
  have b2 : w1.cell? ⟨w.heap.size + 1, 2, none⟩ = some (.int .i64 fu) := by simp only [World.cell?, hz]; rfl
  have b3 : w1.cell? ⟨w.heap.size + 1, 3, none⟩ = some (.slice sa st.length sc) := by simp only [World.cell?, hz]; rfl
  have b4 : w1.cell? ⟨w.heap.size + 1, 4, none⟩ = some (.slice la lo.length lc) := by simp only [World.cell?, hz]; rfl
  have b5 : w1.cell? ⟨w.heap.size + 1, 5, none⟩ = some (.int .i64 kd) := by simp only [World.cell?, hz]; rfl
  have b6 : w1.cell? ⟨w.heap.size + 1, 6, none⟩ = some (.bool wt) := by simp only [World.cell?, hz]; rfl
  have C1 := ownState_any fn pc fu kd wt sa la sc lc st lo w1.drew (hs.below hb0.drew) (hl.below hb0.drew) hsn hln h1 h2
  clear hx hz hs hl
  refine wp_region_noPanic ?_
  have hN : Below w1.heap.size w1 w1.drew := (Below.refl _ _).drew
  refine wp_region_held_drew (S := fun W => W.cell? ⟨w.heap.size, 0, none⟩ = some (.slice j.fa j.nf j.fc) ∧ W.cell? ⟨w.heap.size, 1, none⟩ = some (.int .i64 j.main) ∧ W.cell? ⟨w.heap.size, 2, none⟩ = some (.slice j.aa j.na j.ac) ∧ W.cell? ⟨w.heap.size, 3, none⟩ = some (.int .i64 j.fuel) ∧ W.cell? ⟨w.heap.size, 4, none⟩ = some (.int .i64 j.tasks) ∧ W.cell? ⟨w.heap.size + 1, 0, none⟩ = some (.int .i64 fn) ∧ W.cell? ⟨w.heap.size + 1, 1, none⟩ = some (.int .i64 pc) ∧ W.cell? ⟨w.heap.size + 1, 2, none⟩ = some (.int .i64 fu) ∧ W.cell? ⟨w.heap.size + 1, 3, none⟩ = some (.slice sa st.length sc) ∧ W.cell? ⟨w.heap.size + 1, 4, none⟩ = some (.slice la lo.length lc) ∧ W.cell? ⟨w.heap.size + 1, 5, none⟩ = some (.int .i64 kd) ∧ W.cell? ⟨w.heap.size + 1, 6, none⟩ = some (.bool wt)) (by kernel_rfl) (⟨keep_cell j0 hN, keep_cell j1 hN, keep_cell j2 hN, keep_cell j3 hN, keep_cell j4 hN, keep_cell b0 hN, keep_cell b1 hN, keep_cell b2 hN, keep_cell b3 hN, keep_cell b4 hN, keep_cell b5 hN, keep_cell b6 hN⟩) (fun hHeld => ?_)
  refine takeD (i := 0) (d := some 5) (v := ?_) rfl rfl (by kernel_rfl) (by kernel_rfl) (by kernel_rfl) (fun _ _ _ h => h) (Or.inl ⟨by rfl, ?_⟩) (by assumption) ?_
  rotate_left
  · intro w hSw
    go_simp
    try (with_reducible rfl)
  try simp only [Act.put, List.setIfInBounds_toArray, List.set_cons_zero, List.set_cons_succ]
  refine takeD (i := 2) (d := some 7) (v := ?_) rfl rfl (by kernel_rfl) (by kernel_rfl) (by kernel_rfl) (fun _ _ _ h => h) (Or.inl ⟨by rfl, ?_⟩) (by assumption) ?_
  rotate_left
  · intro w hSw
    go_simp
    try (with_reducible rfl)
  try simp only [Act.put, List.setIfInBounds_toArray, List.set_cons_zero, List.set_cons_succ]
  refine wpAnyH_ready (rs := [1]) (by kernel_rfl) (by simp) ?_
  refine AllReadyH.cons rfl (fun K hK => ?_) AllReadyH.nil
  go_simp
  go_at_call 47
  with_reducible refine C1.mono ?_
  (rintro e w2 ⟨sv, lv, rfl, ho2, hl2, hsl, hb2⟩)
  have hN := chain hN hb2
  go_wp2_with fail
  clear hHeld
  refine hK.out _ _ (⟨keep_cell j0 hN, keep_cell j1 hN, keep_cell j2 hN, keep_cell j3 hN, keep_cell j4 hN, keep_cell b0 hN, keep_cell b1 hN, keep_cell b2 hN, keep_cell b3 hN, keep_cell b4 hN, keep_cell b5 hN, keep_cell b6 hN⟩) (fun hHeld => ?_)
  clear hK K
  try simp only [Act.put, List.setIfInBounds_toArray, List.set_cons_zero, List.set_cons_succ]
  refine takeD (i := 3) (d := some 8) (v := ?_) rfl rfl (by kernel_rfl) (by kernel_rfl) (by kernel_rfl) (fun _ _ _ h => h) (Or.inl ⟨by rfl, ?_⟩) (by assumption) ?_
  rotate_left
  · intro w hSw
    go_simp
    try (with_reducible rfl)
  try simp only [Act.put, List.setIfInBounds_toArray, List.set_cons_zero, List.set_cons_succ]
  refine wpAnyH_ready (rs := [4]) (by kernel_rfl) (by simp) ?_
  refine AllReadyH.cons rfl (fun K hK => ?_) AllReadyH.nil
  go_simp
  go_wp2_with fail
  have hN := chain hN (alloc_below _ (.cells #[.int .i64 fn, .int .i64 pc, .int .i64 fu, sv, lv, .int .i64 kd, .bool wt, .slice j.fa j.nf j.fc, .int .i64 j.main, .slice j.aa j.na j.ac, .int .i64 j.fuel, .int .i64 j.tasks, .int .i64 0, .int .i64 0, .int .i64 0, .int .i64 0, .slice none 0 0, .int .i64 0, .int .i64 0] 104))
  go_wp2_with fail
  clear hHeld
  refine hK.out _ _ (⟨keep_cell j0 hN, keep_cell j1 hN, keep_cell j2 hN, keep_cell j3 hN, keep_cell j4 hN, keep_cell b0 hN, keep_cell b1 hN, keep_cell b2 hN, keep_cell b3 hN, keep_cell b4 hN, keep_cell b5 hN, keep_cell b6 hN⟩) (fun hHeld => ?_)
  clear hK K
  try simp only [Act.put, List.setIfInBounds_toArray, List.set_cons_zero, List.set_cons_succ]
  refine takeD (i := 5) (d := some 4) (v := ?_) rfl rfl (by kernel_rfl) (by kernel_rfl) (by kernel_rfl) (fun _ _ _ h => h) (Or.inl ⟨by rfl, ?_⟩) (by assumption) ?_
  rotate_left
  · intro w hSw
    go_simp
    try (with_reducible rfl)
  try simp only [Act.put, List.setIfInBounds_toArray, List.set_cons_zero, List.set_cons_succ]
  refine wpAnyH_done (by kernel_rfl) ?_ _
  refine NoPanic.normal ?_
  have hs2 := hb2.size
  have hw := HW.out
  go_wp2_with fail
  go_ret
  refine ⟨w2.heap.size, sv, lv, rfl, ⟨heap_alloc_new w2 _, by simp at hs2; show w.heap.size ≤ w2.heap.size; omega, own_monoI (own_belowI ho2 (alloc_below _ _)) (by simp; omega), own_monoI (own_belowI hl2 (alloc_below _ _)) (by simp; omega), World.ownsRow_nil _ _ _ _, hsl, fun g _ h => (by cases h), fun g _ h => (by cases h), fun _ _ h => by cases h⟩, ?_⟩
  exact (hb0.trans ((hN).mono (by omega)))
end Go.Proofs.YtnkfdpnommjlcaaGreatDoor
