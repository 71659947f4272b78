/- goOver. -/
import Derived.Test.YtnkfdpnommjlcaaGreatDoorBeh
import Derived.RegionTactic
namespace Go.Proofs.YtnkfdpnommjlcaaGreatDoor
open Go.RowKit Go.ChangeShapes Go.WideShapes Go.ChangeAt Go.Deep

/-- A list of numbers that lies behind all that is turned. -/
def LR (Bn : Nat) (w : World) (a : Option Addr) (L : List Int) : Prop := L = [] ∨ ∃ gb off, a = some ⟨gb, off, none⟩ ∧ Bn ≤ gb ∧ ∀ j t, L[j]? = some t → w.cell? ⟨gb, off + j, none⟩ = some (.int .i64 t)
theorem LR.below {Bn : Nat} {w w' : World} {a : Option Addr} {L : List Int} (h : LR Bn w a L) (hb : Below w.heap.size w w') : LR Bn w' a L := by
  rcases h with h | ⟨gb, off, e, h1, h2⟩
  · exact .inl h
  · exact .inr ⟨gb, off, e, h1, fun j t ht => keep_cell (h2 j t ht) hb⟩
theorem LR.far {Bn : Nat} {w w' : World} {a : Option Addr} {L : List Int} {b g : Nat} (h : LR Bn w a L) (hb : b < Bn) (hg : g < Bn) (hw : ∀ j, j ≠ b → j ≠ g → w'.heap[j]? = w.heap[j]?) : LR Bn w' a L := by
  rcases h with h | ⟨gb, off, e, h1, h2⟩
  · exact .inl h
  · exact .inr ⟨gb, off, e, h1, fun j t ht => (World.cell?_of_block (hw gb (by omega) (by omega))).trans (h2 j t ht)⟩
theorem LR.of_own {w w' : World} {v : Value} {L : List Int} (h : Own w w' v L) : ∃ a c, v = .slice a L.length c ∧ LR w.heap.size w' a L := by
  rcases h.1.2 with ⟨rfl, e⟩ | ⟨g, cap, cur, rfl, hg, _⟩
  · refine ⟨none, 0, by rw [e], .inl ?_⟩
    exact List.eq_nil_of_length_eq_zero e
  · refine ⟨_, cap, rfl, .inr ⟨g, 0, rfl, hg, fun j t ht => ?_⟩⟩
    have := h.1.cells (g := g) rfl j (.int .i64 t) (by simp [iV, ht])
    rwa [add_none] at this

/-- How the going over ends. -/
def OverPost (B : Nat) (x : WC) (q : Nat) (g : List Bool) (w : World) (res : Except Int (List Int × Nat)) (r : Ending) (w' : World) : Prop :=
  Below B w w' ∧ match res with
  | .error e => r = .panicked [{ v := wrongV x.fn (q : Int) e, recovered := false }]
  | .ok (d, low) => r = .returned (.tuple #[]) ∧ Dp B w' x (q : Int) (low : Int) d g

theorem nextL_len (op n s : Int) : (nextL op n s).length ≤ 2 := by
  unfold nextL; split <;> (try split) <;> (try split) <;> simp
theorem behL_bound {ns : List Int} {i : Int × Int} {dep v : Int} (h : behL ns i dep = some v) : 0 ≤ v ∧ v ≤ 32 := by
  unfold behL at h
  have hp := pushes_bound i.1
  split at h
  · rename_i hi
    simp [inB] at hi
    cases h
    omega
  · cases h
theorem hasB_nat {n : Nat} {t : Int} (h : hasB (n : Int) t = true) : ∃ j : Nat, t = (j : Int) ∧ j < n := by
  simp [hasB, inB] at h
  exact ⟨t.toNat, by omega, by omega⟩

set_option maxRecDepth 100000 in
set_option maxHeartbeats 4000000 in
theorem goOver_any (B : Nat) (x : WC) (q l : Nat) (d : List Int) (g : List Bool) (ns : List Int) (code : List (Int × Int)) (w : World) (hD : Dp B w x (q : Int) (l : Int) d g) (hB : B ≤ w.heap.size) (hq : q < x.n) (hn : x.n ≤ 1000000000) (hcl : code.length = x.n) (hns : ns.length = x.nf) (hdep : 0 ≤ d.getD q 0 ∧ d.getD q 0 ≤ 32)
    (hS : ∀ W, Below B w W → Tab W ∧ AReads W x.fa ns ∧ Reads W x.ca (insV code)) :
    Calls Tryz.prog 75 #[.pointer (some ⟨x.b, 0, none⟩)] w (OverPost B x q (g.set q true) w (overL ns code d q l)) := by
  have hD1 := ((hD.setG q true).below (show Below (w.setCell ⟨x.g2, q, none⟩ (.bool true)).heap.size (w.setCell ⟨x.g2, q, none⟩ (.bool true)) (w.setCell ⟨x.g2, q, none⟩ (.bool true)).drew from (Below.refl _ _).drew))
  have hB1 : Below B w (w.setCell ⟨x.g2, q, none⟩ (.bool true)).drew := ((Below.refl _ _).setCell (p := ⟨x.g2, q, none⟩) hD.le.2.2 _).drew
  have a2 := hD.got hq
  have f2 := frozen_row (i := q) hD.gon
  obtain ⟨c3, c4, c5, c6, c7, c8, c9, hfz⟩ := hD.cells
  have hq' : (q : Int) < (x.n : Int) := by omega
  have hqc : q < code.length := by omega
  have HOV := hide (show overL ns code d q l = (match behL ns (code.getD q (0, 0)) (d.getD q 0) with | some beh => nextGo code.length beh (nextL (code.getD q (0, 0)).1 (code.getD q (0, 0)).2 ((q + 1 : Nat) : Int)) d l | none => .error 12) from rfl)
  have CB := fun (w : World) (op n : Int) (hD : Dp B w x (q : Int) (l : Int) d (g.set q true)) hT hA => behind_any B x q (l : Int) d (g.set q true) op n ns w hD hq hT hA hns hdep
  have CG := hide (fun (w : World) (l k : Nat) (dd : Int) (d : List Int) (hD : Dp B w x (q : Int) (l : Int) d (g.set q true)) hk => give_any B x (q : Int) l k dd d (g.set q true) w hD hk)
  have HCE : Hid (∀ (w : World) (l : Int) (d : List Int), Dp B w x (q : Int) l d (g.set q true) → w.cell? ⟨x.b, 3, none⟩ = some (.slice x.ca x.n x.cc) ∧ w.cell? ⟨x.b, 4, none⟩ = some (.int .i64 x.fn) ∧ w.cell? ⟨x.b, 5, none⟩ = some (.int .i64 (q : Int)) ∧ w.cell? ⟨x.b, 7, none⟩ = some (.slice (some ⟨x.g1, 0, none⟩) x.n x.n) ∧ x.b < w.heap.size ∧ x.g1 < w.heap.size) := fun w l d h => ⟨h.cells.1, h.cells.2.1, h.cells.2.2.1, h.cells.2.2.2.2.1, lt_row h.self, lt_row h.dep⟩
  have HAT : Hid (∀ (w : World) (l : Int) (d : List Int), Dp B w x (q : Int) l d (g.set q true) → ∀ k, k < x.n → w.cell? ⟨x.g1, k, none⟩ = some (.int .i64 (d.getD k 0))) := fun w l d h k hk => h.at hk
  have HLE := hide hD.le
  have HDL := hide hD.dl
  clear hD hfz
  obtain ⟨nm, ar, lo, ca, nn, cc, fn, fa, nf, fc, b, g1, g2⟩ := x
  simp only [] at *
  generalize g.getD q true = gq at a2
  rw [hcl] at HOV
  go_enter Tryz.func75, Tryz.ntmps75
  go_wp2
  go_region
  generalize (w.setCell ⟨g2, q, none⟩ (.bool true)).drew = w1 at hD1 hB1 ⊢
  clear c3 c4 c5 c6 c7 c8 c9 a2 f2
  obtain ⟨c3, c4, c5, c7, hbs, hgs⟩ := HCE.out _ _ _ hD1
  obtain ⟨hT1, hA1, hr1⟩ := hS _ hB1
  obtain ⟨cb, off, rfl, y0, y1⟩ := code_at hr1 hqc
  have hgd : code.getD q (0, 0) = code[q] := by simp [List.getD, hqc]
  rw [hgd] at HOV
  clear hgd hr1
  generalize code[q] = i at y0 y1 HOV
  obtain ⟨op, n⟩ := i
  simp only [] at *
  have hB1s : B ≤ w1.heap.size := Nat.le_trans hB hB1.size
  have HD1 := hide hD1
  have C53 := CB w1.drew op n (hD1.below (Below.refl _ _).drew) (hT1.below (Below.refl _ _).drew) (hA1.below (Below.refl _ _).drew)
  clear CB hD1 hT1 hA1
  generalize hbe : behL ns (op, n) (d.getD q 0) = be at C53 HOV
  have HBE := hide hbe
  clear hbe
  go_wp2
  cases be with
  | none =>
    have HE := hide (show overL ns code d q l = .error 12 from HOV.out)
    simp only [behE] at C53
    have hN : Below w1.heap.size w1 w1.drew := (Below.refl _ _).drew
    refine wp_region_held_drew (S := fun W => W.cell? ⟨b, 3, none⟩ = some (.slice (some ⟨cb, off, none⟩) nn cc) ∧ W.cell? ⟨b, 5, none⟩ = some (.int .i64 (q : Int)) ∧ W.cell? ⟨cb, off + q * 2, none⟩ = some (.int .i64 op) ∧ W.cell? ⟨cb, off + q * 2 + 1, none⟩ = some (.int .i64 n)) (by kernel_rfl) (⟨keep_cell c3 hN, keep_cell c5 hN, keep_cell y0 hN, keep_cell y1 hN⟩) (fun hHeld => ?_)
    refine takeD (i := 0) (d := some 15) (v := ?_) rfl rfl (by kernel_rfl) (by kernel_rfl) (by kernel_rfl) (fun _ _ _ h => h) (Or.inl ⟨by rfl, ?_⟩) (by assumption) ?_
    rotate_left
    · intro w hSw
      go_simp
      try (with_reducible rfl)
    try simp only [Act.put, List.setIfInBounds_toArray, List.set_cons_zero, List.set_cons_succ]
    refine takeD (i := 1) (d := some 16) (v := ?_) rfl rfl (by kernel_rfl) (by kernel_rfl) (by kernel_rfl) (fun _ _ _ h => h) (Or.inl ⟨by rfl, ?_⟩) (by assumption) ?_
    rotate_left
    · intro w hSw
      go_simp
      try (with_reducible rfl)
    try simp only [Act.put, List.setIfInBounds_toArray, List.set_cons_zero, List.set_cons_succ]
    refine takeD (i := 2) (d := some 17) (v := ?_) rfl rfl (by kernel_rfl) (by kernel_rfl) (by kernel_rfl) (fun _ _ _ h => h) (Or.inl ⟨by rfl, ?_⟩) (by assumption) ?_
    rotate_left
    · intro w hSw
      go_simp
      try (with_reducible rfl)
    try simp only [Act.put, List.setIfInBounds_toArray, List.set_cons_zero, List.set_cons_succ]
    refine takeD (i := 3) (d := some 18) (v := ?_) rfl rfl (by kernel_rfl) (by kernel_rfl) (by kernel_rfl) (fun _ _ _ h => h) (Or.inl ⟨by rfl, ?_⟩) (by assumption) ?_
    rotate_left
    · intro w hSw
      go_simp
      try (with_reducible rfl)
    try simp only [Act.put, List.setIfInBounds_toArray, List.set_cons_zero, List.set_cons_succ]
    refine takeD (i := 4) (d := some 19) (v := ?_) rfl rfl (by kernel_rfl) (by kernel_rfl) (by kernel_rfl) (fun _ _ _ h => h) (Or.inl ⟨by rfl, ?_⟩) (by assumption) ?_
    rotate_left
    · intro w hSw
      go_simp
      try (with_reducible rfl)
    try simp only [Act.put, List.setIfInBounds_toArray, List.set_cons_zero, List.set_cons_succ]
    refine takeD (i := 5) (d := some 20) (v := ?_) rfl rfl (by kernel_rfl) (by kernel_rfl) (by kernel_rfl) (fun _ _ _ h => h) (Or.inl ⟨by rfl, ?_⟩) (by assumption) ?_
    rotate_left
    · intro w hSw
      go_simp
      try (with_reducible rfl)
    try simp only [Act.put, List.setIfInBounds_toArray, List.set_cons_zero, List.set_cons_succ]
    refine takeD (i := 6) (d := some 21) (v := ?_) rfl rfl (by kernel_rfl) (by kernel_rfl) (by kernel_rfl) (fun _ _ _ h => h) (Or.inl ⟨by rfl, ?_⟩) (by assumption) ?_
    rotate_left
    · intro w hSw
      go_simp
      try (with_reducible rfl)
    try simp only [Act.put, List.setIfInBounds_toArray, List.set_cons_zero, List.set_cons_succ]
    refine takeD (i := 7) (d := some 22) (v := ?_) rfl rfl (by kernel_rfl) (by kernel_rfl) (by kernel_rfl) (fun _ _ _ h => h) (Or.inl ⟨by rfl, ?_⟩) (by assumption) ?_
    rotate_left
    · intro w hSw
      go_simp
      try (with_reducible rfl)
    try simp only [Act.put, List.setIfInBounds_toArray, List.set_cons_zero, List.set_cons_succ]
    refine takeD (i := 8) (d := some 23) (v := ?_) rfl rfl (by kernel_rfl) (by kernel_rfl) (by kernel_rfl) (fun _ _ _ h => h) (Or.inl ⟨by rfl, ?_⟩) (by assumption) ?_
    rotate_left
    · intro w hSw
      go_simp
      try (with_reducible rfl)
    try simp only [Act.put, List.setIfInBounds_toArray, List.set_cons_zero, List.set_cons_succ]
    refine takeD (i := 9) (d := some 24) (v := ?_) rfl rfl (by kernel_rfl) (by kernel_rfl) (by kernel_rfl) (fun _ _ _ h => h) (Or.inl ⟨by rfl, ?_⟩) (by assumption) ?_
    rotate_left
    · intro w hSw
      go_simp
      try (with_reducible rfl)
    try simp only [Act.put, List.setIfInBounds_toArray, List.set_cons_zero, List.set_cons_succ]
    refine takeD (i := 10) (d := some 25) (v := ?_) rfl rfl (by kernel_rfl) (by kernel_rfl) (by kernel_rfl) (fun _ _ _ h => h) (Or.inl ⟨by rfl, ?_⟩) (by assumption) ?_
    rotate_left
    · intro w hSw
      go_simp
      try (with_reducible rfl)
    try simp only [Act.put, List.setIfInBounds_toArray, List.set_cons_zero, List.set_cons_succ]
    refine takeD (i := 11) (d := some 26) (v := ?_) rfl rfl (by kernel_rfl) (by kernel_rfl) (by kernel_rfl) (fun _ _ _ h => h) (Or.inl ⟨by rfl, ?_⟩) (by assumption) ?_
    rotate_left
    · intro w hSw
      go_simp
      try (with_reducible rfl)
    try simp only [Act.put, List.setIfInBounds_toArray, List.set_cons_zero, List.set_cons_succ]
    refine takeD (i := 12) (d := some 27) (v := ?_) rfl rfl (by kernel_rfl) (by kernel_rfl) (by kernel_rfl) (fun _ _ _ h => h) (Or.inl ⟨by rfl, ?_⟩) (by assumption) ?_
    rotate_left
    · intro w hSw
      go_simp
      try (with_reducible rfl)
    try simp only [Act.put, List.setIfInBounds_toArray, List.set_cons_zero, List.set_cons_succ]
    refine wpAnyH_ready (rs := [13]) (by kernel_rfl) (by simp) ?_
    refine AllReadyH.cons rfl (fun K hK => ?_) AllReadyH.nil
    go_simp
    refine C53.mono ?_
    rintro e w2 ⟨rfl, hb⟩
    have hN := chain hN hb
    exact ⟨rfl, hB1.trans (hN.mono hB1s), by rw [HE.out]⟩
  | some beh =>
    simp only [behE] at C53
    have HOV := hide (show overL ns code d q l = nextGo nn beh (nextL op n ((q + 1 : Nat) : Int)) d l from HOV.out)
    refine wp_region_noPanic ?_
    have hN : Below w1.heap.size w1 w1.drew := (Below.refl _ _).drew
    refine wp_region_held_drew (S := fun W => W.cell? ⟨b, 3, none⟩ = some (.slice (some ⟨cb, off, none⟩) nn cc) ∧ W.cell? ⟨b, 5, none⟩ = some (.int .i64 (q : Int)) ∧ W.cell? ⟨cb, off + q * 2, none⟩ = some (.int .i64 op) ∧ W.cell? ⟨cb, off + q * 2 + 1, none⟩ = some (.int .i64 n)) (by kernel_rfl) (⟨keep_cell c3 hN, keep_cell c5 hN, keep_cell y0 hN, keep_cell y1 hN⟩) (fun hHeld => ?_)
    refine takeD (i := 0) (d := some 15) (v := ?_) rfl rfl (by kernel_rfl) (by kernel_rfl) (by kernel_rfl) (fun _ _ _ h => h) (Or.inl ⟨by rfl, ?_⟩) (by assumption) ?_
    rotate_left
    · intro w hSw
      go_simp
      try (with_reducible rfl)
    try simp only [Act.put, List.setIfInBounds_toArray, List.set_cons_zero, List.set_cons_succ]
    refine takeD (i := 1) (d := some 16) (v := ?_) rfl rfl (by kernel_rfl) (by kernel_rfl) (by kernel_rfl) (fun _ _ _ h => h) (Or.inl ⟨by rfl, ?_⟩) (by assumption) ?_
    rotate_left
    · intro w hSw
      go_simp
      try (with_reducible rfl)
    try simp only [Act.put, List.setIfInBounds_toArray, List.set_cons_zero, List.set_cons_succ]
    refine takeD (i := 2) (d := some 17) (v := ?_) rfl rfl (by kernel_rfl) (by kernel_rfl) (by kernel_rfl) (fun _ _ _ h => h) (Or.inl ⟨by rfl, ?_⟩) (by assumption) ?_
    rotate_left
    · intro w hSw
      go_simp
      try (with_reducible rfl)
    try simp only [Act.put, List.setIfInBounds_toArray, List.set_cons_zero, List.set_cons_succ]
    refine takeD (i := 3) (d := some 18) (v := ?_) rfl rfl (by kernel_rfl) (by kernel_rfl) (by kernel_rfl) (fun _ _ _ h => h) (Or.inl ⟨by rfl, ?_⟩) (by assumption) ?_
    rotate_left
    · intro w hSw
      go_simp
      try (with_reducible rfl)
    try simp only [Act.put, List.setIfInBounds_toArray, List.set_cons_zero, List.set_cons_succ]
    refine takeD (i := 4) (d := some 19) (v := ?_) rfl rfl (by kernel_rfl) (by kernel_rfl) (by kernel_rfl) (fun _ _ _ h => h) (Or.inl ⟨by rfl, ?_⟩) (by assumption) ?_
    rotate_left
    · intro w hSw
      go_simp
      try (with_reducible rfl)
    try simp only [Act.put, List.setIfInBounds_toArray, List.set_cons_zero, List.set_cons_succ]
    refine takeD (i := 5) (d := some 20) (v := ?_) rfl rfl (by kernel_rfl) (by kernel_rfl) (by kernel_rfl) (fun _ _ _ h => h) (Or.inl ⟨by rfl, ?_⟩) (by assumption) ?_
    rotate_left
    · intro w hSw
      go_simp
      try (with_reducible rfl)
    try simp only [Act.put, List.setIfInBounds_toArray, List.set_cons_zero, List.set_cons_succ]
    refine takeD (i := 6) (d := some 21) (v := ?_) rfl rfl (by kernel_rfl) (by kernel_rfl) (by kernel_rfl) (fun _ _ _ h => h) (Or.inl ⟨by rfl, ?_⟩) (by assumption) ?_
    rotate_left
    · intro w hSw
      go_simp
      try (with_reducible rfl)
    try simp only [Act.put, List.setIfInBounds_toArray, List.set_cons_zero, List.set_cons_succ]
    refine takeD (i := 7) (d := some 22) (v := ?_) rfl rfl (by kernel_rfl) (by kernel_rfl) (by kernel_rfl) (fun _ _ _ h => h) (Or.inl ⟨by rfl, ?_⟩) (by assumption) ?_
    rotate_left
    · intro w hSw
      go_simp
      try (with_reducible rfl)
    try simp only [Act.put, List.setIfInBounds_toArray, List.set_cons_zero, List.set_cons_succ]
    refine takeD (i := 8) (d := some 23) (v := ?_) rfl rfl (by kernel_rfl) (by kernel_rfl) (by kernel_rfl) (fun _ _ _ h => h) (Or.inl ⟨by rfl, ?_⟩) (by assumption) ?_
    rotate_left
    · intro w hSw
      go_simp
      try (with_reducible rfl)
    try simp only [Act.put, List.setIfInBounds_toArray, List.set_cons_zero, List.set_cons_succ]
    refine takeD (i := 9) (d := some 24) (v := ?_) rfl rfl (by kernel_rfl) (by kernel_rfl) (by kernel_rfl) (fun _ _ _ h => h) (Or.inl ⟨by rfl, ?_⟩) (by assumption) ?_
    rotate_left
    · intro w hSw
      go_simp
      try (with_reducible rfl)
    try simp only [Act.put, List.setIfInBounds_toArray, List.set_cons_zero, List.set_cons_succ]
    refine takeD (i := 10) (d := some 25) (v := ?_) rfl rfl (by kernel_rfl) (by kernel_rfl) (by kernel_rfl) (fun _ _ _ h => h) (Or.inl ⟨by rfl, ?_⟩) (by assumption) ?_
    rotate_left
    · intro w hSw
      go_simp
      try (with_reducible rfl)
    try simp only [Act.put, List.setIfInBounds_toArray, List.set_cons_zero, List.set_cons_succ]
    refine takeD (i := 11) (d := some 26) (v := ?_) rfl rfl (by kernel_rfl) (by kernel_rfl) (by kernel_rfl) (fun _ _ _ h => h) (Or.inl ⟨by rfl, ?_⟩) (by assumption) ?_
    rotate_left
    · intro w hSw
      go_simp
      try (with_reducible rfl)
    try simp only [Act.put, List.setIfInBounds_toArray, List.set_cons_zero, List.set_cons_succ]
    refine takeD (i := 12) (d := some 27) (v := ?_) rfl rfl (by kernel_rfl) (by kernel_rfl) (by kernel_rfl) (fun _ _ _ h => h) (Or.inl ⟨by rfl, ?_⟩) (by assumption) ?_
    rotate_left
    · intro w hSw
      go_simp
      try (with_reducible rfl)
    try simp only [Act.put, List.setIfInBounds_toArray, List.set_cons_zero, List.set_cons_succ]
    refine wpAnyH_ready (rs := [13]) (by kernel_rfl) (by simp) ?_
    refine AllReadyH.cons rfl (fun K hK => ?_) AllReadyH.nil
    go_simp
    refine C53.mono ?_
    rintro e w2 ⟨rfl, hb⟩
    have hN := chain hN hb
    go_wp2_with fail
    clear hHeld
    refine hK.out _ _ (⟨keep_cell c3 hN, keep_cell c5 hN, keep_cell y0 hN, keep_cell y1 hN⟩) (fun hHeld => ?_)
    clear hK K
    try simp only [Act.put, List.setIfInBounds_toArray, List.set_cons_zero, List.set_cons_succ]
    refine takeD (i := 14) (d := some 2) (v := ?_) rfl rfl (by kernel_rfl) (by kernel_rfl) (by kernel_rfl) (fun _ _ _ h => h) (Or.inl ⟨by rfl, ?_⟩) (by assumption) ?_
    rotate_left
    · intro w hSw
      go_simp
      try (with_reducible rfl)
    try simp only [Act.put, List.setIfInBounds_toArray, List.set_cons_zero, List.set_cons_succ]
    refine wpAnyH_done (by kernel_rfl) ?_ _
    refine NoPanic.normal ?_
    have HD2 := hide (HD1.out.below hN)
    have hB2 : Below B w w2 := hB1.trans (hN.mono hB1s)
    have hB2s : B ≤ w2.heap.size := Nat.le_trans hB hB2.size
    have z3 := keep_cell c3 hN
    have z5 := keep_cell c5 hN
    have v0 := keep_cell y0 hN
    have v1 := keep_cell y1 hN
    clear hHeld c3 c4 c5 c7 y0 y1 hN HD1 C53 hB1 hB1s hb
    obtain ⟨hT2, _, _⟩ := hS _ hB2
    have hw64 : wrap64 ((q : Int) + 1) = ((q + 1 : Nat) : Int) := by rw [IntWalk.wrap64_in _ (by omega)]; omega
    have C54 := next_any op n (q : Int) w2.drew (hT2.below (Below.refl _ _).drew)
    rw [hw64] at C54
    clear hw64 hT2
    have hl2 := nextL_len op n ((q + 1 : Nat) : Int)
    generalize nextL op n ((q + 1 : Nat) : Int) = L at C54 HOV hl2
    have HL2 := hide hl2
    clear hl2
    go_upto_region 2 with fail
    refine wp_region_noPanic ?_
    have hN : Below w2.heap.size w2 w2.drew := (Below.refl _ _).drew
    refine wp_region_held_drew (S := fun W => W.cell? ⟨b, 3, none⟩ = some (.slice (some ⟨cb, off, none⟩) nn cc) ∧ W.cell? ⟨b, 5, none⟩ = some (.int .i64 (q : Int)) ∧ W.cell? ⟨cb, off + q * 2, none⟩ = some (.int .i64 op) ∧ W.cell? ⟨cb, off + q * 2 + 1, none⟩ = some (.int .i64 n)) (by kernel_rfl) (⟨keep_cell z3 hN, keep_cell z5 hN, keep_cell v0 hN, keep_cell v1 hN⟩) (fun hHeld => ?_)
    refine takeD (i := 0) (d := some 29) (v := ?_) rfl rfl (by kernel_rfl) (by kernel_rfl) (by kernel_rfl) (fun _ _ _ h => h) (Or.inl ⟨by rfl, ?_⟩) (by assumption) ?_
    rotate_left
    · intro w hSw
      go_simp
      try (with_reducible rfl)
    try simp only [Act.put, List.setIfInBounds_toArray, List.set_cons_zero, List.set_cons_succ]
    refine takeD (i := 1) (d := some 30) (v := ?_) rfl rfl (by kernel_rfl) (by kernel_rfl) (by kernel_rfl) (fun _ _ _ h => h) (Or.inl ⟨by rfl, ?_⟩) (by assumption) ?_
    rotate_left
    · intro w hSw
      go_simp
      try (with_reducible rfl)
    try simp only [Act.put, List.setIfInBounds_toArray, List.set_cons_zero, List.set_cons_succ]
    refine takeD (i := 2) (d := some 31) (v := ?_) rfl rfl (by kernel_rfl) (by kernel_rfl) (by kernel_rfl) (fun _ _ _ h => h) (Or.inl ⟨by rfl, ?_⟩) (by assumption) ?_
    rotate_left
    · intro w hSw
      go_simp
      try (with_reducible rfl)
    try simp only [Act.put, List.setIfInBounds_toArray, List.set_cons_zero, List.set_cons_succ]
    refine takeD (i := 3) (d := some 32) (v := ?_) rfl rfl (by kernel_rfl) (by kernel_rfl) (by kernel_rfl) (fun _ _ _ h => h) (Or.inl ⟨by rfl, ?_⟩) (by assumption) ?_
    rotate_left
    · intro w hSw
      go_simp
      try (with_reducible rfl)
    try simp only [Act.put, List.setIfInBounds_toArray, List.set_cons_zero, List.set_cons_succ]
    refine takeD (i := 4) (d := some 33) (v := ?_) rfl rfl (by kernel_rfl) (by kernel_rfl) (by kernel_rfl) (fun _ _ _ h => h) (Or.inl ⟨by rfl, ?_⟩) (by assumption) ?_
    rotate_left
    · intro w hSw
      go_simp
      try (with_reducible rfl)
    try simp only [Act.put, List.setIfInBounds_toArray, List.set_cons_zero, List.set_cons_succ]
    refine takeD (i := 5) (d := some 34) (v := ?_) rfl rfl (by kernel_rfl) (by kernel_rfl) (by kernel_rfl) (fun _ _ _ h => h) (Or.inl ⟨by rfl, ?_⟩) (by assumption) ?_
    rotate_left
    · intro w hSw
      go_simp
      try (with_reducible rfl)
    try simp only [Act.put, List.setIfInBounds_toArray, List.set_cons_zero, List.set_cons_succ]
    refine takeD (i := 6) (d := some 35) (v := ?_) rfl rfl (by kernel_rfl) (by kernel_rfl) (by kernel_rfl) (fun _ _ _ h => h) (Or.inl ⟨by rfl, ?_⟩) (by assumption) ?_
    rotate_left
    · intro w hSw
      go_simp
      try (with_reducible rfl)
    try simp only [Act.put, List.setIfInBounds_toArray, List.set_cons_zero, List.set_cons_succ]
    refine takeD (i := 7) (d := some 36) (v := ?_) rfl rfl (by kernel_rfl) (by kernel_rfl) (by kernel_rfl) (fun _ _ _ h => h) (Or.inl ⟨by rfl, ?_⟩) (by assumption) ?_
    rotate_left
    · intro w hSw
      go_simp
      try (with_reducible rfl)
    try simp only [Act.put, List.setIfInBounds_toArray, List.set_cons_zero, List.set_cons_succ]
    refine takeD (i := 8) (d := some 37) (v := ?_) rfl rfl (by kernel_rfl) (by kernel_rfl) (by kernel_rfl) (fun _ _ _ h => h) (Or.inl ⟨by rfl, ?_⟩) (by assumption) ?_
    rotate_left
    · intro w hSw
      go_simp
      try (with_reducible rfl)
    try simp only [Act.put, List.setIfInBounds_toArray, List.set_cons_zero, List.set_cons_succ]
    refine takeD (i := 9) (d := some 38) (v := ?_) rfl rfl (by kernel_rfl) (by kernel_rfl) (by kernel_rfl) (fun _ _ _ h => h) (Or.inl ⟨by rfl, ?_⟩) (by assumption) ?_
    rotate_left
    · intro w hSw
      go_simp
      try (with_reducible rfl)
    try simp only [Act.put, List.setIfInBounds_toArray, List.set_cons_zero, List.set_cons_succ]
    refine takeD (i := 10) (d := some 39) (v := ?_) rfl rfl (by kernel_rfl) (by kernel_rfl) (by kernel_rfl) (fun _ _ _ h => h) (Or.inl ⟨by rfl, ?_⟩) (by assumption) ?_
    rotate_left
    · intro w hSw
      go_simp
      try (with_reducible rfl)
    try simp only [Act.put, List.setIfInBounds_toArray, List.set_cons_zero, List.set_cons_succ]
    refine takeD (i := 11) (d := some 40) (v := ?_) rfl rfl (by kernel_rfl) (by kernel_rfl) (by kernel_rfl) (fun _ _ _ h => h) (Or.inl ⟨by rfl, ?_⟩) (by assumption) ?_
    rotate_left
    · intro w hSw
      go_simp
      try (with_reducible rfl)
    try simp only [Act.put, List.setIfInBounds_toArray, List.set_cons_zero, List.set_cons_succ]
    refine takeD (i := 12) (d := some 41) (v := ?_) rfl rfl (by kernel_rfl) (by kernel_rfl) (by kernel_rfl) (fun _ _ _ h => h) (Or.inl ⟨by rfl, ?_⟩) (by assumption) ?_
    rotate_left
    · intro w hSw
      go_simp
      try (with_reducible rfl)
    try simp only [Act.put, List.setIfInBounds_toArray, List.set_cons_zero, List.set_cons_succ]
    refine takeD (i := 13) (d := some 42) (v := ?_) rfl rfl (by kernel_rfl) (by kernel_rfl) (by kernel_rfl) (fun _ _ _ h => h) (Or.inl ⟨by rfl, ?_⟩) (by assumption) ?_
    rotate_left
    · intro w hSw
      go_simp
      try (with_reducible rfl)
    try simp only [Act.put, List.setIfInBounds_toArray, List.set_cons_zero, List.set_cons_succ]
    refine takeD (i := 14) (d := some 43) (v := ?_) rfl rfl (by kernel_rfl) (by kernel_rfl) (by kernel_rfl) (fun _ _ _ h => h) (Or.inl ⟨by rfl, ?_⟩) (by assumption) ?_
    rotate_left
    · intro w hSw
      go_simp
      try (with_reducible rfl)
    try simp only [Act.put, List.setIfInBounds_toArray, List.set_cons_zero, List.set_cons_succ]
    refine takeD (i := 15) (d := some 44) (v := ?_) rfl rfl (by kernel_rfl) (by kernel_rfl) (by kernel_rfl) (fun _ _ _ h => h) (Or.inl ⟨by rfl, ?_⟩) (by assumption) ?_
    rotate_left
    · intro w hSw
      go_simp
      try (with_reducible rfl)
    try simp only [Act.put, List.setIfInBounds_toArray, List.set_cons_zero, List.set_cons_succ]
    refine takeD (i := 16) (d := some 45) (v := ?_) rfl rfl (by kernel_rfl) (by kernel_rfl) (by kernel_rfl) (fun _ _ _ h => h) (Or.inl ⟨by rfl, ?_⟩) (by assumption) ?_
    rotate_left
    · intro w hSw
      go_simp
      try (with_reducible rfl)
    try simp only [Act.put, List.setIfInBounds_toArray, List.set_cons_zero, List.set_cons_succ]
    refine takeD (i := 19) (d := some 48) (v := ?_) rfl rfl (by kernel_rfl) (by kernel_rfl) (by kernel_rfl) (fun _ _ _ h => h) (Or.inl ⟨by rfl, ?_⟩) (by assumption) ?_
    rotate_left
    · intro w hSw
      go_simp
      try (with_reducible rfl)
    try simp only [Act.put, List.setIfInBounds_toArray, List.set_cons_zero, List.set_cons_succ]
    refine wpAnyH_ready (rs := [17]) (by kernel_rfl) (by simp) ?_
    refine AllReadyH.cons rfl (fun K hK => ?_) AllReadyH.nil
    go_simp
    refine C54.mono ?_
    rintro e w3 ⟨v, rfl, hO3⟩
    obtain ⟨la, lc, rfl, hL3⟩ := LR.of_own hO3
    have hb := hO3.2
    have hN := chain hN hb
    clear hO3
    go_wp2_with fail
    clear hHeld
    refine hK.out _ _ (⟨keep_cell z3 hN, keep_cell z5 hN, keep_cell v0 hN, keep_cell v1 hN⟩) (fun hHeld => ?_)
    clear hK K
    try simp only [Act.put, List.setIfInBounds_toArray, List.set_cons_zero, List.set_cons_succ]
    refine takeD (i := 18) (d := some 47) (v := ?_) rfl rfl (by kernel_rfl) (by kernel_rfl) (by kernel_rfl) (fun _ _ _ h => h) (Or.inl ⟨by rfl, ?_⟩) (by assumption) ?_
    rotate_left
    · intro w hSw
      go_simp
      try (with_reducible rfl)
    try simp only [Act.put, List.setIfInBounds_toArray, List.set_cons_zero, List.set_cons_succ]
    refine wpAnyH_done (by kernel_rfl) ?_ _
    refine NoPanic.normal ?_
    have HD3 := hide (HD2.out.below hN)
    have hB3 : Hid (Below B w w3) := hB2.trans (hN.mono hB2s)
    obtain ⟨_, _, _, _, hbs2, hgs2⟩ := HCE.out _ _ _ HD2.out
    have hBn : w2.drew.heap.size = w2.heap.size := rfl
    rw [hBn] at hL3
    have HL3 := hide hL3
    have HDS := hide hS
    have hl2 := HL2.out
    generalize hll : L.length = ll at hl2 ⊢
    have HLL := hide hll
    clear hHeld z3 z5 v0 v1 hN hb HD2 hB2 hB2s C54 hL3 hS hll hbs hgs hBn
    go_wp2
    go_loopw [48] (fun ix wr => Hid (Below B w wr) ∧ ∃ k : Nat, k ≤ ll ∧ ix = .int .i64 (k : Nat) ∧ Hid (LR w2.heap.size wr la L) ∧ Hid (∃ dk lk, Dp B wr ⟨nm, ar, lo, some ⟨cb, off, none⟩, nn, cc, fn, fa, nf, fc, b, g1, g2⟩ (q : Int) ((lk : Nat) : Int) dk (g.set q true) ∧ overL ns code d q l = nextGo nn beh (L.drop k) dk lk)) (fun ix _ => ll - (intOf ix).toNat)
    case atStart => exact ⟨hB3, 0, Nat.zero_le _, rfl, HL3, d, l, HD3.out, by rw [HOV.out]; rfl⟩
    case round =>
      obtain ⟨hbw, k, hk, rfl, hLr, hx⟩ := hrel
      obtain ⟨dk, lk, hDr, hov⟩ := hx.out
      clear hx HL3 HD3 hB3 HOV
      have HOV := hide hov
      clear hov
      by_cases hlt : k < ll
      · have hlt' : (k : Int) < (ll : Int) := by omega
        have hkL : k < L.length := by rw [HLL.out]; exact hlt
        have hLk : L[k]? = some L[k] := List.getElem?_eq_getElem hkL
        have hdr : L.drop k = L[k] :: L.drop (k + 1) := List.drop_eq_getElem_cons hkL
        obtain ⟨gb, lo2, hla, hgb, hLc⟩ : ∃ gb off, la = some ⟨gb, off, none⟩ ∧ w2.heap.size ≤ gb ∧ ∀ j t, L[j]? = some t → wr.cell? ⟨gb, off + j, none⟩ = some (.int .i64 t) := by
          rcases hLr.out with h | h
          · rw [h] at hkL; simp at hkL
          · exact h
        subst hla
        have yt := hLc k _ hLk
        have hdr2 := hide hdr
        clear hLc hLk hdr
        generalize L[k] = tt at yt hdr2
        have HOV := hide (show overL ns code d q l = nextGo nn beh (tt :: L.drop (k + 1)) dk lk by rw [HOV.out, hdr2.out])
        clear hdr2
        obtain ⟨c3, c4, c5, c7, hbs, hgs⟩ := HCE.out _ _ _ hDr
        have HDr := hide hDr
        have CH := fun w => has_any (nn : Int) tt (by omega) w
        have hBr : B ≤ wr.heap.size := Nat.le_trans hB hbw.out.size
        clear hDr
        go_upto_region 5 with fail
        cases hh : hasB (nn : Int) tt with
        | false =>
          have HE := hide (show overL ns code d q l = .error 11 by rw [HOV.out, nextGo, if_neg (by rw [hh]; simp)])
          rw [hh] at CH
          have hN : Below wr.heap.size wr wr.drew := (Below.refl _ _).drew
          refine wp_region_held_drew (S := fun W => W.cell? ⟨b, 3, none⟩ = some (.slice (some ⟨cb, off, none⟩) nn cc) ∧ W.cell? ⟨b, 4, none⟩ = some (.int .i64 fn) ∧ W.cell? ⟨b, 5, none⟩ = some (.int .i64 (q : Int))) (by kernel_rfl) (⟨keep_cell c3 hN, keep_cell c4 hN, keep_cell c5 hN⟩) (fun hHeld => ?_)
          refine takeD (i := 0) (d := some 52) (v := ?_) rfl rfl (by kernel_rfl) (by kernel_rfl) (by kernel_rfl) (fun _ _ _ h => h) (Or.inl ⟨by rfl, ?_⟩) (by assumption) ?_
          rotate_left
          · intro w hSw
            go_simp
            try (with_reducible rfl)
          try simp only [Act.put, List.setIfInBounds_toArray, List.set_cons_zero, List.set_cons_succ]
          refine takeD (i := 1) (d := some 53) (v := ?_) rfl rfl (by kernel_rfl) (by kernel_rfl) (by kernel_rfl) (fun _ _ _ h => h) (Or.inl ⟨by rfl, ?_⟩) (by assumption) ?_
          rotate_left
          · intro w hSw
            go_simp
            try (with_reducible rfl)
          try simp only [Act.put, List.setIfInBounds_toArray, List.set_cons_zero, List.set_cons_succ]
          refine takeD (i := 2) (d := some 54) (v := ?_) rfl rfl (by kernel_rfl) (by kernel_rfl) (by kernel_rfl) (fun _ _ _ h => h) (Or.inl ⟨by rfl, ?_⟩) (by assumption) ?_
          rotate_left
          · intro w hSw
            go_simp
            try (with_reducible rfl)
          try simp only [Act.put, List.setIfInBounds_toArray, List.set_cons_zero, List.set_cons_succ]
          refine takeD (i := 3) (d := some 55) (v := ?_) rfl rfl (by kernel_rfl) (by kernel_rfl) (by kernel_rfl) (fun _ _ _ h => h) (Or.inl ⟨by rfl, ?_⟩) (by assumption) ?_
          rotate_left
          · intro w hSw
            go_simp
            try (with_reducible rfl)
          try simp only [Act.put, List.setIfInBounds_toArray, List.set_cons_zero, List.set_cons_succ]
          refine takeD (i := 4) (d := some 56) (v := ?_) rfl rfl (by kernel_rfl) (by kernel_rfl) (by kernel_rfl) (fun _ _ _ h => h) (Or.inl ⟨by rfl, ?_⟩) (by assumption) ?_
          rotate_left
          · intro w hSw
            go_simp
            try (with_reducible rfl)
          try simp only [Act.put, List.setIfInBounds_toArray, List.set_cons_zero, List.set_cons_succ]
          refine takeD (i := 5) (d := some 57) (v := ?_) rfl rfl (by kernel_rfl) (by kernel_rfl) (by kernel_rfl) (fun _ _ _ h => h) (Or.inl ⟨by rfl, ?_⟩) (by assumption) ?_
          rotate_left
          · intro w hSw
            go_simp
            try (with_reducible rfl)
          try simp only [Act.put, List.setIfInBounds_toArray, List.set_cons_zero, List.set_cons_succ]
          refine takeD (i := 6) (d := some 58) (v := ?_) rfl rfl (by kernel_rfl) (by kernel_rfl) (by kernel_rfl) (fun _ _ _ h => h) (Or.inl ⟨by rfl, ?_⟩) (by assumption) ?_
          rotate_left
          · intro w hSw
            go_simp
            try (with_reducible rfl)
          try simp only [Act.put, List.setIfInBounds_toArray, List.set_cons_zero, List.set_cons_succ]
          refine takeD (i := 7) (d := some 59) (v := ?_) rfl rfl (by kernel_rfl) (by kernel_rfl) (by kernel_rfl) (fun _ _ _ h => h) (Or.inl ⟨by rfl, ?_⟩) (by assumption) ?_
          rotate_left
          · intro w hSw
            go_simp
            try (with_reducible rfl)
          try simp only [Act.put, List.setIfInBounds_toArray, List.set_cons_zero, List.set_cons_succ]
          refine takeD (i := 8) (d := some 60) (v := ?_) rfl rfl (by kernel_rfl) (by kernel_rfl) (by kernel_rfl) (fun _ _ _ h => h) (Or.inl ⟨by rfl, ?_⟩) (by assumption) ?_
          rotate_left
          · intro w hSw
            go_simp
            try (with_reducible rfl)
          try simp only [Act.put, List.setIfInBounds_toArray, List.set_cons_zero, List.set_cons_succ]
          refine takeD (i := 9) (d := some 61) (v := ?_) rfl rfl (by kernel_rfl) (by kernel_rfl) (by kernel_rfl) (fun _ _ _ h => h) (Or.inl ⟨by rfl, ?_⟩) (by assumption) ?_
          rotate_left
          · intro w hSw
            go_simp
            try (with_reducible rfl)
          try simp only [Act.put, List.setIfInBounds_toArray, List.set_cons_zero, List.set_cons_succ]
          refine takeD (i := 10) (d := some 62) (v := ?_) rfl rfl (by kernel_rfl) (by kernel_rfl) (by kernel_rfl) (fun _ _ _ h => h) (Or.inl ⟨by rfl, ?_⟩) (by assumption) ?_
          rotate_left
          · intro w hSw
            go_simp
            try (with_reducible rfl)
          try simp only [Act.put, List.setIfInBounds_toArray, List.set_cons_zero, List.set_cons_succ]
          refine wpAnyH_ready (rs := [11]) (by kernel_rfl) (by simp) ?_
          refine AllReadyH.cons rfl (fun K hK => ?_) AllReadyH.nil
          go_simp
          refine (CH _).mono ?_
          rintro e w4 ⟨rfl, hw4⟩
          replace hw4 := hw4.symm
          subst hw4
          go_wp2_with fail
          refine hK.out _ _ hHeld (fun hHeld => ?_)
          clear hK K
          try simp only [Act.put, List.setIfInBounds_toArray, List.set_cons_zero, List.set_cons_succ]
          refine wpAnyH_ready (rs := [12]) (by kernel_rfl) (by simp) ?_
          refine AllReadyH.cons rfl (fun K hK => ?_) AllReadyH.nil
          go_simp
          refine (need_no fn (q : Int) 11 _).mono ?_
          rintro e w5 ⟨rfl, hb⟩
          have hN := chain hN hb
          exact ⟨rfl, hbw.out.trans (hN.mono hBr), by rw [HE.out]⟩
        | true =>
          obtain ⟨j, rfl, hj⟩ := hasB_nat hh
          have HOV := hide (show overL ns code d q l = if dk.getD j 0 = -1 then nextGo nn beh (L.drop (k + 1)) (dk.set j beh) (min lk j) else if dk.getD j 0 = beh then nextGo nn beh (L.drop (k + 1)) dk lk else .error 12 by rw [HOV.out, nextGo, if_pos hh]; rfl)
          rw [hh] at CH
          clear hh
          refine wp_region_noPanic ?_
          have hN : Below wr.heap.size wr wr.drew := (Below.refl _ _).drew
          refine wp_region_held_drew (S := fun W => W.cell? ⟨b, 3, none⟩ = some (.slice (some ⟨cb, off, none⟩) nn cc) ∧ W.cell? ⟨b, 4, none⟩ = some (.int .i64 fn) ∧ W.cell? ⟨b, 5, none⟩ = some (.int .i64 (q : Int))) (by kernel_rfl) (⟨keep_cell c3 hN, keep_cell c4 hN, keep_cell c5 hN⟩) (fun hHeld => ?_)
          refine takeD (i := 0) (d := some 52) (v := ?_) rfl rfl (by kernel_rfl) (by kernel_rfl) (by kernel_rfl) (fun _ _ _ h => h) (Or.inl ⟨by rfl, ?_⟩) (by assumption) ?_
          rotate_left
          · intro w hSw
            go_simp
            try (with_reducible rfl)
          try simp only [Act.put, List.setIfInBounds_toArray, List.set_cons_zero, List.set_cons_succ]
          refine takeD (i := 1) (d := some 53) (v := ?_) rfl rfl (by kernel_rfl) (by kernel_rfl) (by kernel_rfl) (fun _ _ _ h => h) (Or.inl ⟨by rfl, ?_⟩) (by assumption) ?_
          rotate_left
          · intro w hSw
            go_simp
            try (with_reducible rfl)
          try simp only [Act.put, List.setIfInBounds_toArray, List.set_cons_zero, List.set_cons_succ]
          refine takeD (i := 2) (d := some 54) (v := ?_) rfl rfl (by kernel_rfl) (by kernel_rfl) (by kernel_rfl) (fun _ _ _ h => h) (Or.inl ⟨by rfl, ?_⟩) (by assumption) ?_
          rotate_left
          · intro w hSw
            go_simp
            try (with_reducible rfl)
          try simp only [Act.put, List.setIfInBounds_toArray, List.set_cons_zero, List.set_cons_succ]
          refine takeD (i := 3) (d := some 55) (v := ?_) rfl rfl (by kernel_rfl) (by kernel_rfl) (by kernel_rfl) (fun _ _ _ h => h) (Or.inl ⟨by rfl, ?_⟩) (by assumption) ?_
          rotate_left
          · intro w hSw
            go_simp
            try (with_reducible rfl)
          try simp only [Act.put, List.setIfInBounds_toArray, List.set_cons_zero, List.set_cons_succ]
          refine takeD (i := 4) (d := some 56) (v := ?_) rfl rfl (by kernel_rfl) (by kernel_rfl) (by kernel_rfl) (fun _ _ _ h => h) (Or.inl ⟨by rfl, ?_⟩) (by assumption) ?_
          rotate_left
          · intro w hSw
            go_simp
            try (with_reducible rfl)
          try simp only [Act.put, List.setIfInBounds_toArray, List.set_cons_zero, List.set_cons_succ]
          refine takeD (i := 5) (d := some 57) (v := ?_) rfl rfl (by kernel_rfl) (by kernel_rfl) (by kernel_rfl) (fun _ _ _ h => h) (Or.inl ⟨by rfl, ?_⟩) (by assumption) ?_
          rotate_left
          · intro w hSw
            go_simp
            try (with_reducible rfl)
          try simp only [Act.put, List.setIfInBounds_toArray, List.set_cons_zero, List.set_cons_succ]
          refine takeD (i := 6) (d := some 58) (v := ?_) rfl rfl (by kernel_rfl) (by kernel_rfl) (by kernel_rfl) (fun _ _ _ h => h) (Or.inl ⟨by rfl, ?_⟩) (by assumption) ?_
          rotate_left
          · intro w hSw
            go_simp
            try (with_reducible rfl)
          try simp only [Act.put, List.setIfInBounds_toArray, List.set_cons_zero, List.set_cons_succ]
          refine takeD (i := 7) (d := some 59) (v := ?_) rfl rfl (by kernel_rfl) (by kernel_rfl) (by kernel_rfl) (fun _ _ _ h => h) (Or.inl ⟨by rfl, ?_⟩) (by assumption) ?_
          rotate_left
          · intro w hSw
            go_simp
            try (with_reducible rfl)
          try simp only [Act.put, List.setIfInBounds_toArray, List.set_cons_zero, List.set_cons_succ]
          refine takeD (i := 8) (d := some 60) (v := ?_) rfl rfl (by kernel_rfl) (by kernel_rfl) (by kernel_rfl) (fun _ _ _ h => h) (Or.inl ⟨by rfl, ?_⟩) (by assumption) ?_
          rotate_left
          · intro w hSw
            go_simp
            try (with_reducible rfl)
          try simp only [Act.put, List.setIfInBounds_toArray, List.set_cons_zero, List.set_cons_succ]
          refine takeD (i := 9) (d := some 61) (v := ?_) rfl rfl (by kernel_rfl) (by kernel_rfl) (by kernel_rfl) (fun _ _ _ h => h) (Or.inl ⟨by rfl, ?_⟩) (by assumption) ?_
          rotate_left
          · intro w hSw
            go_simp
            try (with_reducible rfl)
          try simp only [Act.put, List.setIfInBounds_toArray, List.set_cons_zero, List.set_cons_succ]
          refine takeD (i := 10) (d := some 62) (v := ?_) rfl rfl (by kernel_rfl) (by kernel_rfl) (by kernel_rfl) (fun _ _ _ h => h) (Or.inl ⟨by rfl, ?_⟩) (by assumption) ?_
          rotate_left
          · intro w hSw
            go_simp
            try (with_reducible rfl)
          try simp only [Act.put, List.setIfInBounds_toArray, List.set_cons_zero, List.set_cons_succ]
          refine wpAnyH_ready (rs := [11]) (by kernel_rfl) (by simp) ?_
          refine AllReadyH.cons rfl (fun K hK => ?_) AllReadyH.nil
          go_simp
          refine (CH _).mono ?_
          rintro e w4 ⟨rfl, hw4⟩
          replace hw4 := hw4.symm
          subst hw4
          go_wp2_with fail
          refine hK.out _ _ hHeld (fun hHeld => ?_)
          clear hK K
          try simp only [Act.put, List.setIfInBounds_toArray, List.set_cons_zero, List.set_cons_succ]
          refine wpAnyH_ready (rs := [12]) (by kernel_rfl) (by simp) ?_
          refine AllReadyH.cons rfl (fun K hK => ?_) AllReadyH.nil
          go_simp
          refine (need_yes fn (q : Int) 11 _).mono ?_
          rintro e w5 ⟨rfl, hb⟩
          have hN := chain hN hb
          go_wp2_with fail
          clear hHeld
          refine hK.out _ _ (⟨keep_cell c3 hN, keep_cell c4 hN, keep_cell c5 hN⟩) (fun hHeld => ?_)
          clear hK K
          try simp only [Act.put, List.setIfInBounds_toArray, List.set_cons_zero, List.set_cons_succ]
          refine wpAnyH_done (by kernel_rfl) ?_ _
          refine NoPanic.normal ?_
          have HD5 := hide (HDr.out.below hN)
          have HL5 := hide (hLr.out.below hN)
          have hB5 : Below B w w5 := hbw.out.trans (hN.mono hBr)
          have hB5s : B ≤ w5.heap.size := Nat.le_trans hB hB5.size
          clear hHeld c3 c4 c5 c7 hN hb CH HDr hLr hbw yt
          obtain ⟨c3, c4, c5, c7, _, _⟩ := HCE.out _ _ _ HD5.out
          have aj := HAT.out _ _ _ HD5.out j hj
          have hj' : (j : Int) < (nn : Int) := by omega
          generalize hdk : dk.getD j 0 = v at aj HOV
          have HDK := hide hdk
          clear hdk
          cases hm : (v == -1) with
          | true =>
            have HOV := hide (show overL ns code d q l = nextGo nn beh (L.drop (k + 1)) (dk.set j beh) (min lk j) by rw [HOV.out, if_pos (by simpa using hm)])
            have C38 := CG.out _ lk j beh dk HD5.out hj
            go_wp2_with (go_at_call 73; go_must (refine C38.mono ?_; rintro e w6 ⟨rfl, hD6, hb6, hfar⟩; refine Hid.out ?_))
            refine Lib.hid ?_
            have HD6 := hide hD6
            have HL6 := hide (HL5.out.far hbs2 hgs2 hfar)
            have hB6 : Below B w w6 := hB5.trans hb6
            have hB6s : B ≤ w6.heap.size := Nat.le_trans hB hB6.size
            clear C38 hD6 hfar hb6 HD5 HL5 hB5 hB5s c3 c4 c5 c7 aj
            obtain ⟨c3, c4, c5, c7, _, _⟩ := HCE.out _ _ _ HD6.out
            have aj := HAT.out _ _ _ HD6.out j hj
            have hbb : (dk.set j beh).getD j 0 = beh := by
              have : j < dk.length := by have := HD6.out.dl; simp at this; omega
              simp [List.getD, this]
            rw [hbb] at aj
            have hbq : (beh == beh) = true := by simp
            clear hbb hm
            go_upto_region 8 with fail
            refine wp_region_noPanic ?_
            have hN : Below w6.heap.size w6 w6.drew := (Below.refl _ _).drew
            refine wp_region_held_drew (S := fun W => W.cell? ⟨b, 4, none⟩ = some (.int .i64 fn) ∧ W.cell? ⟨b, 5, none⟩ = some (.int .i64 (q : Int)) ∧ W.cell? ⟨b, 7, none⟩ = some (.slice (some ⟨g1, 0, none⟩) nn nn) ∧ W.cell? ⟨g1, j, none⟩ = some (.int .i64 beh)) (by kernel_rfl) (⟨keep_cell c4 hN, keep_cell c5 hN, keep_cell c7 hN, keep_cell aj hN⟩) (fun hHeld => ?_)
            refine takeD (i := 0) (d := some 77) (v := ?_) rfl rfl (by kernel_rfl) (by kernel_rfl) (by kernel_rfl) (fun _ _ _ h => h) (Or.inl ⟨by rfl, ?_⟩) (by assumption) ?_
            rotate_left
            · intro w hSw
              go_simp
              try (with_reducible rfl)
            try simp only [Act.put, List.setIfInBounds_toArray, List.set_cons_zero, List.set_cons_succ]
            refine takeD (i := 1) (d := some 78) (v := ?_) rfl rfl (by kernel_rfl) (by kernel_rfl) (by kernel_rfl) (fun _ _ _ h => h) (Or.inl ⟨by rfl, ?_⟩) (by assumption) ?_
            rotate_left
            · intro w hSw
              go_simp
              try (with_reducible rfl)
            try simp only [Act.put, List.setIfInBounds_toArray, List.set_cons_zero, List.set_cons_succ]
            refine takeD (i := 2) (d := some 79) (v := ?_) rfl rfl (by kernel_rfl) (by kernel_rfl) (by kernel_rfl) (fun _ _ _ h => h) (Or.inl ⟨by rfl, ?_⟩) (by assumption) ?_
            rotate_left
            · intro w hSw
              go_simp
              try (with_reducible rfl)
            try simp only [Act.put, List.setIfInBounds_toArray, List.set_cons_zero, List.set_cons_succ]
            refine takeD (i := 3) (d := some 80) (v := ?_) rfl rfl (by kernel_rfl) (by kernel_rfl) (by kernel_rfl) (fun _ _ _ h => h) (Or.inl ⟨by rfl, ?_⟩) (by assumption) ?_
            rotate_left
            · intro w hSw
              go_simp
              try (with_reducible rfl)
            try simp only [Act.put, List.setIfInBounds_toArray, List.set_cons_zero, List.set_cons_succ]
            refine takeD (i := 4) (d := some 81) (v := ?_) rfl rfl (by kernel_rfl) (by kernel_rfl) (by kernel_rfl) (fun _ _ _ h => h) (Or.inl ⟨by rfl, ?_⟩) (by assumption) ?_
            rotate_left
            · intro w hSw
              go_simp
              try (with_reducible rfl)
            try simp only [Act.put, List.setIfInBounds_toArray, List.set_cons_zero, List.set_cons_succ]
            refine takeD (i := 5) (d := some 82) (v := ?_) rfl rfl (by kernel_rfl) (by kernel_rfl) (by kernel_rfl) (fun _ _ _ h => h) (Or.inl ⟨by rfl, ?_⟩) (by assumption) ?_
            rotate_left
            · intro w hSw
              go_simp
              try (with_reducible rfl)
            try simp only [Act.put, List.setIfInBounds_toArray, List.set_cons_zero, List.set_cons_succ]
            refine takeD (i := 6) (d := some 83) (v := ?_) rfl rfl (by kernel_rfl) (by kernel_rfl) (by kernel_rfl) (fun _ _ _ h => h) (Or.inl ⟨by rfl, ?_⟩) (by assumption) ?_
            rotate_left
            · intro w hSw
              go_simp
              try (with_reducible rfl)
            try simp only [Act.put, List.setIfInBounds_toArray, List.set_cons_zero, List.set_cons_succ]
            refine takeD (i := 7) (d := some 84) (v := ?_) rfl rfl (by kernel_rfl) (by kernel_rfl) (by kernel_rfl) (fun _ _ _ h => h) (Or.inl ⟨by rfl, ?_⟩) (by assumption) ?_
            rotate_left
            · intro w hSw
              go_simp
              try (with_reducible rfl)
            try simp only [Act.put, List.setIfInBounds_toArray, List.set_cons_zero, List.set_cons_succ]
            refine takeD (i := 8) (d := some 85) (v := ?_) rfl rfl (by kernel_rfl) (by kernel_rfl) (by kernel_rfl) (fun _ _ _ h => h) (Or.inl ⟨by rfl, ?_⟩) (by assumption) ?_
            rotate_left
            · intro w hSw
              go_simp
              try (with_reducible rfl)
            try simp only [Act.put, List.setIfInBounds_toArray, List.set_cons_zero, List.set_cons_succ]
            refine takeD (i := 9) (d := some 86) (v := ?_) rfl rfl (by kernel_rfl) (by kernel_rfl) (by kernel_rfl) (fun _ _ _ h => h) (Or.inl ⟨by rfl, ?_⟩) (by assumption) ?_
            rotate_left
            · intro w hSw
              go_simp
              try (with_reducible rfl)
            try simp only [Act.put, List.setIfInBounds_toArray, List.set_cons_zero, List.set_cons_succ]
            refine takeD (i := 10) (d := some 87) (v := ?_) rfl rfl (by kernel_rfl) (by kernel_rfl) (by kernel_rfl) (fun _ _ _ h => h) (Or.inl ⟨by rfl, ?_⟩) (by assumption) ?_
            rotate_left
            · intro w hSw
              go_simp
              try (with_reducible rfl)
            try simp only [Act.put, List.setIfInBounds_toArray, List.set_cons_zero, List.set_cons_succ]
            refine takeD (i := 11) (d := some 88) (v := ?_) rfl rfl (by kernel_rfl) (by kernel_rfl) (by kernel_rfl) (fun _ _ _ h => h) (Or.inl ⟨by rfl, ?_⟩) (by assumption) ?_
            rotate_left
            · intro w hSw
              go_simp
              try (with_reducible rfl)
            try simp only [Act.put, List.setIfInBounds_toArray, List.set_cons_zero, List.set_cons_succ]
            refine takeD (i := 12) (d := some 89) (v := ?_) rfl rfl (by kernel_rfl) (by kernel_rfl) (by kernel_rfl) (fun _ _ _ h => h) (Or.inl ⟨by rfl, ?_⟩) (by assumption) ?_
            rotate_left
            · intro w hSw
              go_simp
              try (with_reducible rfl)
            try simp only [Act.put, List.setIfInBounds_toArray, List.set_cons_zero, List.set_cons_succ]
            refine wpAnyH_ready (rs := [13]) (by kernel_rfl) (by simp) ?_
            refine AllReadyH.cons rfl (fun K hK => ?_) AllReadyH.nil
            go_simp
            refine (need_yes fn (q : Int) 12 _).mono ?_
            rintro e w7 ⟨rfl, hb⟩
            have hN := chain hN hb
            go_wp2_with fail
            clear hHeld
            refine hK.out _ _ (⟨keep_cell c4 hN, keep_cell c5 hN, keep_cell c7 hN, keep_cell aj hN⟩) (fun hHeld => ?_)
            clear hK K
            try simp only [Act.put, List.setIfInBounds_toArray, List.set_cons_zero, List.set_cons_succ]
            refine wpAnyH_done (by kernel_rfl) ?_ _
            refine NoPanic.normal ?_
            have HD7 := hide (HD6.out.below hN)
            have HL7 := hide (HL6.out.below hN)
            have hB7 : Hid (Below B w w7) := hB6.trans (hN.mono hB6s)
            clear hHeld c3 c4 c5 c7 aj hN hb
            go_wp2
            go_roundw
            case rel => exact ⟨hB7, k + 1, by omega, by go_num, HL7, _, _, HD7.out, HOV.out⟩
            case measure => simp [intOf]; omega
          | false =>
            have hv1 : v ≠ -1 := by simpa using hm
            cases hm2 : (v == beh) with
            | true =>
              have hvb : v = beh := by simpa using hm2
              have HOV := hide (show overL ns code d q l = nextGo nn beh (L.drop (k + 1)) dk lk by rw [HOV.out, if_neg hv1, if_pos hvb])
              clear hvb hv1
              go_upto_region 8 with fail
              refine wp_region_noPanic ?_
              have hN : Below w5.heap.size w5 w5.drew := (Below.refl _ _).drew
              refine wp_region_held_drew (S := fun W => W.cell? ⟨b, 4, none⟩ = some (.int .i64 fn) ∧ W.cell? ⟨b, 5, none⟩ = some (.int .i64 (q : Int)) ∧ W.cell? ⟨b, 7, none⟩ = some (.slice (some ⟨g1, 0, none⟩) nn nn) ∧ W.cell? ⟨g1, j, none⟩ = some (.int .i64 v)) (by kernel_rfl) (⟨keep_cell c4 hN, keep_cell c5 hN, keep_cell c7 hN, keep_cell aj hN⟩) (fun hHeld => ?_)
              refine takeD (i := 0) (d := some 77) (v := ?_) rfl rfl (by kernel_rfl) (by kernel_rfl) (by kernel_rfl) (fun _ _ _ h => h) (Or.inl ⟨by rfl, ?_⟩) (by assumption) ?_
              rotate_left
              · intro w hSw
                go_simp
                try (with_reducible rfl)
              try simp only [Act.put, List.setIfInBounds_toArray, List.set_cons_zero, List.set_cons_succ]
              refine takeD (i := 1) (d := some 78) (v := ?_) rfl rfl (by kernel_rfl) (by kernel_rfl) (by kernel_rfl) (fun _ _ _ h => h) (Or.inl ⟨by rfl, ?_⟩) (by assumption) ?_
              rotate_left
              · intro w hSw
                go_simp
                try (with_reducible rfl)
              try simp only [Act.put, List.setIfInBounds_toArray, List.set_cons_zero, List.set_cons_succ]
              refine takeD (i := 2) (d := some 79) (v := ?_) rfl rfl (by kernel_rfl) (by kernel_rfl) (by kernel_rfl) (fun _ _ _ h => h) (Or.inl ⟨by rfl, ?_⟩) (by assumption) ?_
              rotate_left
              · intro w hSw
                go_simp
                try (with_reducible rfl)
              try simp only [Act.put, List.setIfInBounds_toArray, List.set_cons_zero, List.set_cons_succ]
              refine takeD (i := 3) (d := some 80) (v := ?_) rfl rfl (by kernel_rfl) (by kernel_rfl) (by kernel_rfl) (fun _ _ _ h => h) (Or.inl ⟨by rfl, ?_⟩) (by assumption) ?_
              rotate_left
              · intro w hSw
                go_simp
                try (with_reducible rfl)
              try simp only [Act.put, List.setIfInBounds_toArray, List.set_cons_zero, List.set_cons_succ]
              refine takeD (i := 4) (d := some 81) (v := ?_) rfl rfl (by kernel_rfl) (by kernel_rfl) (by kernel_rfl) (fun _ _ _ h => h) (Or.inl ⟨by rfl, ?_⟩) (by assumption) ?_
              rotate_left
              · intro w hSw
                go_simp
                try (with_reducible rfl)
              try simp only [Act.put, List.setIfInBounds_toArray, List.set_cons_zero, List.set_cons_succ]
              refine takeD (i := 5) (d := some 82) (v := ?_) rfl rfl (by kernel_rfl) (by kernel_rfl) (by kernel_rfl) (fun _ _ _ h => h) (Or.inl ⟨by rfl, ?_⟩) (by assumption) ?_
              rotate_left
              · intro w hSw
                go_simp
                try (with_reducible rfl)
              try simp only [Act.put, List.setIfInBounds_toArray, List.set_cons_zero, List.set_cons_succ]
              refine takeD (i := 6) (d := some 83) (v := ?_) rfl rfl (by kernel_rfl) (by kernel_rfl) (by kernel_rfl) (fun _ _ _ h => h) (Or.inl ⟨by rfl, ?_⟩) (by assumption) ?_
              rotate_left
              · intro w hSw
                go_simp
                try (with_reducible rfl)
              try simp only [Act.put, List.setIfInBounds_toArray, List.set_cons_zero, List.set_cons_succ]
              refine takeD (i := 7) (d := some 84) (v := ?_) rfl rfl (by kernel_rfl) (by kernel_rfl) (by kernel_rfl) (fun _ _ _ h => h) (Or.inl ⟨by rfl, ?_⟩) (by assumption) ?_
              rotate_left
              · intro w hSw
                go_simp
                try (with_reducible rfl)
              try simp only [Act.put, List.setIfInBounds_toArray, List.set_cons_zero, List.set_cons_succ]
              refine takeD (i := 8) (d := some 85) (v := ?_) rfl rfl (by kernel_rfl) (by kernel_rfl) (by kernel_rfl) (fun _ _ _ h => h) (Or.inl ⟨by rfl, ?_⟩) (by assumption) ?_
              rotate_left
              · intro w hSw
                go_simp
                try (with_reducible rfl)
              try simp only [Act.put, List.setIfInBounds_toArray, List.set_cons_zero, List.set_cons_succ]
              refine takeD (i := 9) (d := some 86) (v := ?_) rfl rfl (by kernel_rfl) (by kernel_rfl) (by kernel_rfl) (fun _ _ _ h => h) (Or.inl ⟨by rfl, ?_⟩) (by assumption) ?_
              rotate_left
              · intro w hSw
                go_simp
                try (with_reducible rfl)
              try simp only [Act.put, List.setIfInBounds_toArray, List.set_cons_zero, List.set_cons_succ]
              refine takeD (i := 10) (d := some 87) (v := ?_) rfl rfl (by kernel_rfl) (by kernel_rfl) (by kernel_rfl) (fun _ _ _ h => h) (Or.inl ⟨by rfl, ?_⟩) (by assumption) ?_
              rotate_left
              · intro w hSw
                go_simp
                try (with_reducible rfl)
              try simp only [Act.put, List.setIfInBounds_toArray, List.set_cons_zero, List.set_cons_succ]
              refine takeD (i := 11) (d := some 88) (v := ?_) rfl rfl (by kernel_rfl) (by kernel_rfl) (by kernel_rfl) (fun _ _ _ h => h) (Or.inl ⟨by rfl, ?_⟩) (by assumption) ?_
              rotate_left
              · intro w hSw
                go_simp
                try (with_reducible rfl)
              try simp only [Act.put, List.setIfInBounds_toArray, List.set_cons_zero, List.set_cons_succ]
              refine takeD (i := 12) (d := some 89) (v := ?_) rfl rfl (by kernel_rfl) (by kernel_rfl) (by kernel_rfl) (fun _ _ _ h => h) (Or.inl ⟨by rfl, ?_⟩) (by assumption) ?_
              rotate_left
              · intro w hSw
                go_simp
                try (with_reducible rfl)
              try simp only [Act.put, List.setIfInBounds_toArray, List.set_cons_zero, List.set_cons_succ]
              refine wpAnyH_ready (rs := [13]) (by kernel_rfl) (by simp) ?_
              refine AllReadyH.cons rfl (fun K hK => ?_) AllReadyH.nil
              go_simp
              refine (need_yes fn (q : Int) 12 _).mono ?_
              rintro e w7 ⟨rfl, hb⟩
              have hN := chain hN hb
              go_wp2_with fail
              clear hHeld
              refine hK.out _ _ (⟨keep_cell c4 hN, keep_cell c5 hN, keep_cell c7 hN, keep_cell aj hN⟩) (fun hHeld => ?_)
              clear hK K
              try simp only [Act.put, List.setIfInBounds_toArray, List.set_cons_zero, List.set_cons_succ]
              refine wpAnyH_done (by kernel_rfl) ?_ _
              refine NoPanic.normal ?_
              have HD7 := hide (HD5.out.below hN)
              have HL7 := hide (HL5.out.below hN)
              have hB7 : Hid (Below B w w7) := hB5.trans (hN.mono hB5s)
              clear hHeld c3 c4 c5 c7 aj hN hb
              go_wp2
              go_roundw
              case rel => exact ⟨hB7, k + 1, by omega, by go_num, HL7, _, _, HD7.out, HOV.out⟩
              case measure => simp [intOf]; omega
            | false =>
              have hvb : v ≠ beh := by simpa using hm2
              have HE := hide (show overL ns code d q l = .error 12 by rw [HOV.out, if_neg hv1, if_neg hvb])
              clear hvb hv1
              go_upto_region 8 with fail
              have hN : Below w5.heap.size w5 w5.drew := (Below.refl _ _).drew
              refine wp_region_held_drew (S := fun W => W.cell? ⟨b, 4, none⟩ = some (.int .i64 fn) ∧ W.cell? ⟨b, 5, none⟩ = some (.int .i64 (q : Int)) ∧ W.cell? ⟨b, 7, none⟩ = some (.slice (some ⟨g1, 0, none⟩) nn nn) ∧ W.cell? ⟨g1, j, none⟩ = some (.int .i64 v)) (by kernel_rfl) (⟨keep_cell c4 hN, keep_cell c5 hN, keep_cell c7 hN, keep_cell aj hN⟩) (fun hHeld => ?_)
              refine takeD (i := 0) (d := some 77) (v := ?_) rfl rfl (by kernel_rfl) (by kernel_rfl) (by kernel_rfl) (fun _ _ _ h => h) (Or.inl ⟨by rfl, ?_⟩) (by assumption) ?_
              rotate_left
              · intro w hSw
                go_simp
                try (with_reducible rfl)
              try simp only [Act.put, List.setIfInBounds_toArray, List.set_cons_zero, List.set_cons_succ]
              refine takeD (i := 1) (d := some 78) (v := ?_) rfl rfl (by kernel_rfl) (by kernel_rfl) (by kernel_rfl) (fun _ _ _ h => h) (Or.inl ⟨by rfl, ?_⟩) (by assumption) ?_
              rotate_left
              · intro w hSw
                go_simp
                try (with_reducible rfl)
              try simp only [Act.put, List.setIfInBounds_toArray, List.set_cons_zero, List.set_cons_succ]
              refine takeD (i := 2) (d := some 79) (v := ?_) rfl rfl (by kernel_rfl) (by kernel_rfl) (by kernel_rfl) (fun _ _ _ h => h) (Or.inl ⟨by rfl, ?_⟩) (by assumption) ?_
              rotate_left
              · intro w hSw
                go_simp
                try (with_reducible rfl)
              try simp only [Act.put, List.setIfInBounds_toArray, List.set_cons_zero, List.set_cons_succ]
              refine takeD (i := 3) (d := some 80) (v := ?_) rfl rfl (by kernel_rfl) (by kernel_rfl) (by kernel_rfl) (fun _ _ _ h => h) (Or.inl ⟨by rfl, ?_⟩) (by assumption) ?_
              rotate_left
              · intro w hSw
                go_simp
                try (with_reducible rfl)
              try simp only [Act.put, List.setIfInBounds_toArray, List.set_cons_zero, List.set_cons_succ]
              refine takeD (i := 4) (d := some 81) (v := ?_) rfl rfl (by kernel_rfl) (by kernel_rfl) (by kernel_rfl) (fun _ _ _ h => h) (Or.inl ⟨by rfl, ?_⟩) (by assumption) ?_
              rotate_left
              · intro w hSw
                go_simp
                try (with_reducible rfl)
              try simp only [Act.put, List.setIfInBounds_toArray, List.set_cons_zero, List.set_cons_succ]
              refine takeD (i := 5) (d := some 82) (v := ?_) rfl rfl (by kernel_rfl) (by kernel_rfl) (by kernel_rfl) (fun _ _ _ h => h) (Or.inl ⟨by rfl, ?_⟩) (by assumption) ?_
              rotate_left
              · intro w hSw
                go_simp
                try (with_reducible rfl)
              try simp only [Act.put, List.setIfInBounds_toArray, List.set_cons_zero, List.set_cons_succ]
              refine takeD (i := 6) (d := some 83) (v := ?_) rfl rfl (by kernel_rfl) (by kernel_rfl) (by kernel_rfl) (fun _ _ _ h => h) (Or.inl ⟨by rfl, ?_⟩) (by assumption) ?_
              rotate_left
              · intro w hSw
                go_simp
                try (with_reducible rfl)
              try simp only [Act.put, List.setIfInBounds_toArray, List.set_cons_zero, List.set_cons_succ]
              refine takeD (i := 7) (d := some 84) (v := ?_) rfl rfl (by kernel_rfl) (by kernel_rfl) (by kernel_rfl) (fun _ _ _ h => h) (Or.inl ⟨by rfl, ?_⟩) (by assumption) ?_
              rotate_left
              · intro w hSw
                go_simp
                try (with_reducible rfl)
              try simp only [Act.put, List.setIfInBounds_toArray, List.set_cons_zero, List.set_cons_succ]
              refine takeD (i := 8) (d := some 85) (v := ?_) rfl rfl (by kernel_rfl) (by kernel_rfl) (by kernel_rfl) (fun _ _ _ h => h) (Or.inl ⟨by rfl, ?_⟩) (by assumption) ?_
              rotate_left
              · intro w hSw
                go_simp
                try (with_reducible rfl)
              try simp only [Act.put, List.setIfInBounds_toArray, List.set_cons_zero, List.set_cons_succ]
              refine takeD (i := 9) (d := some 86) (v := ?_) rfl rfl (by kernel_rfl) (by kernel_rfl) (by kernel_rfl) (fun _ _ _ h => h) (Or.inl ⟨by rfl, ?_⟩) (by assumption) ?_
              rotate_left
              · intro w hSw
                go_simp
                try (with_reducible rfl)
              try simp only [Act.put, List.setIfInBounds_toArray, List.set_cons_zero, List.set_cons_succ]
              refine takeD (i := 10) (d := some 87) (v := ?_) rfl rfl (by kernel_rfl) (by kernel_rfl) (by kernel_rfl) (fun _ _ _ h => h) (Or.inl ⟨by rfl, ?_⟩) (by assumption) ?_
              rotate_left
              · intro w hSw
                go_simp
                try (with_reducible rfl)
              try simp only [Act.put, List.setIfInBounds_toArray, List.set_cons_zero, List.set_cons_succ]
              refine takeD (i := 11) (d := some 88) (v := ?_) rfl rfl (by kernel_rfl) (by kernel_rfl) (by kernel_rfl) (fun _ _ _ h => h) (Or.inl ⟨by rfl, ?_⟩) (by assumption) ?_
              rotate_left
              · intro w hSw
                go_simp
                try (with_reducible rfl)
              try simp only [Act.put, List.setIfInBounds_toArray, List.set_cons_zero, List.set_cons_succ]
              refine takeD (i := 12) (d := some 89) (v := ?_) rfl rfl (by kernel_rfl) (by kernel_rfl) (by kernel_rfl) (fun _ _ _ h => h) (Or.inl ⟨by rfl, ?_⟩) (by assumption) ?_
              rotate_left
              · intro w hSw
                go_simp
                try (with_reducible rfl)
              try simp only [Act.put, List.setIfInBounds_toArray, List.set_cons_zero, List.set_cons_succ]
              refine wpAnyH_ready (rs := [13]) (by kernel_rfl) (by simp) ?_
              refine AllReadyH.cons rfl (fun K hK => ?_) AllReadyH.nil
              go_simp
              refine (need_no fn (q : Int) 12 _).mono ?_
              rintro e w7 ⟨rfl, hb⟩
              have hN := chain hN hb
              exact ⟨rfl, hB5.trans (hN.mono hB5s), by rw [HE.out]⟩
      · have hdn : L.drop k = [] := List.drop_eq_nil_of_le (by rw [HLL.out]; omega)
        have HE := hide (show overL ns code d q l = .ok (dk, lk) by rw [HOV.out, hdn]; rfl)
        have HDr := hide hDr
        clear hdn hDr
        go_wp2
        go_end0
        exact ⟨hbw.out, by rw [HE.out]; exact ⟨rfl, HDr.out⟩⟩
end Go.Proofs.YtnkfdpnommjlcaaGreatDoor
