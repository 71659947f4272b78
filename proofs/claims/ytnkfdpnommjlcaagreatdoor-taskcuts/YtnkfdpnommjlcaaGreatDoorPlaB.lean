/- plain: locals; what goes up. -/
import Derived.Test.YtnkfdpnommjlcaaGreatDoorRet
namespace Go.Proofs.YtnkfdpnommjlcaaGreatDoor
open Go.RowKit Go.ChangeShapes Go.WideShapes Go.ChangeAt Go.Deep

theorem own_putI {w : World} {B g n cap : Nat} {zs : List Int} (ho : w.ownsRow B 3 1 (.slice (some ⟨g, 0, none⟩) n cap) n (iV zs)) (j : Nat) (y : Int) :
    (w.setCell ⟨g, j, none⟩ (.int .i64 y)).ownsRow B 3 1 (.slice (some ⟨g, 0, none⟩) n cap) n (iV (zs.set j y)) := by
  have h := ho.stored j (.int .i64 y)
  have e : (iV zs).set j (.int .i64 y) = iV (zs.set j y) := by simp [iV, List.map_set]
  rw [← e]; exact h.1
/-- A local is put. -/
theorem Mach.loc_put {B : Bd} {w : World} {m : Nat} {M : Mc} {st lo ar : List Int} (h : Mach B w m M st lo ar) (g cap : Nat) (e : M.lv = .slice (some ⟨g, 0, none⟩) lo.length cap) (k : Nat) (x : Int) : Mach B (w.setCell ⟨g, k, none⟩ (.int .i64 x)) m M st (lo.set k x) ar ∧ B ≤ g := by
  have hk : ∀ q, q ≠ g → (w.setCell ⟨g, k, none⟩ (.int .i64 x)).heap[q]? = w.heap[q]? := fun q hq => heap_setCell_other _ _ _ _ hq
  have hl := h.loc
  have eb : M.lv.ownBlock = some g := by rw [e]; rfl
  have hgm : g ≠ m := row_ne hl h.at_ g eb
  have hlo : (w.setCell ⟨g, k, none⟩ (.int .i64 x)).ownsRow B 3 1 M.lv (lo.set k x).length (iV (lo.set k x)) := by
    rw [e] at hl ⊢
    rw [List.length_set]
    exact own_putI hl k x
  refine ⟨⟨?_, h.bm, ?_, hlo, ?_, h.sl, h.sa, h.la, ?_⟩, (hl.lt g eb).1⟩
  · rw [hk m (fun e => hgm e.symm)]; exact h.at_
  · exact own_keepI h.own (fun q hq => hk q (fun e => by subst e; exact h.sl q hq eb))
  · exact own_keepI h.arg (fun q hq => hk q (fun e => by subst e; exact h.la q eb hq))
  · intro k' u hku
    have hq := h.kept k' u hku
    rw [hk k' (fun e => by subst e; exact row_ne59 hl hq k' eb rfl)]
    exact hq
set_option linter.unusedSimpArgs false in
set_option maxRecDepth 100000 in
set_option maxHeartbeats 2000000 in
theorem plain_load {B : Bd} {w : World} {m : Nat} {M : Mc} {sk lo ar : List Int} (h : Mach B w m M sk.reverse lo ar) (k : Nat) (v : Int) (hv : lo[k]? = some v) (hn : sk.length ≤ 10000) : Calls Tryz.prog 89 #[.pointer (some ⟨m, 0, none⟩), .agg #[.int .i64 5, .int .i64 (k : Int)]] w fun e w' => e = .returned (.tuple #[]) ∧ ∃ sv, Mach B w' m { M with sv := sv } (v :: sk).reverse lo ar ∧ Below B w w' := by
  have hlt := h.lt
  have hbm := h.bm
  have hb0 : Below w.heap.size w ((w.alloc (.cells #[.int .i64 5, .int .i64 (k : Int)] 55)).alloc (.cells #[.int .i64 v] 3)).drew := (((Below.refl _ _).alloc (Nat.le_refl _) _).alloc (by simp) _).drew
  have h1 := h.below hb0
  have C : Calls Tryz.prog 78 #[.pointer (some ⟨m, 0, none⟩), .int .i64 0, .slice (some ⟨w.heap.size + 1, 0, none⟩) 1 1] ((w.alloc (.cells #[.int .i64 5, .int .i64 (k : Int)] 55)).alloc (.cells #[.int .i64 v] 3)).drew (PutPost B _ m M (v :: sk).reverse lo ar) := put_rev h1 0 (by omega) (by omega) (some ⟨w.heap.size + 1, 0, none⟩) 1 1 [v] (v :: sk) (Reads.drew (reads_next w _ [.int .i64 v] 3)) rfl (fun h => by cases h) (by omega) (by simp)
  have HB0 := hide (hb0.mono (show B ≤ w.heap.size by omega))
  unfold PutPost at C
  obtain ⟨la, lc, e, _, _, hrl⟩ := slice_form (n := lo.length) h.loc rfl
  obtain ⟨lb, lof, rfl, hlv⟩ := reads_iV hrl hv
  have hkl : k < lo.length := (List.getElem?_eq_some_iff.1 hv).1
  have hkl' : (k : Int) < (lo.length : Int) := by omega
  have hba : Below w.heap.size w (w.alloc (.cells #[.int .i64 5, .int .i64 (k : Int)] 55)).drew := ((Below.refl _ _).alloc (Nat.le_refl _) _).drew
  have c4 := keep_cell (h.cell 4 _ rfl) hba
  rw [e] at c4
  have hlv' := keep_cell hlv hba
  have bx : (w.alloc (.cells #[.int .i64 5, .int .i64 (k : Int)] 55)).drew.cell? ⟨w.heap.size, 1, none⟩ = some (.int .i64 (k : Int)) := keep_cell (cell_row (cs := [.int .i64 5, .int .i64 (k : Int)]) (i := 1) (heap_alloc_new w _) rfl) ((Below.refl _ _).drew)
  clear h h1 hrl hlv hba
  go_enter Tryz.func89, Tryz.ntmps89
  go_wp2_with fail
  refine wp_region_noPanic ?_
  refine wp_region_held_drew (S := fun _ => True) (by kernel_rfl) trivial (fun _ => ?_)
  refine takeD (i := 0) (d := some 71) (v := ?_) rfl rfl (by kernel_rfl) (by kernel_rfl) (by kernel_rfl) (fun _ _ _ h => h) (Or.inl ⟨by rfl, ?_⟩) trivial ?_
  rotate_left
  · intro w hSw
    go_simp
    try (with_reducible rfl)
  try simp only [Act.put, List.setIfInBounds_toArray, List.set_cons_zero, List.set_cons_succ]
  refine takeD (i := 1) (d := some 72) (v := ?_) rfl rfl (by kernel_rfl) (by kernel_rfl) (by kernel_rfl) (fun _ _ _ h => h) (Or.inl ⟨by rfl, ?_⟩) trivial ?_
  rotate_left
  · intro w hSw
    go_simp
    try (with_reducible rfl)
  try simp only [Act.put, List.setIfInBounds_toArray, List.set_cons_zero, List.set_cons_succ]
  refine takeD (i := 2) (d := some 73) (v := ?_) rfl rfl (by kernel_rfl) (by kernel_rfl) (by kernel_rfl) (fun _ _ _ h => h) (Or.inl ⟨by rfl, ?_⟩) trivial ?_
  rotate_left
  · intro w hSw
    go_simp
    try (with_reducible rfl)
  try simp only [Act.put, List.setIfInBounds_toArray, List.set_cons_zero, List.set_cons_succ]
  refine takeD (i := 3) (d := some 74) (v := ?_) rfl rfl (by kernel_rfl) (by kernel_rfl) (by kernel_rfl) (fun _ _ _ h => h) (Or.inl ⟨by rfl, ?_⟩) trivial ?_
  rotate_left
  · intro w hSw
    go_simp
    try (with_reducible rfl)
  try simp only [Act.put, List.setIfInBounds_toArray, List.set_cons_zero, List.set_cons_succ]
  refine takeD (i := 4) (d := some 75) (v := ?_) rfl rfl (by kernel_rfl) (by kernel_rfl) (by kernel_rfl) (fun _ _ _ h => h) (Or.inl ⟨by rfl, ?_⟩) trivial ?_
  rotate_left
  · intro w hSw
    go_simp
    try (with_reducible rfl)
  try simp only [Act.put, List.setIfInBounds_toArray, List.set_cons_zero, List.set_cons_succ]
  refine takeD (i := 5) (d := some 76) (v := ?_) rfl rfl (by kernel_rfl) (by kernel_rfl) (by kernel_rfl) (fun _ _ _ h => h) (Or.inl ⟨by rfl, ?_⟩) trivial ?_
  rotate_left
  · intro w hSw
    go_simp
    try (with_reducible rfl)
  try simp only [Act.put, List.setIfInBounds_toArray, List.set_cons_zero, List.set_cons_succ]
  refine takeD (i := 6) (d := some 77) (v := ?_) rfl rfl (by kernel_rfl) (by kernel_rfl) (by kernel_rfl) (fun _ _ _ h => h) (Or.inl ⟨by rfl, ?_⟩) trivial ?_
  rotate_left
  · intro w hSw
    go_simp
    try (with_reducible rfl)
  try simp only [Act.put, List.setIfInBounds_toArray, List.set_cons_zero, List.set_cons_succ]
  refine takeD (i := 7) (d := some 78) (v := ?_) rfl rfl (by kernel_rfl) (by kernel_rfl) (by kernel_rfl) (fun _ _ _ h => h) (Or.inl ⟨by rfl, ?_⟩) trivial ?_
  rotate_left
  · intro w hSw
    go_simp
    try (with_reducible rfl)
  try simp only [Act.put, List.setIfInBounds_toArray, List.set_cons_zero, List.set_cons_succ]
  refine takeD (i := 9) (d := some 80) (v := ?_) rfl rfl (by kernel_rfl) (by kernel_rfl) (by kernel_rfl) (fun _ _ _ h => h) (Or.inl ⟨by rfl, ?_⟩) trivial ?_
  rotate_left
  · intro w hSw
    go_simp
    try (with_reducible rfl)
  try simp only [Act.put, List.setIfInBounds_toArray, List.set_cons_zero, List.set_cons_succ]
  refine wpAnyH_ready (rs := [8, 10]) (by kernel_rfl) (by simp) ?_
  refine AllReadyH.cons rfl (fun K hK => ?_) (AllReadyH.cons rfl (fun K hK => ?_) AllReadyH.nil)
  · go_simp
    go_wp2_with fail
    refine hK.out _ _ trivial (fun _ => ?_)
    clear hK K
    try simp only [Act.put, List.setIfInBounds_toArray, List.set_cons_zero, List.set_cons_succ]
    refine wpAnyH_ready (rs := [10]) (by kernel_rfl) (by simp) ?_
    refine AllReadyH.cons rfl (fun K hK => ?_) AllReadyH.nil
    go_simp
    go_wp2_with fail
    refine hK.out _ _ trivial (fun _ => ?_)
    clear hK K
    try simp only [Act.put, List.setIfInBounds_toArray, List.set_cons_zero, List.set_cons_succ]
    refine takeD (i := 11) (d := some 82) (v := ?_) rfl rfl (by kernel_rfl) (by kernel_rfl) (by kernel_rfl) (fun _ _ _ h => h) (Or.inl ⟨by rfl, ?_⟩) trivial ?_
    rotate_left
    · intro w hSw
      go_simp
      try (with_reducible rfl)
    try simp only [Act.put, List.setIfInBounds_toArray, List.set_cons_zero, List.set_cons_succ]
    refine wpAnyH_ready (rs := [12]) (by kernel_rfl) (by simp) ?_
    refine AllReadyH.cons rfl (fun K hK => ?_) AllReadyH.nil
    go_simp
    go_wp2_with fail
    refine hK.out _ _ trivial (fun _ => ?_)
    clear hK K
    try simp only [Act.put, List.setIfInBounds_toArray, List.set_cons_zero, List.set_cons_succ]
    refine wpAnyH_ready (rs := [13]) (by kernel_rfl) (by simp) ?_
    refine AllReadyH.cons rfl (fun K hK => ?_) AllReadyH.nil
    go_simp
    go_wp2_with fail
    refine hK.out _ _ trivial (fun _ => ?_)
    clear hK K
    try simp only [Act.put, List.setIfInBounds_toArray, List.set_cons_zero, List.set_cons_succ]
    refine wpAnyH_ready (rs := [14]) (by kernel_rfl) (by simp) ?_
    refine AllReadyH.cons rfl (fun K hK => ?_) AllReadyH.nil
    go_simp
    go_at_call 78
    with_reducible refine C.mono ?_
    (rintro e w2 ⟨rfl, sv2, hM2, hb2⟩)
    go_wp2_with fail
    refine hK.out _ _ trivial (fun _ => ?_)
    clear hK K
    try simp only [Act.put, List.setIfInBounds_toArray, List.set_cons_zero, List.set_cons_succ]
    refine wpAnyH_done (by kernel_rfl) ?_ _
    refine NoPanic.normal ?_
    go_wp2_with fail
    go_end0
    exact ⟨rfl, sv2, hM2, HB0.out.trans hb2⟩
  · go_simp
    go_wp2_with fail
    refine hK.out _ _ trivial (fun _ => ?_)
    clear hK K
    try simp only [Act.put, List.setIfInBounds_toArray, List.set_cons_zero, List.set_cons_succ]
    refine wpAnyH_ready (rs := [8]) (by kernel_rfl) (by simp) ?_
    refine AllReadyH.cons rfl (fun K hK => ?_) AllReadyH.nil
    go_simp
    go_wp2_with fail
    refine hK.out _ _ trivial (fun _ => ?_)
    clear hK K
    try simp only [Act.put, List.setIfInBounds_toArray, List.set_cons_zero, List.set_cons_succ]
    refine takeD (i := 11) (d := some 82) (v := ?_) rfl rfl (by kernel_rfl) (by kernel_rfl) (by kernel_rfl) (fun _ _ _ h => h) (Or.inl ⟨by rfl, ?_⟩) trivial ?_
    rotate_left
    · intro w hSw
      go_simp
      try (with_reducible rfl)
    try simp only [Act.put, List.setIfInBounds_toArray, List.set_cons_zero, List.set_cons_succ]
    refine wpAnyH_ready (rs := [12]) (by kernel_rfl) (by simp) ?_
    refine AllReadyH.cons rfl (fun K hK => ?_) AllReadyH.nil
    go_simp
    go_wp2_with fail
    refine hK.out _ _ trivial (fun _ => ?_)
    clear hK K
    try simp only [Act.put, List.setIfInBounds_toArray, List.set_cons_zero, List.set_cons_succ]
    refine wpAnyH_ready (rs := [13]) (by kernel_rfl) (by simp) ?_
    refine AllReadyH.cons rfl (fun K hK => ?_) AllReadyH.nil
    go_simp
    go_wp2_with fail
    refine hK.out _ _ trivial (fun _ => ?_)
    clear hK K
    try simp only [Act.put, List.setIfInBounds_toArray, List.set_cons_zero, List.set_cons_succ]
    refine wpAnyH_ready (rs := [14]) (by kernel_rfl) (by simp) ?_
    refine AllReadyH.cons rfl (fun K hK => ?_) AllReadyH.nil
    go_simp
    go_at_call 78
    with_reducible refine C.mono ?_
    (rintro e w2 ⟨rfl, sv2, hM2, hb2⟩)
    go_wp2_with fail
    refine hK.out _ _ trivial (fun _ => ?_)
    clear hK K
    try simp only [Act.put, List.setIfInBounds_toArray, List.set_cons_zero, List.set_cons_succ]
    refine wpAnyH_done (by kernel_rfl) ?_ _
    refine NoPanic.normal ?_
    go_wp2_with fail
    go_end0
    exact ⟨rfl, sv2, hM2, HB0.out.trans hb2⟩
set_option linter.unusedSimpArgs false in
set_option maxRecDepth 100000 in
set_option maxHeartbeats 2000000 in
theorem plain_store {B : Bd} {w : World} {m : Nat} {M : Mc} {sk lo ar : List Int} {x : Int} (h : Mach B w m M (x :: sk).reverse lo ar) (k : Nat) (hk : k < lo.length) (hn : sk.length ≤ 10000) : Calls Tryz.prog 89 #[.pointer (some ⟨m, 0, none⟩), .agg #[.int .i64 6, .int .i64 (k : Int)]] w fun e w' => e = .returned (.tuple #[]) ∧ ∃ sv, Mach B w' m { M with sv := sv } sk.reverse (lo.set k x) ar ∧ Below B w w' := by
  have hlt := h.lt
  have hbm := h.bm
  have hb0 : Below w.heap.size w (w.alloc (.cells #[.int .i64 6, .int .i64 (k : Int)] 55)) := ((Below.refl _ _).alloc (Nat.le_refl _) _)
  have h1 := h.below hb0
  have hbd : Below (w.alloc (.cells #[.int .i64 6, .int .i64 (k : Int)] 55)).heap.size (w.alloc (.cells #[.int .i64 6, .int .i64 (k : Int)] 55)) (w.alloc (.cells #[.int .i64 6, .int .i64 (k : Int)] 55)).drew := (Below.refl _ _).drew
  have h1d := h1.below hbd
  have hL : Mach B (w.alloc (.cells #[.int .i64 6, .int .i64 (k : Int)] 55)).drew m M (sk.reverse ++ [x]) lo ar := by simpa using h1d
  have CL := last_any hL (by simp; omega)
  obtain ⟨v, hv⟩ : ∃ v, lo[k]? = some v := ⟨lo[k], List.getElem?_eq_getElem hk⟩
  obtain ⟨lb, cap, e⟩ : ∃ g cap, M.lv = .slice (some ⟨g, 0, none⟩) lo.length cap := by
    rcases h.loc.2 with ⟨_, h0⟩ | ⟨g, cap, cur, e, _⟩
    · omega
    · exact ⟨g, cap, e⟩
  have hkl' : (k : Int) < (lo.length : Int) := by omega
  have c4 := h1d.cell 4 _ rfl
  rw [e] at c4
  have hlo1 := h1d.loc
  rw [e] at hlo1
  have clb : (w.alloc (.cells #[.int .i64 6, .int .i64 (k : Int)] 55)).drew.cell? ⟨lb, k, none⟩ = some (.int .i64 v) := by
    have := hlo1.cells (g := lb) rfl k (.int .i64 v) (by simp [iV, hv])
    rwa [add_none, Nat.zero_add] at this
  have flb : (w.alloc (.cells #[.int .i64 6, .int .i64 (k : Int)] 55)).drew.frozen? ⟨lb, k, none⟩ = false := by
    rcases hlo1.2 with ⟨q, _⟩ | ⟨g, cap', cur, q, _, hh, _⟩
    · cases q
    · simp only [Value.slice.injEq, Option.some.injEq, Addr.mk.injEq] at q
      obtain ⟨⟨rfl, _, _⟩, _, _⟩ := q
      simp only [World.frozen?, hh]; simp
  obtain ⟨h2, hBg⟩ := h1.loc_put lb cap e k x
  have C : Calls Tryz.prog 78 #[.pointer (some ⟨m, 0, none⟩), .int .i64 1, .slice none 0 0] ((w.alloc (.cells #[.int .i64 6, .int .i64 (k : Int)] 55)).setCell ⟨lb, k, none⟩ (.int .i64 x)).drew (PutPost B _ m M sk.reverse (lo.set k x) ar) := put_rev (h2.below ((Below.refl _ _).drew)) 1 (by simp) (by simp; omega) none 0 0 [] sk (.inl rfl) rfl (fun _ => ⟨rfl, rfl⟩) (by omega) (by simp)
  have HB0 := hide (show Below B w ((w.alloc (.cells #[.int .i64 6, .int .i64 (k : Int)] 55)).setCell ⟨lb, k, none⟩ (.int .i64 x)).drew from ((hb0.mono (by omega)).setCell (p := ⟨lb, k, none⟩) hBg _).drew)
  unfold PutPost at C
  have bx : (w.alloc (.cells #[.int .i64 6, .int .i64 (k : Int)] 55)).drew.cell? ⟨w.heap.size, 1, none⟩ = some (.int .i64 (k : Int)) := keep_cell (cell_row (cs := [.int .i64 6, .int .i64 (k : Int)]) (i := 1) (heap_alloc_new w _) rfl) ((Below.refl _ _).drew)
  clear h h1 h2 hL hlo1 h1d hbd
  go_enter Tryz.func89, Tryz.ntmps89
  go_wp2_with fail
  refine wp_region_noPanic ?_
  refine wp_region_held_drew (S := fun _ => True) (by kernel_rfl) trivial (fun _ => ?_)
  refine takeD (i := 0) (d := some 88) (v := ?_) rfl rfl (by kernel_rfl) (by kernel_rfl) (by kernel_rfl) (fun _ _ _ h => h) (Or.inl ⟨by rfl, ?_⟩) trivial ?_
  rotate_left
  · intro w hSw
    go_simp
    try (with_reducible rfl)
  try simp only [Act.put, List.setIfInBounds_toArray, List.set_cons_zero, List.set_cons_succ]
  refine takeD (i := 1) (d := some 89) (v := ?_) rfl rfl (by kernel_rfl) (by kernel_rfl) (by kernel_rfl) (fun _ _ _ h => h) (Or.inl ⟨by rfl, ?_⟩) trivial ?_
  rotate_left
  · intro w hSw
    go_simp
    try (with_reducible rfl)
  try simp only [Act.put, List.setIfInBounds_toArray, List.set_cons_zero, List.set_cons_succ]
  refine takeD (i := 2) (d := some 90) (v := ?_) rfl rfl (by kernel_rfl) (by kernel_rfl) (by kernel_rfl) (fun _ _ _ h => h) (Or.inl ⟨by rfl, ?_⟩) trivial ?_
  rotate_left
  · intro w hSw
    go_simp
    try (with_reducible rfl)
  try simp only [Act.put, List.setIfInBounds_toArray, List.set_cons_zero, List.set_cons_succ]
  refine takeD (i := 3) (d := some 91) (v := ?_) rfl rfl (by kernel_rfl) (by kernel_rfl) (by kernel_rfl) (fun _ _ _ h => h) (Or.inl ⟨by rfl, ?_⟩) trivial ?_
  rotate_left
  · intro w hSw
    go_simp
    try (with_reducible rfl)
  try simp only [Act.put, List.setIfInBounds_toArray, List.set_cons_zero, List.set_cons_succ]
  refine takeD (i := 4) (d := some 92) (v := ?_) rfl rfl (by kernel_rfl) (by kernel_rfl) (by kernel_rfl) (fun _ _ _ h => h) (Or.inl ⟨by rfl, ?_⟩) trivial ?_
  rotate_left
  · intro w hSw
    go_simp
    try (with_reducible rfl)
  try simp only [Act.put, List.setIfInBounds_toArray, List.set_cons_zero, List.set_cons_succ]
  refine takeD (i := 6) (d := some 94) (v := ?_) rfl rfl (by kernel_rfl) (by kernel_rfl) (by kernel_rfl) (fun _ _ _ h => h) (Or.inl ⟨by rfl, ?_⟩) trivial ?_
  rotate_left
  · intro w hSw
    go_simp
    try (with_reducible rfl)
  try simp only [Act.put, List.setIfInBounds_toArray, List.set_cons_zero, List.set_cons_succ]
  refine takeD (i := 8) (d := some 96) (v := ?_) rfl rfl (by kernel_rfl) (by kernel_rfl) (by kernel_rfl) (fun _ _ _ h => h) (Or.inl ⟨by rfl, ?_⟩) trivial ?_
  rotate_left
  · intro w hSw
    go_simp
    try (with_reducible rfl)
  try simp only [Act.put, List.setIfInBounds_toArray, List.set_cons_zero, List.set_cons_succ]
  refine takeD (i := 9) (d := some 97) (v := ?_) rfl rfl (by kernel_rfl) (by kernel_rfl) (by kernel_rfl) (fun _ _ _ h => h) (Or.inl ⟨by rfl, ?_⟩) trivial ?_
  rotate_left
  · intro w hSw
    go_simp
    try (with_reducible rfl)
  try simp only [Act.put, List.setIfInBounds_toArray, List.set_cons_zero, List.set_cons_succ]
  refine takeD (i := 10) (d := some 98) (v := ?_) rfl rfl (by kernel_rfl) (by kernel_rfl) (by kernel_rfl) (fun _ _ _ h => h) (Or.inl ⟨by rfl, ?_⟩) trivial ?_
  rotate_left
  · intro w hSw
    go_simp
    try (with_reducible rfl)
  try simp only [Act.put, List.setIfInBounds_toArray, List.set_cons_zero, List.set_cons_succ]
  refine wpAnyH_ready (rs := [5, 7, 11]) (by kernel_rfl) (by simp) ?_
  refine AllReadyH.cons rfl (fun K hK => ?_) (AllReadyH.cons rfl (fun K hK => ?_) (AllReadyH.cons rfl (fun K hK => ?_) AllReadyH.nil))
  · go_simp
    go_wp2_with fail
    refine hK.out _ _ trivial (fun _ => ?_)
    clear hK K
    try simp only [Act.put, List.setIfInBounds_toArray, List.set_cons_zero, List.set_cons_succ]
    refine wpAnyH_ready (rs := [7, 11]) (by kernel_rfl) (by simp) ?_
    refine AllReadyH.cons rfl (fun K hK => ?_) (AllReadyH.cons rfl (fun K hK => ?_) AllReadyH.nil)
    · go_simp
      go_wp2_with fail
      refine hK.out _ _ trivial (fun _ => ?_)
      clear hK K
      try simp only [Act.put, List.setIfInBounds_toArray, List.set_cons_zero, List.set_cons_succ]
      refine wpAnyH_ready (rs := [11]) (by kernel_rfl) (by simp) ?_
      refine AllReadyH.cons rfl (fun K hK => ?_) AllReadyH.nil
      go_simp
      go_at_call 86
      with_reducible refine CL.mono ?_
      (rintro e w9 ⟨rfl, hw9⟩)
      subst hw9
      go_wp2_with fail
      refine hK.out _ _ trivial (fun _ => ?_)
      clear hK K
      try simp only [Act.put, List.setIfInBounds_toArray, List.set_cons_zero, List.set_cons_succ]
      refine takeD (i := 12) (d := some 100) (v := ?_) rfl rfl (by kernel_rfl) (by kernel_rfl) (by kernel_rfl) (fun _ _ _ h => h) (Or.inl ⟨by rfl, ?_⟩) trivial ?_
      rotate_left
      · intro w hSw
        go_simp
        try (with_reducible rfl)
      try simp only [Act.put, List.setIfInBounds_toArray, List.set_cons_zero, List.set_cons_succ]
      refine wpAnyH_ready (rs := [13]) (by kernel_rfl) (by simp) ?_
      refine AllReadyH.cons rfl (fun K hK => ?_) AllReadyH.nil
      go_simp
      go_wp2_with fail
      refine hK.out _ _ trivial (fun _ => ?_)
      clear hK K
      try simp only [Act.put, List.setIfInBounds_toArray, List.set_cons_zero, List.set_cons_succ]
      refine wpAnyH_done (by kernel_rfl) ?_ _
      refine NoPanic.normal ?_
      clear CL
      go_wp2_with (go_at_call 78; go_must (with_reducible refine C.mono ?_; (rintro e w2 ⟨rfl, sv2, hM2, hb2⟩)))
      go_end0
      exact ⟨rfl, sv2, hM2, HB0.out.trans hb2⟩
    · skip
      go_simp
      go_at_call 86
      with_reducible refine CL.mono ?_
      (rintro e w9 ⟨rfl, hw9⟩)
      subst hw9
      go_wp2_with fail
      refine hK.out _ _ trivial (fun _ => ?_)
      clear hK K
      try simp only [Act.put, List.setIfInBounds_toArray, List.set_cons_zero, List.set_cons_succ]
      refine wpAnyH_ready (rs := [7]) (by kernel_rfl) (by simp) ?_
      refine AllReadyH.cons rfl (fun K hK => ?_) AllReadyH.nil
      go_simp
      go_wp2_with fail
      refine hK.out _ _ trivial (fun _ => ?_)
      clear hK K
      try simp only [Act.put, List.setIfInBounds_toArray, List.set_cons_zero, List.set_cons_succ]
      refine takeD (i := 12) (d := some 100) (v := ?_) rfl rfl (by kernel_rfl) (by kernel_rfl) (by kernel_rfl) (fun _ _ _ h => h) (Or.inl ⟨by rfl, ?_⟩) trivial ?_
      rotate_left
      · intro w hSw
        go_simp
        try (with_reducible rfl)
      try simp only [Act.put, List.setIfInBounds_toArray, List.set_cons_zero, List.set_cons_succ]
      refine wpAnyH_ready (rs := [13]) (by kernel_rfl) (by simp) ?_
      refine AllReadyH.cons rfl (fun K hK => ?_) AllReadyH.nil
      go_simp
      go_wp2_with fail
      refine hK.out _ _ trivial (fun _ => ?_)
      clear hK K
      try simp only [Act.put, List.setIfInBounds_toArray, List.set_cons_zero, List.set_cons_succ]
      refine wpAnyH_done (by kernel_rfl) ?_ _
      refine NoPanic.normal ?_
      clear CL
      go_wp2_with (go_at_call 78; go_must (with_reducible refine C.mono ?_; (rintro e w2 ⟨rfl, sv2, hM2, hb2⟩)))
      go_end0
      exact ⟨rfl, sv2, hM2, HB0.out.trans hb2⟩
  · go_simp
    go_wp2_with fail
    refine hK.out _ _ trivial (fun _ => ?_)
    clear hK K
    try simp only [Act.put, List.setIfInBounds_toArray, List.set_cons_zero, List.set_cons_succ]
    refine wpAnyH_ready (rs := [5, 11]) (by kernel_rfl) (by simp) ?_
    refine AllReadyH.cons rfl (fun K hK => ?_) (AllReadyH.cons rfl (fun K hK => ?_) AllReadyH.nil)
    · go_simp
      go_wp2_with fail
      refine hK.out _ _ trivial (fun _ => ?_)
      clear hK K
      try simp only [Act.put, List.setIfInBounds_toArray, List.set_cons_zero, List.set_cons_succ]
      refine wpAnyH_ready (rs := [11]) (by kernel_rfl) (by simp) ?_
      refine AllReadyH.cons rfl (fun K hK => ?_) AllReadyH.nil
      go_simp
      go_at_call 86
      with_reducible refine CL.mono ?_
      (rintro e w9 ⟨rfl, hw9⟩)
      subst hw9
      go_wp2_with fail
      refine hK.out _ _ trivial (fun _ => ?_)
      clear hK K
      try simp only [Act.put, List.setIfInBounds_toArray, List.set_cons_zero, List.set_cons_succ]
      refine takeD (i := 12) (d := some 100) (v := ?_) rfl rfl (by kernel_rfl) (by kernel_rfl) (by kernel_rfl) (fun _ _ _ h => h) (Or.inl ⟨by rfl, ?_⟩) trivial ?_
      rotate_left
      · intro w hSw
        go_simp
        try (with_reducible rfl)
      try simp only [Act.put, List.setIfInBounds_toArray, List.set_cons_zero, List.set_cons_succ]
      refine wpAnyH_ready (rs := [13]) (by kernel_rfl) (by simp) ?_
      refine AllReadyH.cons rfl (fun K hK => ?_) AllReadyH.nil
      go_simp
      go_wp2_with fail
      refine hK.out _ _ trivial (fun _ => ?_)
      clear hK K
      try simp only [Act.put, List.setIfInBounds_toArray, List.set_cons_zero, List.set_cons_succ]
      refine wpAnyH_done (by kernel_rfl) ?_ _
      refine NoPanic.normal ?_
      clear CL
      go_wp2_with (go_at_call 78; go_must (with_reducible refine C.mono ?_; (rintro e w2 ⟨rfl, sv2, hM2, hb2⟩)))
      go_end0
      exact ⟨rfl, sv2, hM2, HB0.out.trans hb2⟩
    · skip
      go_simp
      go_at_call 86
      with_reducible refine CL.mono ?_
      (rintro e w9 ⟨rfl, hw9⟩)
      subst hw9
      go_wp2_with fail
      refine hK.out _ _ trivial (fun _ => ?_)
      clear hK K
      try simp only [Act.put, List.setIfInBounds_toArray, List.set_cons_zero, List.set_cons_succ]
      refine wpAnyH_ready (rs := [5]) (by kernel_rfl) (by simp) ?_
      refine AllReadyH.cons rfl (fun K hK => ?_) AllReadyH.nil
      go_simp
      go_wp2_with fail
      refine hK.out _ _ trivial (fun _ => ?_)
      clear hK K
      try simp only [Act.put, List.setIfInBounds_toArray, List.set_cons_zero, List.set_cons_succ]
      refine takeD (i := 12) (d := some 100) (v := ?_) rfl rfl (by kernel_rfl) (by kernel_rfl) (by kernel_rfl) (fun _ _ _ h => h) (Or.inl ⟨by rfl, ?_⟩) trivial ?_
      rotate_left
      · intro w hSw
        go_simp
        try (with_reducible rfl)
      try simp only [Act.put, List.setIfInBounds_toArray, List.set_cons_zero, List.set_cons_succ]
      refine wpAnyH_ready (rs := [13]) (by kernel_rfl) (by simp) ?_
      refine AllReadyH.cons rfl (fun K hK => ?_) AllReadyH.nil
      go_simp
      go_wp2_with fail
      refine hK.out _ _ trivial (fun _ => ?_)
      clear hK K
      try simp only [Act.put, List.setIfInBounds_toArray, List.set_cons_zero, List.set_cons_succ]
      refine wpAnyH_done (by kernel_rfl) ?_ _
      refine NoPanic.normal ?_
      clear CL
      go_wp2_with (go_at_call 78; go_must (with_reducible refine C.mono ?_; (rintro e w2 ⟨rfl, sv2, hM2, hb2⟩)))
      go_end0
      exact ⟨rfl, sv2, hM2, HB0.out.trans hb2⟩
  · skip
    go_simp
    go_at_call 86
    with_reducible refine CL.mono ?_
    (rintro e w9 ⟨rfl, hw9⟩)
    subst hw9
    go_wp2_with fail
    refine hK.out _ _ trivial (fun _ => ?_)
    clear hK K
    try simp only [Act.put, List.setIfInBounds_toArray, List.set_cons_zero, List.set_cons_succ]
    refine wpAnyH_ready (rs := [5, 7]) (by kernel_rfl) (by simp) ?_
    refine AllReadyH.cons rfl (fun K hK => ?_) (AllReadyH.cons rfl (fun K hK => ?_) AllReadyH.nil)
    · go_simp
      go_wp2_with fail
      refine hK.out _ _ trivial (fun _ => ?_)
      clear hK K
      try simp only [Act.put, List.setIfInBounds_toArray, List.set_cons_zero, List.set_cons_succ]
      refine wpAnyH_ready (rs := [7]) (by kernel_rfl) (by simp) ?_
      refine AllReadyH.cons rfl (fun K hK => ?_) AllReadyH.nil
      go_simp
      go_wp2_with fail
      refine hK.out _ _ trivial (fun _ => ?_)
      clear hK K
      try simp only [Act.put, List.setIfInBounds_toArray, List.set_cons_zero, List.set_cons_succ]
      refine takeD (i := 12) (d := some 100) (v := ?_) rfl rfl (by kernel_rfl) (by kernel_rfl) (by kernel_rfl) (fun _ _ _ h => h) (Or.inl ⟨by rfl, ?_⟩) trivial ?_
      rotate_left
      · intro w hSw
        go_simp
        try (with_reducible rfl)
      try simp only [Act.put, List.setIfInBounds_toArray, List.set_cons_zero, List.set_cons_succ]
      refine wpAnyH_ready (rs := [13]) (by kernel_rfl) (by simp) ?_
      refine AllReadyH.cons rfl (fun K hK => ?_) AllReadyH.nil
      go_simp
      go_wp2_with fail
      refine hK.out _ _ trivial (fun _ => ?_)
      clear hK K
      try simp only [Act.put, List.setIfInBounds_toArray, List.set_cons_zero, List.set_cons_succ]
      refine wpAnyH_done (by kernel_rfl) ?_ _
      refine NoPanic.normal ?_
      clear CL
      go_wp2_with (go_at_call 78; go_must (with_reducible refine C.mono ?_; (rintro e w2 ⟨rfl, sv2, hM2, hb2⟩)))
      go_end0
      exact ⟨rfl, sv2, hM2, HB0.out.trans hb2⟩
    · go_simp
      go_wp2_with fail
      refine hK.out _ _ trivial (fun _ => ?_)
      clear hK K
      try simp only [Act.put, List.setIfInBounds_toArray, List.set_cons_zero, List.set_cons_succ]
      refine wpAnyH_ready (rs := [5]) (by kernel_rfl) (by simp) ?_
      refine AllReadyH.cons rfl (fun K hK => ?_) AllReadyH.nil
      go_simp
      go_wp2_with fail
      refine hK.out _ _ trivial (fun _ => ?_)
      clear hK K
      try simp only [Act.put, List.setIfInBounds_toArray, List.set_cons_zero, List.set_cons_succ]
      refine takeD (i := 12) (d := some 100) (v := ?_) rfl rfl (by kernel_rfl) (by kernel_rfl) (by kernel_rfl) (fun _ _ _ h => h) (Or.inl ⟨by rfl, ?_⟩) trivial ?_
      rotate_left
      · intro w hSw
        go_simp
        try (with_reducible rfl)
      try simp only [Act.put, List.setIfInBounds_toArray, List.set_cons_zero, List.set_cons_succ]
      refine wpAnyH_ready (rs := [13]) (by kernel_rfl) (by simp) ?_
      refine AllReadyH.cons rfl (fun K hK => ?_) AllReadyH.nil
      go_simp
      go_wp2_with fail
      refine hK.out _ _ trivial (fun _ => ?_)
      clear hK K
      try simp only [Act.put, List.setIfInBounds_toArray, List.set_cons_zero, List.set_cons_succ]
      refine wpAnyH_done (by kernel_rfl) ?_ _
      refine NoPanic.normal ?_
      clear CL
      go_wp2_with (go_at_call 78; go_must (with_reducible refine C.mono ?_; (rintro e w2 ⟨rfl, sv2, hM2, hb2⟩)))
      go_end0
      exact ⟨rfl, sv2, hM2, HB0.out.trans hb2⟩
set_option linter.unusedSimpArgs false in
set_option maxRecDepth 100000 in
set_option maxHeartbeats 2000000 in
theorem plain_two_no {B : Bd} {w : World} {m : Nat} {M : Mc} {sk lo ar : List Int} {x y : Int} (h : Mach B w m M (y :: x :: sk).reverse lo ar) (op n : Int) (hop : 7 ≤ op ∧ op ≤ 13) (hv : rekL op x y = none) (hn : sk.length ≤ 10000) : Calls Tryz.prog 89 #[.pointer (some ⟨m, 0, none⟩), .agg #[.int .i64 op, .int .i64 n]] w fun e w' => e = upF 20 0 ∧ Mach B w' m M (y :: x :: sk).reverse lo ar ∧ Below B w w' := by
  have hlt := h.lt
  have hbm := h.bm
  have g1 : (op == 1) = false := by rw [beq_eq_false_iff_ne]; omega
  have g2 : (op == 2) = false := by rw [beq_eq_false_iff_ne]; omega
  have g3 : (op == 3) = false := by rw [beq_eq_false_iff_ne]; omega
  have g4 : (op == 4) = false := by rw [beq_eq_false_iff_ne]; omega
  have g5 : (op == 5) = false := by rw [beq_eq_false_iff_ne]; omega
  have g6 : (op == 6) = false := by rw [beq_eq_false_iff_ne]; omega
  have hb0 : Below w.heap.size w (w.alloc (.cells #[.int .i64 op, .int .i64 n] 55)) := ((Below.refl _ _).alloc (Nat.le_refl _) _)
  have hL : Mach B (w.alloc (.cells #[.int .i64 op, .int .i64 n] 55)) m M (sk.reverse ++ [x, y]) lo ar := by have := h.below hb0; simpa using this
  have CL := lastTwo_any hL (by simp; omega)
  have H0 := hide (h.below hb0)
  have CR := fun w => reckon_any op x y w
  unfold RekPost at CR
  rw [hv] at CR
  have hcb : (w.alloc (.cells #[.int .i64 op, .int .i64 n] 55)).cell? ⟨w.heap.size, 0, none⟩ = some (.int .i64 op) := cell_row (cs := [.int .i64 op, .int .i64 n]) (heap_alloc_new w _) rfl
  clear h hL
  go_enter Tryz.func89, Tryz.ntmps89
  go_wp2_with (go_at_call 102; go_must (with_reducible refine CL.mono ?_; (rintro e w9 ⟨rfl, hb9⟩); refine Hid.out ?_))
  refine Lib.hid ?_
  have cb9 : w9.drew.cell? ⟨w.heap.size, 0, none⟩ = some (.int .i64 op) := keep_cell hcb (hb9.drew)
  simp only [upF, failV] at CR
  have HF := hide (show Mach B w9.drew m M (y :: x :: sk).reverse lo ar ∧ Below B w w9.drew from ⟨H0.out.below hb9.drew, (hb0.trans (hb9.drew.mono (by simp))).mono (by omega)⟩)
  clear CL hcb
  go_wp2_with fail
  refine wp_region_held_drew (S := fun _ => True) (by kernel_rfl) trivial (fun _ => ?_)
  refine takeD (i := 0) (d := some 17) (v := ?_) rfl rfl (by kernel_rfl) (by kernel_rfl) (by kernel_rfl) (fun _ _ _ h => h) (Or.inl ⟨by rfl, ?_⟩) trivial ?_
  rotate_left
  · intro w hSw
    go_simp
    try (with_reducible rfl)
  try simp only [Act.put, List.setIfInBounds_toArray, List.set_cons_zero, List.set_cons_succ]
  refine takeD (i := 1) (d := some 18) (v := ?_) rfl rfl (by kernel_rfl) (by kernel_rfl) (by kernel_rfl) (fun _ _ _ h => h) (Or.inl ⟨by rfl, ?_⟩) trivial ?_
  rotate_left
  · intro w hSw
    go_simp
    try (with_reducible rfl)
  try simp only [Act.put, List.setIfInBounds_toArray, List.set_cons_zero, List.set_cons_succ]
  refine takeD (i := 2) (d := some 19) (v := ?_) rfl rfl (by kernel_rfl) (by kernel_rfl) (by kernel_rfl) (fun _ _ _ h => h) (Or.inl ⟨by rfl, ?_⟩) trivial ?_
  rotate_left
  · intro w hSw
    go_simp
    try (with_reducible rfl)
  try simp only [Act.put, List.setIfInBounds_toArray, List.set_cons_zero, List.set_cons_succ]
  refine takeD (i := 3) (d := some 20) (v := ?_) rfl rfl (by kernel_rfl) (by kernel_rfl) (by kernel_rfl) (fun _ _ _ h => h) (Or.inl ⟨by rfl, ?_⟩) trivial ?_
  rotate_left
  · intro w hSw
    go_simp
    try (with_reducible rfl)
  try simp only [Act.put, List.setIfInBounds_toArray, List.set_cons_zero, List.set_cons_succ]
  refine takeD (i := 5) (d := some 22) (v := ?_) rfl rfl (by kernel_rfl) (by kernel_rfl) (by kernel_rfl) (fun _ _ _ h => h) (Or.inl ⟨by rfl, ?_⟩) trivial ?_
  rotate_left
  · intro w hSw
    go_simp
    try (with_reducible rfl)
  try simp only [Act.put, List.setIfInBounds_toArray, List.set_cons_zero, List.set_cons_succ]
  refine takeD (i := 6) (d := some 23) (v := ?_) rfl rfl (by kernel_rfl) (by kernel_rfl) (by kernel_rfl) (fun _ _ _ h => h) (Or.inl ⟨by rfl, ?_⟩) trivial ?_
  rotate_left
  · intro w hSw
    go_simp
    try (with_reducible rfl)
  try simp only [Act.put, List.setIfInBounds_toArray, List.set_cons_zero, List.set_cons_succ]
  refine wpAnyH_ready (rs := [4]) (by kernel_rfl) (by simp) ?_
  refine AllReadyH.cons rfl (fun K hK => ?_) AllReadyH.nil
  go_simp
  go_wp2_with fail
  refine hK.out _ _ trivial (fun _ => ?_)
  clear hK K
  try simp only [Act.put, List.setIfInBounds_toArray, List.set_cons_zero, List.set_cons_succ]
  refine wpAnyH_ready (rs := [7]) (by kernel_rfl) (by simp) ?_
  refine AllReadyH.cons rfl (fun K hK => ?_) AllReadyH.nil
  go_simp
  go_at_call 103
  with_reducible refine (CR _).mono ?_
  (rintro e w8 ⟨rfl, hw8⟩)
  subst hw8
  exact ⟨rfl, rfl, HF.out.1, HF.out.2⟩
theorem plain_no {B : Bd} {w : World} {m : Nat} {M : Mc} {sk lo ar : List Int} (h : Mach B w m M sk.reverse lo ar) (op n : Int) (hp : plL op n sk = some none) (hn : sk.length ≤ 10000) : Calls Tryz.prog 89 #[.pointer (some ⟨m, 0, none⟩), .agg #[.int .i64 op, .int .i64 n]] w fun e w' => e = upF 20 0 ∧ Mach B w' m M sk.reverse lo ar ∧ Below B w w' := by
  unfold plL at hp
  split at hp
  · simp at hp
  · split at hp
    · cases sk <;> simp at hp
    · split at hp
      · cases sk <;> simp at hp
      · split at hp
        · rcases sk with _ | ⟨y, _ | ⟨x, r⟩⟩ <;> simp at hp
        · split at hp
          · rename_i h7
            rcases sk with _ | ⟨y, _ | ⟨x, r⟩⟩
            · simp at hp
            · simp at hp
            · simp only [Option.some.injEq, Option.map_eq_none_iff] at hp
              exact plain_two_no h op n h7 hp (by simp at hn; omega)
          · simp at hp
end Go.Proofs.YtnkfdpnommjlcaaGreatDoor
