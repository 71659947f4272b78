/- plain: locals; what goes up. -/
import Derived.Test.YtbpcibnomkfglaaGreatDoorRet
import Derived.Test.YtbpcibnomkfglaaGreatDoorNewM
import Derived.Test.YtbpcibnomkfglaaGreatDoorPm
namespace Go.Proofs.YtbpcibnomkfglaaGreatDoor
open Go.RowKit Go.ChangeShapes Go.WideShapes Go.ChangeAt Go.Deep

theorem own_putI {w : World} {B g n cap : Nat} {zs : List Int} (ho : w.ownsRow B 3 1 (.slice (some ⟨g, 0, none⟩) n cap) n (iV zs)) (j : Nat) (y : Int) :
    (w.setCell ⟨g, j, none⟩ (.int .i64 y)).ownsRow B 3 1 (.slice (some ⟨g, 0, none⟩) n cap) n (iV (zs.set j y)) := by
  have h := ho.stored j (.int .i64 y)
  have e : (iV zs).set j (.int .i64 y) = iV (zs.set j y) := by simp [iV, List.map_set]
  rw [← e]; exact h.1
/-- A local is put. -/
theorem Mach.loc_put {B : Bd} {w : World} {m : Nat} {M : Mc} {st lo ar : List Int} (h : Mach B w m M st lo ar) (g cap : Nat) (e : M.lv = .slice (some ⟨g, 0, none⟩) lo.length cap) (k : Nat) (x : Int) : Mach B (w.setCell ⟨g, k, none⟩ (.int .i64 x)) m M st (lo.set k x) ar ∧ B ≤ g := by
  have hk : ∀ q, q ≠ g → (w.setCell ⟨g, k, none⟩ (.int .i64 x)).heap[q]? = w.heap[q]? := fun q hq => heap_setCell_other _ _ _ _ hq
  have hl := h.loc
  have eb : M.lv.ownBlock = some g := by rw [e]; rfl
  have hgm : g ≠ m := row_ne hl h.at_ g eb
  have hlo : (w.setCell ⟨g, k, none⟩ (.int .i64 x)).ownsRow B 3 1 M.lv (lo.set k x).length (iV (lo.set k x)) := by
    rw [e] at hl ⊢
    rw [List.length_set]
    exact own_putI hl k x
  refine ⟨⟨?_, h.bm, ?_, hlo, ?_, h.sl, h.sa, h.la, ?_⟩, (hl.lt g eb).1⟩
  · rw [hk m (fun e => hgm e.symm)]; exact h.at_
  · exact own_keepI h.own (fun q hq => hk q (fun e => by subst e; exact h.sl q hq eb))
  · exact own_keepI h.arg (fun q hq => hk q (fun e => by subst e; exact h.la q eb hq))
  · intro k' u hku
    have hq := h.kept k' u hku
    rw [hk k' (fun e => by subst e; exact row_ne59 hl hq k' eb rfl)]
    exact hq
set_option linter.unusedSimpArgs false in
set_option maxRecDepth 100000 in
set_option maxHeartbeats 2000000 in
theorem plain_load {B : Bd} {w : World} {m : Nat} {M : Mc} {sk lo ar : List Int} (h : Mach B w m M sk.reverse lo ar) (k : Nat) (v : Int) (hv : lo[k]? = some v) (hn : sk.length ≤ 10000) : Calls Tryz.prog 88 #[.pointer (some ⟨m, 0, none⟩), .agg #[.int .i64 5, .int .i64 (k : Int)]] w fun e w' => e = .returned (.tuple #[]) ∧ ∃ sv, Mach B w' m { M with sv := sv } (v :: sk).reverse lo ar ∧ Below B w w' := by
  have hlt := h.lt
  have hbm := h.bm
  have hb0 : Below w.heap.size w ((w.alloc (.cells #[.int .i64 5, .int .i64 (k : Int)] 40)).alloc (.cells #[.int .i64 v] 3)).drew := (((Below.refl _ _).alloc (Nat.le_refl _) _).alloc (by simp) _).drew
  have h1 := h.below hb0
  have C : Calls Tryz.prog 76 #[.pointer (some ⟨m, 0, none⟩), .int .i64 0, .slice (some ⟨w.heap.size + 1, 0, none⟩) 1 1] ((w.alloc (.cells #[.int .i64 5, .int .i64 (k : Int)] 40)).alloc (.cells #[.int .i64 v] 3)).drew (PutPost B _ m M (v :: sk).reverse lo ar) := put_rev h1 0 (by omega) (by omega) (some ⟨w.heap.size + 1, 0, none⟩) 1 1 [v] (v :: sk) (Reads.drew (reads_next w _ [.int .i64 v] 3)) rfl (fun h => by cases h) (by omega) (by simp)
  have HB0 := hide (hb0.mono (show B ≤ w.heap.size by omega))
  unfold PutPost at C
  obtain ⟨la, lc, e, _, _, hrl⟩ := slice_form (n := lo.length) h.loc rfl
  obtain ⟨lb, lof, rfl, hlv⟩ := reads_iV hrl hv
  have hkl : k < lo.length := (List.getElem?_eq_some_iff.1 hv).1
  have hkl' : (k : Int) < (lo.length : Int) := by omega
  have hba : Below w.heap.size w (w.alloc (.cells #[.int .i64 5, .int .i64 (k : Int)] 40)).drew := ((Below.refl _ _).alloc (Nat.le_refl _) _).drew
  have c4 := keep_cell (h.cell 4 _ rfl) hba
  rw [e] at c4
  have hlv' := keep_cell hlv hba
  have bx : (w.alloc (.cells #[.int .i64 5, .int .i64 (k : Int)] 40)).drew.cell? ⟨w.heap.size, 1, none⟩ = some (.int .i64 (k : Int)) := keep_cell (cell_row (cs := [.int .i64 5, .int .i64 (k : Int)]) (i := 1) (heap_alloc_new w _) rfl) ((Below.refl _ _).drew)
  clear h h1 hrl hlv hba
  go_enter Tryz.func88, Tryz.ntmps88
  go_wp2_with fail
  refine wp_region_noPanic ?_
  refine wp_region_held_drew (S := fun _ => True) (by kernel_rfl) trivial (fun _ => ?_)
  refine takeD (i := 0) (d := some 71) (v := ?_) rfl rfl (by kernel_rfl) (by kernel_rfl) (by kernel_rfl) (fun _ _ _ h => h) (Or.inl ⟨by rfl, ?_⟩) trivial ?_
  rotate_left
  · intro w hSw
    go_simp
    try (with_reducible rfl)
  try simp only [Act.put, List.setIfInBounds_toArray, List.set_cons_zero, List.set_cons_succ]
  refine takeD (i := 1) (d := some 72) (v := ?_) rfl rfl (by kernel_rfl) (by kernel_rfl) (by kernel_rfl) (fun _ _ _ h => h) (Or.inl ⟨by rfl, ?_⟩) trivial ?_
  rotate_left
  · intro w hSw
    go_simp
    try (with_reducible rfl)
  try simp only [Act.put, List.setIfInBounds_toArray, List.set_cons_zero, List.set_cons_succ]
  refine takeD (i := 2) (d := some 73) (v := ?_) rfl rfl (by kernel_rfl) (by kernel_rfl) (by kernel_rfl) (fun _ _ _ h => h) (Or.inl ⟨by rfl, ?_⟩) trivial ?_
  rotate_left
  · intro w hSw
    go_simp
    try (with_reducible rfl)
  try simp only [Act.put, List.setIfInBounds_toArray, List.set_cons_zero, List.set_cons_succ]
  refine takeD (i := 3) (d := some 74) (v := ?_) rfl rfl (by kernel_rfl) (by kernel_rfl) (by kernel_rfl) (fun _ _ _ h => h) (Or.inl ⟨by rfl, ?_⟩) trivial ?_
  rotate_left
  · intro w hSw
    go_simp
    try (with_reducible rfl)
  try simp only [Act.put, List.setIfInBounds_toArray, List.set_cons_zero, List.set_cons_succ]
  refine takeD (i := 4) (d := some 75) (v := ?_) rfl rfl (by kernel_rfl) (by kernel_rfl) (by kernel_rfl) (fun _ _ _ h => h) (Or.inl ⟨by rfl, ?_⟩) trivial ?_
  rotate_left
  · intro w hSw
    go_simp
    try (with_reducible rfl)
  try simp only [Act.put, List.setIfInBounds_toArray, List.set_cons_zero, List.set_cons_succ]
  refine takeD (i := 5) (d := some 76) (v := ?_) rfl rfl (by kernel_rfl) (by kernel_rfl) (by kernel_rfl) (fun _ _ _ h => h) (Or.inl ⟨by rfl, ?_⟩) trivial ?_
  rotate_left
  · intro w hSw
    go_simp
    try (with_reducible rfl)
  try simp only [Act.put, List.setIfInBounds_toArray, List.set_cons_zero, List.set_cons_succ]
  refine takeD (i := 6) (d := some 77) (v := ?_) rfl rfl (by kernel_rfl) (by kernel_rfl) (by kernel_rfl) (fun _ _ _ h => h) (Or.inl ⟨by rfl, ?_⟩) trivial ?_
  rotate_left
  · intro w hSw
    go_simp
    try (with_reducible rfl)
  try simp only [Act.put, List.setIfInBounds_toArray, List.set_cons_zero, List.set_cons_succ]
  refine takeD (i := 7) (d := some 78) (v := ?_) rfl rfl (by kernel_rfl) (by kernel_rfl) (by kernel_rfl) (fun _ _ _ h => h) (Or.inl ⟨by rfl, ?_⟩) trivial ?_
  rotate_left
  · intro w hSw
    go_simp
    try (with_reducible rfl)
  try simp only [Act.put, List.setIfInBounds_toArray, List.set_cons_zero, List.set_cons_succ]
  refine takeD (i := 9) (d := some 80) (v := ?_) rfl rfl (by kernel_rfl) (by kernel_rfl) (by kernel_rfl) (fun _ _ _ h => h) (Or.inl ⟨by rfl, ?_⟩) trivial ?_
  rotate_left
  · intro w hSw
    go_simp
    try (with_reducible rfl)
  try simp only [Act.put, List.setIfInBounds_toArray, List.set_cons_zero, List.set_cons_succ]
  refine wpAnyH_ready (rs := [8, 10]) (by kernel_rfl) (by simp) ?_
  refine AllReadyH.cons rfl (fun K hK => ?_) (AllReadyH.cons rfl (fun K hK => ?_) AllReadyH.nil)
  · go_simp
    go_wp2_with fail
    refine hK.out _ _ trivial (fun _ => ?_)
    clear hK K
    try simp only [Act.put, List.setIfInBounds_toArray, List.set_cons_zero, List.set_cons_succ]
    refine wpAnyH_ready (rs := [10]) (by kernel_rfl) (by simp) ?_
    refine AllReadyH.cons rfl (fun K hK => ?_) AllReadyH.nil
    go_simp
    go_wp2_with fail
    refine hK.out _ _ trivial (fun _ => ?_)
    clear hK K
    try simp only [Act.put, List.setIfInBounds_toArray, List.set_cons_zero, List.set_cons_succ]
    refine takeD (i := 11) (d := some 82) (v := ?_) rfl rfl (by kernel_rfl) (by kernel_rfl) (by kernel_rfl) (fun _ _ _ h => h) (Or.inl ⟨by rfl, ?_⟩) trivial ?_
    rotate_left
    · intro w hSw
      go_simp
      try (with_reducible rfl)
    try simp only [Act.put, List.setIfInBounds_toArray, List.set_cons_zero, List.set_cons_succ]
    refine wpAnyH_ready (rs := [12]) (by kernel_rfl) (by simp) ?_
    refine AllReadyH.cons rfl (fun K hK => ?_) AllReadyH.nil
    go_simp
    go_wp2_with fail
    refine hK.out _ _ trivial (fun _ => ?_)
    clear hK K
    try simp only [Act.put, List.setIfInBounds_toArray, List.set_cons_zero, List.set_cons_succ]
    refine wpAnyH_ready (rs := [13]) (by kernel_rfl) (by simp) ?_
    refine AllReadyH.cons rfl (fun K hK => ?_) AllReadyH.nil
    go_simp
    go_wp2_with fail
    refine hK.out _ _ trivial (fun _ => ?_)
    clear hK K
    try simp only [Act.put, List.setIfInBounds_toArray, List.set_cons_zero, List.set_cons_succ]
    refine wpAnyH_ready (rs := [14]) (by kernel_rfl) (by simp) ?_
    refine AllReadyH.cons rfl (fun K hK => ?_) AllReadyH.nil
    go_simp
    go_at_call 76
    with_reducible refine C.mono ?_
    (rintro e w2 ⟨rfl, sv2, hM2, hb2⟩)
    go_wp2_with fail
    refine hK.out _ _ trivial (fun _ => ?_)
    clear hK K
    try simp only [Act.put, List.setIfInBounds_toArray, List.set_cons_zero, List.set_cons_succ]
    refine wpAnyH_done (by kernel_rfl) ?_ _
    refine NoPanic.normal ?_
    go_wp2_with fail
    go_end0
    exact ⟨rfl, sv2, hM2, HB0.out.trans hb2⟩
  · go_simp
    go_wp2_with fail
    refine hK.out _ _ trivial (fun _ => ?_)
    clear hK K
    try simp only [Act.put, List.setIfInBounds_toArray, List.set_cons_zero, List.set_cons_succ]
    refine wpAnyH_ready (rs := [8]) (by kernel_rfl) (by simp) ?_
    refine AllReadyH.cons rfl (fun K hK => ?_) AllReadyH.nil
    go_simp
    go_wp2_with fail
    refine hK.out _ _ trivial (fun _ => ?_)
    clear hK K
    try simp only [Act.put, List.setIfInBounds_toArray, List.set_cons_zero, List.set_cons_succ]
    refine takeD (i := 11) (d := some 82) (v := ?_) rfl rfl (by kernel_rfl) (by kernel_rfl) (by kernel_rfl) (fun _ _ _ h => h) (Or.inl ⟨by rfl, ?_⟩) trivial ?_
    rotate_left
    · intro w hSw
      go_simp
      try (with_reducible rfl)
    try simp only [Act.put, List.setIfInBounds_toArray, List.set_cons_zero, List.set_cons_succ]
    refine wpAnyH_ready (rs := [12]) (by kernel_rfl) (by simp) ?_
    refine AllReadyH.cons rfl (fun K hK => ?_) AllReadyH.nil
    go_simp
    go_wp2_with fail
    refine hK.out _ _ trivial (fun _ => ?_)
    clear hK K
    try simp only [Act.put, List.setIfInBounds_toArray, List.set_cons_zero, List.set_cons_succ]
    refine wpAnyH_ready (rs := [13]) (by kernel_rfl) (by simp) ?_
    refine AllReadyH.cons rfl (fun K hK => ?_) AllReadyH.nil
    go_simp
    go_wp2_with fail
    refine hK.out _ _ trivial (fun _ => ?_)
    clear hK K
    try simp only [Act.put, List.setIfInBounds_toArray, List.set_cons_zero, List.set_cons_succ]
    refine wpAnyH_ready (rs := [14]) (by kernel_rfl) (by simp) ?_
    refine AllReadyH.cons rfl (fun K hK => ?_) AllReadyH.nil
    go_simp
    go_at_call 76
    with_reducible refine C.mono ?_
    (rintro e w2 ⟨rfl, sv2, hM2, hb2⟩)
    go_wp2_with fail
    refine hK.out _ _ trivial (fun _ => ?_)
    clear hK K
    try simp only [Act.put, List.setIfInBounds_toArray, List.set_cons_zero, List.set_cons_succ]
    refine wpAnyH_done (by kernel_rfl) ?_ _
    refine NoPanic.normal ?_
    go_wp2_with fail
    go_end0
    exact ⟨rfl, sv2, hM2, HB0.out.trans hb2⟩
set_option linter.unusedSimpArgs false in
set_option maxRecDepth 100000 in
set_option maxHeartbeats 2000000 in
theorem plain_store {B : Bd} {w : World} {m : Nat} {M : Mc} {sk lo ar : List Int} {x : Int} (h : Mach B w m M (x :: sk).reverse lo ar) (k : Nat) (hk : k < lo.length) (hn : sk.length ≤ 10000) : Calls Tryz.prog 88 #[.pointer (some ⟨m, 0, none⟩), .agg #[.int .i64 6, .int .i64 (k : Int)]] w fun e w' => e = .returned (.tuple #[]) ∧ ∃ sv, Mach B w' m { M with sv := sv } sk.reverse (lo.set k x) ar ∧ Below B w w' := by
  have hlt := h.lt
  have hbm := h.bm
  have hb0 : Below w.heap.size w (w.alloc (.cells #[.int .i64 6, .int .i64 (k : Int)] 40)) := ((Below.refl _ _).alloc (Nat.le_refl _) _)
  have h1 := h.below hb0
  have hbd : Below (w.alloc (.cells #[.int .i64 6, .int .i64 (k : Int)] 40)).heap.size (w.alloc (.cells #[.int .i64 6, .int .i64 (k : Int)] 40)) (w.alloc (.cells #[.int .i64 6, .int .i64 (k : Int)] 40)).drew := (Below.refl _ _).drew
  have h1d := h1.below hbd
  have hL : Mach B (w.alloc (.cells #[.int .i64 6, .int .i64 (k : Int)] 40)).drew m M (sk.reverse ++ [x]) lo ar := by simpa using h1d
  have CL := last_any hL (by simp; omega)
  obtain ⟨v, hv⟩ : ∃ v, lo[k]? = some v := ⟨lo[k], List.getElem?_eq_getElem hk⟩
  obtain ⟨lb, cap, e⟩ : ∃ g cap, M.lv = .slice (some ⟨g, 0, none⟩) lo.length cap := by
    rcases h.loc.2 with ⟨_, h0⟩ | ⟨g, cap, cur, e, _⟩
    · omega
    · exact ⟨g, cap, e⟩
  have hkl' : (k : Int) < (lo.length : Int) := by omega
  have c4 := h1d.cell 4 _ rfl
  rw [e] at c4
  have hlo1 := h1d.loc
  rw [e] at hlo1
  have clb : (w.alloc (.cells #[.int .i64 6, .int .i64 (k : Int)] 40)).drew.cell? ⟨lb, k, none⟩ = some (.int .i64 v) := by
    have := hlo1.cells (g := lb) rfl k (.int .i64 v) (by simp [iV, hv])
    rwa [add_none, Nat.zero_add] at this
  have flb : (w.alloc (.cells #[.int .i64 6, .int .i64 (k : Int)] 40)).drew.frozen? ⟨lb, k, none⟩ = false := by
    rcases hlo1.2 with ⟨q, _⟩ | ⟨g, cap', cur, q, _, hh, _⟩
    · cases q
    · simp only [Value.slice.injEq, Option.some.injEq, Addr.mk.injEq] at q
      obtain ⟨⟨rfl, _, _⟩, _, _⟩ := q
      simp only [World.frozen?, hh]; simp
  obtain ⟨h2, hBg⟩ := h1.loc_put lb cap e k x
  have C : Calls Tryz.prog 76 #[.pointer (some ⟨m, 0, none⟩), .int .i64 1, .slice none 0 0] ((w.alloc (.cells #[.int .i64 6, .int .i64 (k : Int)] 40)).setCell ⟨lb, k, none⟩ (.int .i64 x)).drew (PutPost B _ m M sk.reverse (lo.set k x) ar) := put_rev (h2.below ((Below.refl _ _).drew)) 1 (by simp) (by simp; omega) none 0 0 [] sk (.inl rfl) rfl (fun _ => ⟨rfl, rfl⟩) (by omega) (by simp)
  have HB0 := hide (show Below B w ((w.alloc (.cells #[.int .i64 6, .int .i64 (k : Int)] 40)).setCell ⟨lb, k, none⟩ (.int .i64 x)).drew from ((hb0.mono (by omega)).setCell (p := ⟨lb, k, none⟩) hBg _).drew)
  unfold PutPost at C
  have bx : (w.alloc (.cells #[.int .i64 6, .int .i64 (k : Int)] 40)).drew.cell? ⟨w.heap.size, 1, none⟩ = some (.int .i64 (k : Int)) := keep_cell (cell_row (cs := [.int .i64 6, .int .i64 (k : Int)]) (i := 1) (heap_alloc_new w _) rfl) ((Below.refl _ _).drew)
  clear h h1 h2 hL hlo1 h1d hbd
  go_enter Tryz.func88, Tryz.ntmps88
  go_wp2_with fail
  refine wp_region_noPanic ?_
  refine wp_region_held_drew (S := fun _ => True) (by kernel_rfl) trivial (fun _ => ?_)
  refine takeD (i := 0) (d := some 88) (v := ?_) rfl rfl (by kernel_rfl) (by kernel_rfl) (by kernel_rfl) (fun _ _ _ h => h) (Or.inl ⟨by rfl, ?_⟩) trivial ?_
  rotate_left
  · intro w hSw
    go_simp
    try (with_reducible rfl)
  try simp only [Act.put, List.setIfInBounds_toArray, List.set_cons_zero, List.set_cons_succ]
  refine takeD (i := 1) (d := some 89) (v := ?_) rfl rfl (by kernel_rfl) (by kernel_rfl) (by kernel_rfl) (fun _ _ _ h => h) (Or.inl ⟨by rfl, ?_⟩) trivial ?_
  rotate_left
  · intro w hSw
    go_simp
    try (with_reducible rfl)
  try simp only [Act.put, List.setIfInBounds_toArray, List.set_cons_zero, List.set_cons_succ]
  refine takeD (i := 2) (d := some 90) (v := ?_) rfl rfl (by kernel_rfl) (by kernel_rfl) (by kernel_rfl) (fun _ _ _ h => h) (Or.inl ⟨by rfl, ?_⟩) trivial ?_
  rotate_left
  · intro w hSw
    go_simp
    try (with_reducible rfl)
  try simp only [Act.put, List.setIfInBounds_toArray, List.set_cons_zero, List.set_cons_succ]
  refine takeD (i := 3) (d := some 91) (v := ?_) rfl rfl (by kernel_rfl) (by kernel_rfl) (by kernel_rfl) (fun _ _ _ h => h) (Or.inl ⟨by rfl, ?_⟩) trivial ?_
  rotate_left
  · intro w hSw
    go_simp
    try (with_reducible rfl)
  try simp only [Act.put, List.setIfInBounds_toArray, List.set_cons_zero, List.set_cons_succ]
  refine takeD (i := 4) (d := some 92) (v := ?_) rfl rfl (by kernel_rfl) (by kernel_rfl) (by kernel_rfl) (fun _ _ _ h => h) (Or.inl ⟨by rfl, ?_⟩) trivial ?_
  rotate_left
  · intro w hSw
    go_simp
    try (with_reducible rfl)
  try simp only [Act.put, List.setIfInBounds_toArray, List.set_cons_zero, List.set_cons_succ]
  refine takeD (i := 6) (d := some 94) (v := ?_) rfl rfl (by kernel_rfl) (by kernel_rfl) (by kernel_rfl) (fun _ _ _ h => h) (Or.inl ⟨by rfl, ?_⟩) trivial ?_
  rotate_left
  · intro w hSw
    go_simp
    try (with_reducible rfl)
  try simp only [Act.put, List.setIfInBounds_toArray, List.set_cons_zero, List.set_cons_succ]
  refine takeD (i := 8) (d := some 96) (v := ?_) rfl rfl (by kernel_rfl) (by kernel_rfl) (by kernel_rfl) (fun _ _ _ h => h) (Or.inl ⟨by rfl, ?_⟩) trivial ?_
  rotate_left
  · intro w hSw
    go_simp
    try (with_reducible rfl)
  try simp only [Act.put, List.setIfInBounds_toArray, List.set_cons_zero, List.set_cons_succ]
  refine takeD (i := 9) (d := some 97) (v := ?_) rfl rfl (by kernel_rfl) (by kernel_rfl) (by kernel_rfl) (fun _ _ _ h => h) (Or.inl ⟨by rfl, ?_⟩) trivial ?_
  rotate_left
  · intro w hSw
    go_simp
    try (with_reducible rfl)
  try simp only [Act.put, List.setIfInBounds_toArray, List.set_cons_zero, List.set_cons_succ]
  refine takeD (i := 10) (d := some 98) (v := ?_) rfl rfl (by kernel_rfl) (by kernel_rfl) (by kernel_rfl) (fun _ _ _ h => h) (Or.inl ⟨by rfl, ?_⟩) trivial ?_
  rotate_left
  · intro w hSw
    go_simp
    try (with_reducible rfl)
  try simp only [Act.put, List.setIfInBounds_toArray, List.set_cons_zero, List.set_cons_succ]
  refine wpAnyH_ready (rs := [5, 7, 11]) (by kernel_rfl) (by simp) ?_
  refine AllReadyH.cons rfl (fun K hK => ?_) (AllReadyH.cons rfl (fun K hK => ?_) (AllReadyH.cons rfl (fun K hK => ?_) AllReadyH.nil))
  · go_simp
    go_wp2_with fail
    refine hK.out _ _ trivial (fun _ => ?_)
    clear hK K
    try simp only [Act.put, List.setIfInBounds_toArray, List.set_cons_zero, List.set_cons_succ]
    refine wpAnyH_ready (rs := [7, 11]) (by kernel_rfl) (by simp) ?_
    refine AllReadyH.cons rfl (fun K hK => ?_) (AllReadyH.cons rfl (fun K hK => ?_) AllReadyH.nil)
    · go_simp
      go_wp2_with fail
      refine hK.out _ _ trivial (fun _ => ?_)
      clear hK K
      try simp only [Act.put, List.setIfInBounds_toArray, List.set_cons_zero, List.set_cons_succ]
      refine wpAnyH_ready (rs := [11]) (by kernel_rfl) (by simp) ?_
      refine AllReadyH.cons rfl (fun K hK => ?_) AllReadyH.nil
      go_simp
      go_at_call 85
      with_reducible refine CL.mono ?_
      (rintro e w9 ⟨rfl, hw9⟩)
      subst hw9
      go_wp2_with fail
      refine hK.out _ _ trivial (fun _ => ?_)
      clear hK K
      try simp only [Act.put, List.setIfInBounds_toArray, List.set_cons_zero, List.set_cons_succ]
      refine takeD (i := 12) (d := some 100) (v := ?_) rfl rfl (by kernel_rfl) (by kernel_rfl) (by kernel_rfl) (fun _ _ _ h => h) (Or.inl ⟨by rfl, ?_⟩) trivial ?_
      rotate_left
      · intro w hSw
        go_simp
        try (with_reducible rfl)
      try simp only [Act.put, List.setIfInBounds_toArray, List.set_cons_zero, List.set_cons_succ]
      refine wpAnyH_ready (rs := [13]) (by kernel_rfl) (by simp) ?_
      refine AllReadyH.cons rfl (fun K hK => ?_) AllReadyH.nil
      go_simp
      go_wp2_with fail
      refine hK.out _ _ trivial (fun _ => ?_)
      clear hK K
      try simp only [Act.put, List.setIfInBounds_toArray, List.set_cons_zero, List.set_cons_succ]
      refine wpAnyH_done (by kernel_rfl) ?_ _
      refine NoPanic.normal ?_
      clear CL
      go_wp2_with (go_at_call 76; go_must (with_reducible refine C.mono ?_; (rintro e w2 ⟨rfl, sv2, hM2, hb2⟩)))
      go_end0
      exact ⟨rfl, sv2, hM2, HB0.out.trans hb2⟩
    · skip
      go_simp
      go_at_call 85
      with_reducible refine CL.mono ?_
      (rintro e w9 ⟨rfl, hw9⟩)
      subst hw9
      go_wp2_with fail
      refine hK.out _ _ trivial (fun _ => ?_)
      clear hK K
      try simp only [Act.put, List.setIfInBounds_toArray, List.set_cons_zero, List.set_cons_succ]
      refine wpAnyH_ready (rs := [7]) (by kernel_rfl) (by simp) ?_
      refine AllReadyH.cons rfl (fun K hK => ?_) AllReadyH.nil
      go_simp
      go_wp2_with fail
      refine hK.out _ _ trivial (fun _ => ?_)
      clear hK K
      try simp only [Act.put, List.setIfInBounds_toArray, List.set_cons_zero, List.set_cons_succ]
      refine takeD (i := 12) (d := some 100) (v := ?_) rfl rfl (by kernel_rfl) (by kernel_rfl) (by kernel_rfl) (fun _ _ _ h => h) (Or.inl ⟨by rfl, ?_⟩) trivial ?_
      rotate_left
      · intro w hSw
        go_simp
        try (with_reducible rfl)
      try simp only [Act.put, List.setIfInBounds_toArray, List.set_cons_zero, List.set_cons_succ]
      refine wpAnyH_ready (rs := [13]) (by kernel_rfl) (by simp) ?_
      refine AllReadyH.cons rfl (fun K hK => ?_) AllReadyH.nil
      go_simp
      go_wp2_with fail
      refine hK.out _ _ trivial (fun _ => ?_)
      clear hK K
      try simp only [Act.put, List.setIfInBounds_toArray, List.set_cons_zero, List.set_cons_succ]
      refine wpAnyH_done (by kernel_rfl) ?_ _
      refine NoPanic.normal ?_
      clear CL
      go_wp2_with (go_at_call 76; go_must (with_reducible refine C.mono ?_; (rintro e w2 ⟨rfl, sv2, hM2, hb2⟩)))
      go_end0
      exact ⟨rfl, sv2, hM2, HB0.out.trans hb2⟩
  · go_simp
    go_wp2_with fail
    refine hK.out _ _ trivial (fun _ => ?_)
    clear hK K
    try simp only [Act.put, List.setIfInBounds_toArray, List.set_cons_zero, List.set_cons_succ]
    refine wpAnyH_ready (rs := [5, 11]) (by kernel_rfl) (by simp) ?_
    refine AllReadyH.cons rfl (fun K hK => ?_) (AllReadyH.cons rfl (fun K hK => ?_) AllReadyH.nil)
    · go_simp
      go_wp2_with fail
      refine hK.out _ _ trivial (fun _ => ?_)
      clear hK K
      try simp only [Act.put, List.setIfInBounds_toArray, List.set_cons_zero, List.set_cons_succ]
      refine wpAnyH_ready (rs := [11]) (by kernel_rfl) (by simp) ?_
      refine AllReadyH.cons rfl (fun K hK => ?_) AllReadyH.nil
      go_simp
      go_at_call 85
      with_reducible refine CL.mono ?_
      (rintro e w9 ⟨rfl, hw9⟩)
      subst hw9
      go_wp2_with fail
      refine hK.out _ _ trivial (fun _ => ?_)
      clear hK K
      try simp only [Act.put, List.setIfInBounds_toArray, List.set_cons_zero, List.set_cons_succ]
      refine takeD (i := 12) (d := some 100) (v := ?_) rfl rfl (by kernel_rfl) (by kernel_rfl) (by kernel_rfl) (fun _ _ _ h => h) (Or.inl ⟨by rfl, ?_⟩) trivial ?_
      rotate_left
      · intro w hSw
        go_simp
        try (with_reducible rfl)
      try simp only [Act.put, List.setIfInBounds_toArray, List.set_cons_zero, List.set_cons_succ]
      refine wpAnyH_ready (rs := [13]) (by kernel_rfl) (by simp) ?_
      refine AllReadyH.cons rfl (fun K hK => ?_) AllReadyH.nil
      go_simp
      go_wp2_with fail
      refine hK.out _ _ trivial (fun _ => ?_)
      clear hK K
      try simp only [Act.put, List.setIfInBounds_toArray, List.set_cons_zero, List.set_cons_succ]
      refine wpAnyH_done (by kernel_rfl) ?_ _
      refine NoPanic.normal ?_
      clear CL
      go_wp2_with (go_at_call 76; go_must (with_reducible refine C.mono ?_; (rintro e w2 ⟨rfl, sv2, hM2, hb2⟩)))
      go_end0
      exact ⟨rfl, sv2, hM2, HB0.out.trans hb2⟩
    · skip
      go_simp
      go_at_call 85
      with_reducible refine CL.mono ?_
      (rintro e w9 ⟨rfl, hw9⟩)
      subst hw9
      go_wp2_with fail
      refine hK.out _ _ trivial (fun _ => ?_)
      clear hK K
      try simp only [Act.put, List.setIfInBounds_toArray, List.set_cons_zero, List.set_cons_succ]
      refine wpAnyH_ready (rs := [5]) (by kernel_rfl) (by simp) ?_
      refine AllReadyH.cons rfl (fun K hK => ?_) AllReadyH.nil
      go_simp
      go_wp2_with fail
      refine hK.out _ _ trivial (fun _ => ?_)
      clear hK K
      try simp only [Act.put, List.setIfInBounds_toArray, List.set_cons_zero, List.set_cons_succ]
      refine takeD (i := 12) (d := some 100) (v := ?_) rfl rfl (by kernel_rfl) (by kernel_rfl) (by kernel_rfl) (fun _ _ _ h => h) (Or.inl ⟨by rfl, ?_⟩) trivial ?_
      rotate_left
      · intro w hSw
        go_simp
        try (with_reducible rfl)
      try simp only [Act.put, List.setIfInBounds_toArray, List.set_cons_zero, List.set_cons_succ]
      refine wpAnyH_ready (rs := [13]) (by kernel_rfl) (by simp) ?_
      refine AllReadyH.cons rfl (fun K hK => ?_) AllReadyH.nil
      go_simp
      go_wp2_with fail
      refine hK.out _ _ trivial (fun _ => ?_)
      clear hK K
      try simp only [Act.put, List.setIfInBounds_toArray, List.set_cons_zero, List.set_cons_succ]
      refine wpAnyH_done (by kernel_rfl) ?_ _
      refine NoPanic.normal ?_
      clear CL
      go_wp2_with (go_at_call 76; go_must (with_reducible refine C.mono ?_; (rintro e w2 ⟨rfl, sv2, hM2, hb2⟩)))
      go_end0
      exact ⟨rfl, sv2, hM2, HB0.out.trans hb2⟩
  · skip
    go_simp
    go_at_call 85
    with_reducible refine CL.mono ?_
    (rintro e w9 ⟨rfl, hw9⟩)
    subst hw9
    go_wp2_with fail
    refine hK.out _ _ trivial (fun _ => ?_)
    clear hK K
    try simp only [Act.put, List.setIfInBounds_toArray, List.set_cons_zero, List.set_cons_succ]
    refine wpAnyH_ready (rs := [5, 7]) (by kernel_rfl) (by simp) ?_
    refine AllReadyH.cons rfl (fun K hK => ?_) (AllReadyH.cons rfl (fun K hK => ?_) AllReadyH.nil)
    · go_simp
      go_wp2_with fail
      refine hK.out _ _ trivial (fun _ => ?_)
      clear hK K
      try simp only [Act.put, List.setIfInBounds_toArray, List.set_cons_zero, List.set_cons_succ]
      refine wpAnyH_ready (rs := [7]) (by kernel_rfl) (by simp) ?_
      refine AllReadyH.cons rfl (fun K hK => ?_) AllReadyH.nil
      go_simp
      go_wp2_with fail
      refine hK.out _ _ trivial (fun _ => ?_)
      clear hK K
      try simp only [Act.put, List.setIfInBounds_toArray, List.set_cons_zero, List.set_cons_succ]
      refine takeD (i := 12) (d := some 100) (v := ?_) rfl rfl (by kernel_rfl) (by kernel_rfl) (by kernel_rfl) (fun _ _ _ h => h) (Or.inl ⟨by rfl, ?_⟩) trivial ?_
      rotate_left
      · intro w hSw
        go_simp
        try (with_reducible rfl)
      try simp only [Act.put, List.setIfInBounds_toArray, List.set_cons_zero, List.set_cons_succ]
      refine wpAnyH_ready (rs := [13]) (by kernel_rfl) (by simp) ?_
      refine AllReadyH.cons rfl (fun K hK => ?_) AllReadyH.nil
      go_simp
      go_wp2_with fail
      refine hK.out _ _ trivial (fun _ => ?_)
      clear hK K
      try simp only [Act.put, List.setIfInBounds_toArray, List.set_cons_zero, List.set_cons_succ]
      refine wpAnyH_done (by kernel_rfl) ?_ _
      refine NoPanic.normal ?_
      clear CL
      go_wp2_with (go_at_call 76; go_must (with_reducible refine C.mono ?_; (rintro e w2 ⟨rfl, sv2, hM2, hb2⟩)))
      go_end0
      exact ⟨rfl, sv2, hM2, HB0.out.trans hb2⟩
    · go_simp
      go_wp2_with fail
      refine hK.out _ _ trivial (fun _ => ?_)
      clear hK K
      try simp only [Act.put, List.setIfInBounds_toArray, List.set_cons_zero, List.set_cons_succ]
      refine wpAnyH_ready (rs := [5]) (by kernel_rfl) (by simp) ?_
      refine AllReadyH.cons rfl (fun K hK => ?_) AllReadyH.nil
      go_simp
      go_wp2_with fail
      refine hK.out _ _ trivial (fun _ => ?_)
      clear hK K
      try simp only [Act.put, List.setIfInBounds_toArray, List.set_cons_zero, List.set_cons_succ]
      refine takeD (i := 12) (d := some 100) (v := ?_) rfl rfl (by kernel_rfl) (by kernel_rfl) (by kernel_rfl) (fun _ _ _ h => h) (Or.inl ⟨by rfl, ?_⟩) trivial ?_
      rotate_left
      · intro w hSw
        go_simp
        try (with_reducible rfl)
      try simp only [Act.put, List.setIfInBounds_toArray, List.set_cons_zero, List.set_cons_succ]
      refine wpAnyH_ready (rs := [13]) (by kernel_rfl) (by simp) ?_
      refine AllReadyH.cons rfl (fun K hK => ?_) AllReadyH.nil
      go_simp
      go_wp2_with fail
      refine hK.out _ _ trivial (fun _ => ?_)
      clear hK K
      try simp only [Act.put, List.setIfInBounds_toArray, List.set_cons_zero, List.set_cons_succ]
      refine wpAnyH_done (by kernel_rfl) ?_ _
      refine NoPanic.normal ?_
      clear CL
      go_wp2_with (go_at_call 76; go_must (with_reducible refine C.mono ?_; (rintro e w2 ⟨rfl, sv2, hM2, hb2⟩)))
      go_end0
      exact ⟨rfl, sv2, hM2, HB0.out.trans hb2⟩
set_option linter.unusedSimpArgs false in
set_option maxRecDepth 100000 in
set_option maxHeartbeats 2000000 in
theorem plain_two_no {B : Bd} {w : World} {m : Nat} {M : Mc} {sk lo ar : List Int} {x y : Int} (h : Mach B w m M (y :: x :: sk).reverse lo ar) (op n : Int) (hop : 7 ≤ op ∧ op ≤ 13) (hv : rekL op x y = none) (hn : sk.length ≤ 10000) : Calls Tryz.prog 88 #[.pointer (some ⟨m, 0, none⟩), .agg #[.int .i64 op, .int .i64 n]] w fun e w' => e = upF 20 0 ∧ Mach B w' m M (y :: x :: sk).reverse lo ar ∧ Below B w w' := by
  have hlt := h.lt
  have hbm := h.bm
  have g1 : (op == 1) = false := by rw [beq_eq_false_iff_ne]; omega
  have g2 : (op == 2) = false := by rw [beq_eq_false_iff_ne]; omega
  have g3 : (op == 3) = false := by rw [beq_eq_false_iff_ne]; omega
  have g4 : (op == 4) = false := by rw [beq_eq_false_iff_ne]; omega
  have g5 : (op == 5) = false := by rw [beq_eq_false_iff_ne]; omega
  have g6 : (op == 6) = false := by rw [beq_eq_false_iff_ne]; omega
  have hb0 : Below w.heap.size w (w.alloc (.cells #[.int .i64 op, .int .i64 n] 40)) := ((Below.refl _ _).alloc (Nat.le_refl _) _)
  have hL : Mach B (w.alloc (.cells #[.int .i64 op, .int .i64 n] 40)) m M (sk.reverse ++ [x, y]) lo ar := by have := h.below hb0; simpa using this
  have CL := lastTwo_any hL (by simp; omega)
  have H0 := hide (h.below hb0)
  have CR := fun w => reckon_any op x y w
  unfold RekPost at CR
  rw [hv] at CR
  have hcb : (w.alloc (.cells #[.int .i64 op, .int .i64 n] 40)).cell? ⟨w.heap.size, 0, none⟩ = some (.int .i64 op) := cell_row (cs := [.int .i64 op, .int .i64 n]) (heap_alloc_new w _) rfl
  clear h hL
  go_enter Tryz.func88, Tryz.ntmps88
  go_wp2_with (go_at_call 92; go_must (with_reducible refine CL.mono ?_; (rintro e w9 ⟨rfl, hb9⟩); refine Hid.out ?_))
  refine Lib.hid ?_
  have cb9 : w9.drew.cell? ⟨w.heap.size, 0, none⟩ = some (.int .i64 op) := keep_cell hcb (hb9.drew)
  simp only [upF, failV] at CR
  have HF := hide (show Mach B w9.drew m M (y :: x :: sk).reverse lo ar ∧ Below B w w9.drew from ⟨H0.out.below hb9.drew, (hb0.trans (hb9.drew.mono (by simp))).mono (by omega)⟩)
  clear CL hcb
  go_wp2_with fail
  refine wp_region_held_drew (S := fun _ => True) (by kernel_rfl) trivial (fun _ => ?_)
  refine takeD (i := 0) (d := some 17) (v := ?_) rfl rfl (by kernel_rfl) (by kernel_rfl) (by kernel_rfl) (fun _ _ _ h => h) (Or.inl ⟨by rfl, ?_⟩) trivial ?_
  rotate_left
  · intro w hSw
    go_simp
    try (with_reducible rfl)
  try simp only [Act.put, List.setIfInBounds_toArray, List.set_cons_zero, List.set_cons_succ]
  refine takeD (i := 1) (d := some 18) (v := ?_) rfl rfl (by kernel_rfl) (by kernel_rfl) (by kernel_rfl) (fun _ _ _ h => h) (Or.inl ⟨by rfl, ?_⟩) trivial ?_
  rotate_left
  · intro w hSw
    go_simp
    try (with_reducible rfl)
  try simp only [Act.put, List.setIfInBounds_toArray, List.set_cons_zero, List.set_cons_succ]
  refine takeD (i := 2) (d := some 19) (v := ?_) rfl rfl (by kernel_rfl) (by kernel_rfl) (by kernel_rfl) (fun _ _ _ h => h) (Or.inl ⟨by rfl, ?_⟩) trivial ?_
  rotate_left
  · intro w hSw
    go_simp
    try (with_reducible rfl)
  try simp only [Act.put, List.setIfInBounds_toArray, List.set_cons_zero, List.set_cons_succ]
  refine takeD (i := 3) (d := some 20) (v := ?_) rfl rfl (by kernel_rfl) (by kernel_rfl) (by kernel_rfl) (fun _ _ _ h => h) (Or.inl ⟨by rfl, ?_⟩) trivial ?_
  rotate_left
  · intro w hSw
    go_simp
    try (with_reducible rfl)
  try simp only [Act.put, List.setIfInBounds_toArray, List.set_cons_zero, List.set_cons_succ]
  refine takeD (i := 5) (d := some 22) (v := ?_) rfl rfl (by kernel_rfl) (by kernel_rfl) (by kernel_rfl) (fun _ _ _ h => h) (Or.inl ⟨by rfl, ?_⟩) trivial ?_
  rotate_left
  · intro w hSw
    go_simp
    try (with_reducible rfl)
  try simp only [Act.put, List.setIfInBounds_toArray, List.set_cons_zero, List.set_cons_succ]
  refine takeD (i := 6) (d := some 23) (v := ?_) rfl rfl (by kernel_rfl) (by kernel_rfl) (by kernel_rfl) (fun _ _ _ h => h) (Or.inl ⟨by rfl, ?_⟩) trivial ?_
  rotate_left
  · intro w hSw
    go_simp
    try (with_reducible rfl)
  try simp only [Act.put, List.setIfInBounds_toArray, List.set_cons_zero, List.set_cons_succ]
  refine wpAnyH_ready (rs := [4]) (by kernel_rfl) (by simp) ?_
  refine AllReadyH.cons rfl (fun K hK => ?_) AllReadyH.nil
  go_simp
  go_wp2_with fail
  refine hK.out _ _ trivial (fun _ => ?_)
  clear hK K
  try simp only [Act.put, List.setIfInBounds_toArray, List.set_cons_zero, List.set_cons_succ]
  refine wpAnyH_ready (rs := [7]) (by kernel_rfl) (by simp) ?_
  refine AllReadyH.cons rfl (fun K hK => ?_) AllReadyH.nil
  go_simp
  go_at_call 93
  with_reducible refine (CR _).mono ?_
  (rintro e w8 ⟨rfl, hw8⟩)
  subst hw8
  exact ⟨rfl, rfl, HF.out.1, HF.out.2⟩
theorem plain_no {B : Bd} {w : World} {m : Nat} {M : Mc} {sk lo ar : List Int} (h : Mach B w m M sk.reverse lo ar) (op n : Int) (hp : plL op n sk = some none) (hn : sk.length ≤ 10000) : Calls Tryz.prog 88 #[.pointer (some ⟨m, 0, none⟩), .agg #[.int .i64 op, .int .i64 n]] w fun e w' => e = upF 20 0 ∧ Mach B w' m M sk.reverse lo ar ∧ Below B w w' := by
  unfold plL at hp
  split at hp
  · simp at hp
  · split at hp
    · cases sk <;> simp at hp
    · split at hp
      · cases sk <;> simp at hp
      · split at hp
        · rcases sk with _ | ⟨y, _ | ⟨x, r⟩⟩ <;> simp at hp
        · split at hp
          · rename_i h7
            rcases sk with _ | ⟨y, _ | ⟨x, r⟩⟩
            · simp at hp
            · simp at hp
            · simp only [Option.some.injEq, Option.map_eq_none_iff] at hp
              exact plain_two_no h op n h7 hp (by simp at hn; omega)
          · simp at hp
end Go.Proofs.YtbpcibnomkfglaaGreatDoor
/- put of nothing, wait, zero, take, spawn. -/

namespace Go.Proofs.YtbpcibnomkfglaaGreatDoor
open Go.RowKit Go.ChangeShapes Go.WideShapes Go.ChangeAt Go.Deep

/-- What is cut off the end of a slice of numbers. -/
theorem slice_low (w : World) (a : Option Addr) (n cap l : Nat) (hl : l ≤ n) (hc : n ≤ cap) (xs : List Int) (hx : xs.length = n) (hr : Reads w a (iV xs)) (hnil : a = none → n = 0 ∧ cap = 0) : ∃ a', (∀ w', (Instr.slice 28 (.slice a n cap) (some (.int .i64 (l : Int))) none none).run Tryz.prog w' = .ok (.slice a' (n - l) (cap - l)) w') ∧ Reads w a' (iV (xs.drop l)) ∧ (a' = none → n - l = 0 ∧ cap - l = 0) := by
  have hel : Tryz.prog.underlying 28 = some (.slice (Tryz.prog.elem 28)) := by kernel_rfl
  refine ⟨if cap = l then a else a.map (·.add (l * 1)), fun w' => ?_, ?_, ?_⟩
  · rw [run_slice_l w' 28 a n cap hel .i64 (l : Int) (by omega) (by omega)]
    rw [show Tryz.prog.elem 28 = 3 by kernel_rfl, Tryz.sizeOf3]
    simp only [Result.andThen, sliced, Int.toNat_natCast]
  · by_cases h : l = n
    · left
      have : xs.drop l = [] := List.drop_eq_nil_of_le (by omega)
      rw [this]; rfl
    · rw [if_neg (by omega)]
      rcases hr with hr | ⟨b, off, rfl, hr⟩
      · have : xs = [] := by simpa [iV] using hr
        subst this
        simp at hx
        omega
      · refine .inr ⟨b, off + l, by simp [add_none], fun j u hu => ?_⟩
        rw [Nat.add_assoc]
        refine hr (l + j) u ?_
        have : iV (xs.drop l) = (iV xs).drop l := by simp [iV, List.map_drop]
        rw [this, List.getElem?_drop] at hu
        exact hu
  · intro h
    split at h
    · subst h
      have := hnil rfl
      omega
    · cases a with
      | none => have := hnil rfl; omega
      | some x => simp at h

set_option linter.unusedSimpArgs false in
set_option maxRecDepth 100000 in
set_option maxHeartbeats 1000000 in
/-- put of nothing: the stack is cut, nothing else turns. -/
theorem put_none {B : Bd} {w : World} {m : Nat} {M : Mc} {st lo ar : List Int} (h : Mach B w m M st lo ar) (k : Nat) (hk : k ≤ st.length) (hn : st.length ≤ 100000) (a : Option Addr) (cap : Nat) (e : M.sv = .slice a st.length cap) :
    Calls Tryz.prog 76 #[.pointer (some ⟨m, 0, none⟩), .int .i64 (k : Int), .slice none 0 0] w fun e w' => e = .returned (.tuple #[]) ∧ w' = w.drew.setCell ⟨m, 3, none⟩ (.slice a (st.length - k) cap) := by
  obtain ⟨a0, cap0, e0, h1, h2, h3⟩ := slice_form (n := st.length) h.own rfl
  rw [e] at e0
  simp only [Value.slice.injEq] at e0
  obtain ⟨rfl, _, rfl⟩ := e0
  have c3 := h.cell 3 _ rfl
  have ho := h.own
  rw [e] at c3 ho
  have ho2 : w.drew.ownsRow B 3 1 (.slice a (st.length - k) cap) (st.length - k) (iV (st.take (st.length - k))) := own_belowI (own_cutI ho (by omega)) ((Below.refl _ _).drew)
  have hlt := h.lt
  have hbm := h.bm
  obtain ⟨i0, hi, hz0, hz1, hz2⟩ := info_parts Tryz.info3
  have hrun := run_append_owned_none (P := Tryz.prog) (w := w.drew) B 28 28 3 i0 1 Tryz.underlying28 hi (.slice a (st.length - k) cap) (st.length - k) (iV (st.take (st.length - k))) ho2
  have ks : ∀ w, (Instr.slice 28 (.slice a st.length cap) none (some (.int .i64 ((st.length : Int) - (k : Int)))) none).run Tryz.prog w = .ok (.slice a (st.length - k) cap) w := fun w => by
    rw [show ((st.length : Int) - (k : Int)) = ((st.length - k : Nat) : Int) by omega]
    exact slice_cut w a _ cap _ (by omega)
  have fz : w.frozen? ⟨m, 3, none⟩ = false := h.froz 3
  have wq : IntKind.i64.wrap ((st.length : Int) - (k : Int)) = (st.length : Int) - (k : Int) := wrapi (by omega)
  have c3d : w.drew.cell? ⟨m, 3, none⟩ = some (.slice a st.length cap) := c3
  have fzd : w.drew.frozen? ⟨m, 3, none⟩ = false := fz
  clear ho ho2 h3 h2
  go_enter Tryz.func76, Tryz.ntmps76
  go_wp2_with fail
  refine wp_region_noPanic ?_
  refine wp_region_held_drew (S := fun _ => True) (by kernel_rfl) trivial (fun _ => ?_)
  refine takeD (i := 0) (d := some 6) (v := ?_) rfl rfl (by kernel_rfl) (by kernel_rfl) (by kernel_rfl) (fun _ _ _ h => h) (Or.inl ⟨by rfl, ?_⟩) trivial ?_
  rotate_left
  · intro w hSw
    go_simp
    try (with_reducible rfl)
  try simp only [Act.put, List.setIfInBounds_toArray, List.set_cons_zero, List.set_cons_succ]
  refine takeD (i := 1) (d := some 7) (v := ?_) rfl rfl (by kernel_rfl) (by kernel_rfl) (by kernel_rfl) (fun _ _ _ h => h) (Or.inl ⟨by rfl, ?_⟩) trivial ?_
  rotate_left
  · intro w hSw
    go_simp
    try (with_reducible rfl)
  try simp only [Act.put, List.setIfInBounds_toArray, List.set_cons_zero, List.set_cons_succ]
  refine takeD (i := 2) (d := some 8) (v := ?_) rfl rfl (by kernel_rfl) (by kernel_rfl) (by kernel_rfl) (fun _ _ _ h => h) (Or.inl ⟨by rfl, ?_⟩) trivial ?_
  rotate_left
  · intro w hSw
    go_simp
    try (with_reducible rfl)
  try simp only [Act.put, List.setIfInBounds_toArray, List.set_cons_zero, List.set_cons_succ]
  refine takeD (i := 3) (d := some 9) (v := ?_) rfl rfl (by kernel_rfl) (by kernel_rfl) (by kernel_rfl) (fun _ _ _ h => h) (Or.inl ⟨by rfl, ?_⟩) trivial ?_
  rotate_left
  · intro w hSw
    go_simp
    try (with_reducible rfl)
  try simp only [Act.put, List.setIfInBounds_toArray, List.set_cons_zero, List.set_cons_succ]
  refine takeD (i := 4) (d := some 10) (v := ?_) rfl rfl (by kernel_rfl) (by kernel_rfl) (by kernel_rfl) (fun _ _ _ h => h) (Or.inl ⟨by rfl, ?_⟩) trivial ?_
  rotate_left
  · intro w hSw
    go_simp
    try (with_reducible rfl)
  try simp only [Act.put, List.setIfInBounds_toArray, List.set_cons_zero, List.set_cons_succ]
  refine takeD (i := 6) (d := some 12) (v := ?_) rfl rfl (by kernel_rfl) (by kernel_rfl) (by kernel_rfl) (fun _ _ _ h => h) (Or.inl ⟨by rfl, ?_⟩) trivial ?_
  rotate_left
  · intro w hSw
    go_simp
    try (with_reducible rfl)
  try simp only [Act.put, List.setIfInBounds_toArray, List.set_cons_zero, List.set_cons_succ]
  refine takeD (i := 7) (d := some 13) (v := ?_) rfl rfl (by kernel_rfl) (by kernel_rfl) (by kernel_rfl) (fun _ _ _ h => h) (Or.inl ⟨by rfl, ?_⟩) trivial ?_
  rotate_left
  · intro w hSw
    go_simp
    try (with_reducible rfl)
  try simp only [Act.put, List.setIfInBounds_toArray, List.set_cons_zero, List.set_cons_succ]
  refine takeD (i := 8) (d := some 14) (v := ?_) rfl rfl (by kernel_rfl) (by kernel_rfl) (by kernel_rfl) (fun _ _ _ h => h) (Or.inl ⟨by rfl, ?_⟩) trivial ?_
  rotate_left
  · intro w hSw
    go_simp
    try (with_reducible rfl)
  try simp only [Act.put, List.setIfInBounds_toArray, List.set_cons_zero, List.set_cons_succ]
  refine takeD (i := 9) (d := some 15) (v := ?_) rfl rfl (by kernel_rfl) (by kernel_rfl) (by kernel_rfl) (fun _ _ _ h => h) (Or.inl ⟨by rfl, ?_⟩) trivial ?_
  rotate_left
  · intro w hSw
    go_simp
    try (with_reducible rfl)
  try simp only [Act.put, List.setIfInBounds_toArray, List.set_cons_zero, List.set_cons_succ]
  refine takeD (i := 12) (d := some 18) (v := ?_) rfl rfl (by kernel_rfl) (by kernel_rfl) (by kernel_rfl) (fun _ _ _ h => h) (Or.inl ⟨by rfl, ?_⟩) trivial ?_
  rotate_left
  · intro w hSw
    go_simp
    try (with_reducible rfl)
  try simp only [Act.put, List.setIfInBounds_toArray, List.set_cons_zero, List.set_cons_succ]
  refine takeD (i := 15) (d := some 21) (v := ?_) rfl rfl (by kernel_rfl) (by kernel_rfl) (by kernel_rfl) (fun _ _ _ h => h) (Or.inl ⟨by rfl, ?_⟩) trivial ?_
  rotate_left
  · intro w hSw
    go_simp
    try (with_reducible rfl)
  try simp only [Act.put, List.setIfInBounds_toArray, List.set_cons_zero, List.set_cons_succ]
  refine wpAnyH_ready (rs := [5, 10]) (by kernel_rfl) (by simp) ?_
  refine AllReadyH.cons rfl (fun K hK => ?_) (AllReadyH.cons rfl (fun K hK => ?_) AllReadyH.nil)
  · go_simp
    go_wp2_with fail
    refine hK.out _ _ trivial (fun _ => ?_)
    clear hK K
    try simp only [Act.put, List.setIfInBounds_toArray, List.set_cons_zero, List.set_cons_succ]
    refine wpAnyH_ready (rs := [10]) (by kernel_rfl) (by simp) ?_
    refine AllReadyH.cons rfl (fun K hK => ?_) AllReadyH.nil
    go_simp
    go_wp2_with fail
    refine hK.out _ _ trivial (fun _ => ?_)
    clear hK K
    try simp only [Act.put, List.setIfInBounds_toArray, List.set_cons_zero, List.set_cons_succ]
    refine takeD (i := 11) (d := some 17) (v := ?_) rfl rfl (by kernel_rfl) (by kernel_rfl) (by kernel_rfl) (fun _ _ _ h => h) (Or.inl ⟨by rfl, ?_⟩) trivial ?_
    rotate_left
    · intro w hSw
      go_simp
      try (with_reducible rfl)
    try simp only [Act.put, List.setIfInBounds_toArray, List.set_cons_zero, List.set_cons_succ]
    refine takeD (i := 13) (d := some 19) (v := ?_) rfl rfl (by kernel_rfl) (by kernel_rfl) (by kernel_rfl) (fun _ _ _ h => h) (Or.inl ⟨by rfl, ?_⟩) trivial ?_
    rotate_left
    · intro w hSw
      go_simp
      try (with_reducible rfl)
    try simp only [Act.put, List.setIfInBounds_toArray, List.set_cons_zero, List.set_cons_succ]
    refine takeD (i := 14) (d := some 20) (v := ?_) rfl rfl (by kernel_rfl) (by kernel_rfl) (by kernel_rfl) (fun _ _ _ h => h) (Or.inl ⟨by rfl, ?_⟩) trivial ?_
    rotate_left
    · intro w hSw
      go_simp
      try (with_reducible rfl)
    try simp only [Act.put, List.setIfInBounds_toArray, List.set_cons_zero, List.set_cons_succ]
    refine wpAnyH_ready (rs := [16]) (by kernel_rfl) (by simp) ?_
    refine AllReadyH.cons rfl (fun K hK => ?_) AllReadyH.nil
    refine wp_append_run (.tmp 20) (.tmp 21) rfl rfl rfl hrun ?_
    refine hK.out _ _ trivial (fun _ => ?_)
    clear hK K
    try simp only [Act.put, List.setIfInBounds_toArray, List.set_cons_zero, List.set_cons_succ]
    refine takeD (i := 17) (d := some 23) (v := ?_) rfl rfl (by kernel_rfl) (by kernel_rfl) (by kernel_rfl) (fun _ _ _ h => h) (Or.inl ⟨by rfl, ?_⟩) trivial ?_
    rotate_left
    · intro w hSw
      go_simp
      try (with_reducible rfl)
    try simp only [Act.put, List.setIfInBounds_toArray, List.set_cons_zero, List.set_cons_succ]
    refine takeD (i := 18) (d := some 24) (v := ?_) rfl rfl (by kernel_rfl) (by kernel_rfl) (by kernel_rfl) (fun _ _ _ h => h) (Or.inl ⟨by rfl, ?_⟩) trivial ?_
    rotate_left
    · intro w hSw
      go_simp
      try (with_reducible rfl)
    try simp only [Act.put, List.setIfInBounds_toArray, List.set_cons_zero, List.set_cons_succ]
    refine takeD (i := 19) (d := some 25) (v := ?_) rfl rfl (by kernel_rfl) (by kernel_rfl) (by kernel_rfl) (fun _ _ _ h => h) (Or.inl ⟨by rfl, ?_⟩) trivial ?_
    rotate_left
    · intro w hSw
      go_simp
      try (with_reducible rfl)
    try simp only [Act.put, List.setIfInBounds_toArray, List.set_cons_zero, List.set_cons_succ]
    refine wpAnyH_ready (rs := [20]) (by kernel_rfl) (by simp) ?_
    refine AllReadyH.cons rfl (fun K hK => ?_) AllReadyH.nil
    go_simp
    go_wp2_with fail
    refine hK.out _ _ trivial (fun _ => ?_)
    clear hK K
    try simp only [Act.put, List.setIfInBounds_toArray, List.set_cons_zero, List.set_cons_succ]
    refine wpAnyH_done (by kernel_rfl) ?_ _
    refine NoPanic.normal ?_
    go_wp2_with fail
    go_end0
    exact ⟨rfl, rfl⟩
  · go_simp
    go_wp2_with fail
    refine hK.out _ _ trivial (fun _ => ?_)
    clear hK K
    try simp only [Act.put, List.setIfInBounds_toArray, List.set_cons_zero, List.set_cons_succ]
    refine takeD (i := 11) (d := some 17) (v := ?_) rfl rfl (by kernel_rfl) (by kernel_rfl) (by kernel_rfl) (fun _ _ _ h => h) (Or.inl ⟨by rfl, ?_⟩) trivial ?_
    rotate_left
    · intro w hSw
      go_simp
      try (with_reducible rfl)
    try simp only [Act.put, List.setIfInBounds_toArray, List.set_cons_zero, List.set_cons_succ]
    refine takeD (i := 13) (d := some 19) (v := ?_) rfl rfl (by kernel_rfl) (by kernel_rfl) (by kernel_rfl) (fun _ _ _ h => h) (Or.inl ⟨by rfl, ?_⟩) trivial ?_
    rotate_left
    · intro w hSw
      go_simp
      try (with_reducible rfl)
    try simp only [Act.put, List.setIfInBounds_toArray, List.set_cons_zero, List.set_cons_succ]
    refine wpAnyH_ready (rs := [5]) (by kernel_rfl) (by simp) ?_
    refine AllReadyH.cons rfl (fun K hK => ?_) AllReadyH.nil
    go_simp
    go_wp2_with fail
    refine hK.out _ _ trivial (fun _ => ?_)
    clear hK K
    try simp only [Act.put, List.setIfInBounds_toArray, List.set_cons_zero, List.set_cons_succ]
    refine takeD (i := 14) (d := some 20) (v := ?_) rfl rfl (by kernel_rfl) (by kernel_rfl) (by kernel_rfl) (fun _ _ _ h => h) (Or.inl ⟨by rfl, ?_⟩) trivial ?_
    rotate_left
    · intro w hSw
      go_simp
      try (with_reducible rfl)
    try simp only [Act.put, List.setIfInBounds_toArray, List.set_cons_zero, List.set_cons_succ]
    refine wpAnyH_ready (rs := [16]) (by kernel_rfl) (by simp) ?_
    refine AllReadyH.cons rfl (fun K hK => ?_) AllReadyH.nil
    refine wp_append_run (.tmp 20) (.tmp 21) rfl rfl rfl hrun ?_
    refine hK.out _ _ trivial (fun _ => ?_)
    clear hK K
    try simp only [Act.put, List.setIfInBounds_toArray, List.set_cons_zero, List.set_cons_succ]
    refine takeD (i := 17) (d := some 23) (v := ?_) rfl rfl (by kernel_rfl) (by kernel_rfl) (by kernel_rfl) (fun _ _ _ h => h) (Or.inl ⟨by rfl, ?_⟩) trivial ?_
    rotate_left
    · intro w hSw
      go_simp
      try (with_reducible rfl)
    try simp only [Act.put, List.setIfInBounds_toArray, List.set_cons_zero, List.set_cons_succ]
    refine takeD (i := 18) (d := some 24) (v := ?_) rfl rfl (by kernel_rfl) (by kernel_rfl) (by kernel_rfl) (fun _ _ _ h => h) (Or.inl ⟨by rfl, ?_⟩) trivial ?_
    rotate_left
    · intro w hSw
      go_simp
      try (with_reducible rfl)
    try simp only [Act.put, List.setIfInBounds_toArray, List.set_cons_zero, List.set_cons_succ]
    refine takeD (i := 19) (d := some 25) (v := ?_) rfl rfl (by kernel_rfl) (by kernel_rfl) (by kernel_rfl) (fun _ _ _ h => h) (Or.inl ⟨by rfl, ?_⟩) trivial ?_
    rotate_left
    · intro w hSw
      go_simp
      try (with_reducible rfl)
    try simp only [Act.put, List.setIfInBounds_toArray, List.set_cons_zero, List.set_cons_succ]
    refine wpAnyH_ready (rs := [20]) (by kernel_rfl) (by simp) ?_
    refine AllReadyH.cons rfl (fun K hK => ?_) AllReadyH.nil
    go_simp
    go_wp2_with fail
    refine hK.out _ _ trivial (fun _ => ?_)
    clear hK K
    try simp only [Act.put, List.setIfInBounds_toArray, List.set_cons_zero, List.set_cons_succ]
    refine wpAnyH_done (by kernel_rfl) ?_ _
    refine NoPanic.normal ?_
    go_wp2_with fail
    go_end0
    exact ⟨rfl, rfl⟩
set_option linter.unusedSimpArgs false in
set_option maxRecDepth 100000 in
set_option maxHeartbeats 2000000 in
theorem wait_any {B : Bd} {w : World} {m : Nat} {M : Mc} {sk lo ar : List Int} {x : Int} (h : Mach B w m M (x :: sk).reverse lo ar) (hn : sk.length ≤ 10000) : Calls Tryz.prog 74 #[.pointer (some ⟨m, 0, none⟩)] w fun e w' => e = .returned (.tuple #[]) ∧ Mach B w' m { M with wt := true, ek := 2, ei := x } (x :: sk).reverse lo ar ∧ Below B w w' := by
  have hlt := h.lt
  have hbm := h.bm
  have c6 := h.cell 6 _ rfl
  have f6 := h.froz 6
  have h1 := h.put (M' := { M with wt := true }) 6 (.bool true) rfl rfl rfl rfl
  have hb1 : Below B w (w.setCell ⟨m, 6, none⟩ (.bool true)) := (Below.refl _ _).setCell (p := ⟨m, 6, none⟩) hbm _
  go_enter Tryz.func74, Tryz.ntmps74
  go_upto_region 2 with fail
  clear c6 f6
  generalize w.setCell ⟨m, 6, none⟩ (.bool true) = w1 at *
  have hd := h1.below (show Below w1.heap.size w1 w1 from (Below.refl _ _))
  have hL : Mach B w1 m { M with wt := true } (sk.reverse ++ [x]) lo ar := by simpa using hd
  have CL := last_any hL (by simp; omega)
  have c12 := hd.cell 12 _ rfl
  have f12 := hd.froz 12
  have c14 := hd.cell 14 _ rfl
  have f14 := hd.froz 14
  have h2 := hd.put (M' := { M with wt := true, ek := 2 }) 12 (.int .i64 2) rfl rfl rfl rfl
  have c14' := h2.cell 14 _ rfl
  have f14' := h2.froz 14
  have H3 := hide (h2.put (M' := { M with wt := true, ek := 2, ei := x }) 14 (.int .i64 x) rfl rfl rfl rfl)
  have HB3 := hide (show Below B w ((w1.setCell ⟨m, 12, none⟩ (.int .i64 2)).setCell ⟨m, 14, none⟩ (.int .i64 x)) from (hb1.setCell (p := ⟨m, 12, none⟩) hbm _).setCell (p := ⟨m, 14, none⟩) hbm _)
  clear h h1 hd hL h2
  go_wp2_with (go_at_call 85; go_must (with_reducible refine CL.mono ?_; (rintro e w5 ⟨rfl, hw5⟩); subst hw5))
  go_end0
  exact ⟨rfl, H3.out, HB3.out⟩
set_option linter.unusedSimpArgs false in
set_option maxRecDepth 100000 in
set_option maxHeartbeats 2000000 in
theorem zero_any {B : Bd} {w : World} {m : Nat} {M : Mc} {sk lo ar : List Int} {x : Int} (h : Mach B w m M (x :: sk).reverse lo ar) (tt : Int) (pc : Nat) (hpc : M.pc = (pc : Int)) (hpl : pc ≤ 1000000) (hn : sk.length ≤ 10000) : Calls Tryz.prog 86 #[.pointer (some ⟨m, 0, none⟩), .int .i64 tt] w fun e w' => e = .returned (.tuple #[]) ∧ ∃ sv, Mach B w' m { M with sv := sv, pc := if x = 0 then tt else (pc : Int) + 1 } sk.reverse lo ar ∧ Below B w w' := by
  have hlt := h.lt
  have hbm := h.bm
  have c1 := h.cell 1 _ rfl
  simp only [hpc] at c1
  have f1 := h.froz 1
  have h1 := h.put (M' := { M with pc := (pc : Int) + 1 }) 1 (.int .i64 ((pc : Int) + 1)) rfl rfl rfl rfl
  have hb1 : Below B w (w.setCell ⟨m, 1, none⟩ (.int .i64 ((pc : Int) + 1))) := (Below.refl _ _).setCell (p := ⟨m, 1, none⟩) hbm _
  go_enter Tryz.func86, Tryz.ntmps86
  go_upto_region 1 with fail
  clear c1 f1
  generalize w.setCell ⟨m, 1, none⟩ (.int .i64 ((pc : Int) + 1)) = w1 at *
  have hL : Mach B w1 m { M with pc := (pc : Int) + 1 } (sk.reverse ++ [x]) lo ar := by simpa using h1
  have CL := last_any hL (by simp; omega)
  by_cases hx : x = 0
  · subst hx
    have c1 := h1.cell 1 _ rfl
    have f1 := h1.froz 1
    have h2 := h1.put (M' := { M with pc := tt }) 1 (.int .i64 tt) rfl rfl rfl rfl
    have C : Calls Tryz.prog 76 #[.pointer (some ⟨m, 0, none⟩), .int .i64 1, .slice none 0 0] (w1.setCell ⟨m, 1, none⟩ (.int .i64 tt)) (PutPost B _ m { M with pc := tt } sk.reverse lo ar) := put_rev h2 1 (by simp) (by simp; omega) none 0 0 [] sk (.inl rfl) rfl (fun _ => ⟨rfl, rfl⟩) (by omega) (by simp)
    unfold PutPost at C
    have HB2 := hide (show Below B w (w1.setCell ⟨m, 1, none⟩ (.int .i64 tt)) from hb1.setCell (p := ⟨m, 1, none⟩) hbm _)
    clear h h1 hL h2 hb1
    go_wp2_with (first
      | (go_at_call 85; go_must (with_reducible refine CL.mono ?_; (rintro e w5 ⟨rfl, hw5⟩); subst hw5))
      | (go_at_call 76; go_must (with_reducible refine C.mono ?_; (rintro e w6 ⟨rfl, sv6, h6, hb6⟩))))
    go_end0
    exact ⟨rfl, ⟨sv6, h6⟩, HB2.out.trans hb6⟩
  · have hxb : (x == 0) = false := by simp [hx]
    have C : Calls Tryz.prog 76 #[.pointer (some ⟨m, 0, none⟩), .int .i64 1, .slice none 0 0] w1 (PutPost B _ m { M with pc := (pc : Int) + 1 } sk.reverse lo ar) := put_rev h1 1 (by simp) (by simp; omega) none 0 0 [] sk (.inl rfl) rfl (fun _ => ⟨rfl, rfl⟩) (by omega) (by simp)
    unfold PutPost at C
    clear h h1 hL
    go_wp2_with (first
      | (go_at_call 85; go_must (with_reducible refine CL.mono ?_; (rintro e w5 ⟨rfl, hw5⟩); subst hw5))
      | (go_at_call 76; go_must (with_reducible refine C.mono ?_; (rintro e w6 ⟨rfl, sv6, h6, hb6⟩))))
    go_end0
    exact ⟨rfl, ⟨sv6, h6⟩, hb1.trans hb6⟩
def ZeroQ (B : Bd) (w : World) (m : Nat) (M : Mc) (sk lo ar : List Int) (x n : Int) (pc : Nat) (w' : World) : Prop := ∃ sv, Mach B w' m { M with sv := sv, pc := if x = 0 then n else (pc : Int) + 1 } sk.reverse lo ar ∧ Below B w w'
theorem zero_Q {B : Bd} {w : World} {m : Nat} {M : Mc} {sk lo ar : List Int} {x : Int} (h : Mach B w m M (x :: sk).reverse lo ar) (n : Int) (pc : Nat) (hpc : M.pc = (pc : Int)) (hpl : pc ≤ 1000000) (hn : sk.length ≤ 10000) : Calls Tryz.prog 86 #[.pointer (some ⟨m, 0, none⟩), .int .i64 n] w fun e w' => e = .returned (.tuple #[]) ∧ ZeroQ B w m M sk lo ar x n pc w' := zero_any h n pc hpc hpl hn
/-- The stack is cut. -/
theorem Mach.cut {B : Bd} {w : World} {m : Nat} {M : Mc} {st lo ar : List Int} (h : Mach B w m M st lo ar) (a : Option Addr) (cap k : Nat) (e : M.sv = .slice a st.length cap) : Mach B (w.setCell ⟨m, 3, none⟩ (.slice a (st.length - k) cap)) m { M with sv := .slice a (st.length - k) cap } (st.take (st.length - k)) lo ar := by
  have hk : ∀ g, g ≠ m → (w.setCell ⟨m, 3, none⟩ (.slice a (st.length - k) cap)).heap[g]? = w.heap[g]? := fun g hg => heap_setCell_other _ _ _ _ hg
  have ho := h.own
  rw [e] at ho
  have ho2 := own_cutI ho (show st.length - k ≤ st.length by omega)
  have eb : (Value.slice a (st.length - k) cap).ownBlock = M.sv.ownBlock := by rw [e]; cases a <;> rfl
  refine ⟨?_, h.bm, ?_, ?_, ?_, fun g hg => h.sl g (eb ▸ hg), fun g hg => h.sa g (eb ▸ hg), h.la, ?_⟩
  · rw [heap_setCell_same w m 3 _ 134 _ h.at_]
    simp [Mc.row]
  · have hl2 : (st.take (st.length - k)).length = st.length - k := by simp
    rw [hl2]
    exact own_keepI ho2 (fun g hg => hk g (row_ne ho2 h.at_ g hg))
  · exact own_keepI h.loc (fun g hg => hk g (row_ne h.loc h.at_ g hg))
  · exact own_keepI h.arg (fun g hg => hk g (row_ne h.arg h.at_ g hg))
  · intro k' u hku
    have hq := h.kept k' u hku
    rw [hk k' (fun e => by subst e; rw [h.at_] at hq; simp at hq)]
    exact hq
/-- New arguments are laid. -/
theorem Mach.args {B : Bd} {w : World} {m : Nat} {M : Mc} {st lo ar : List Int} (h : Mach B w m M st lo ar) (v : Value) (xs : List Int) (ho : w.ownsRow B 3 1 v xs.length (iV xs)) (h1 : ∀ g, v.ownBlock = some g → M.sv.ownBlock ≠ some g) (h2 : ∀ g, v.ownBlock = some g → M.lv.ownBlock ≠ some g) : Mach B (w.setCell ⟨m, 16, none⟩ v) m { M with av := v } st lo xs := by
  have hk : ∀ g, g ≠ m → (w.setCell ⟨m, 16, none⟩ v).heap[g]? = w.heap[g]? := fun g hg => heap_setCell_other _ _ _ _ hg
  refine ⟨?_, h.bm, ?_, ?_, ?_, h.sl, fun g hg hv => h1 g hv hg, fun g hg hv => h2 g hv hg, ?_⟩
  · rw [heap_setCell_same w m 16 _ 134 _ h.at_]
    simp [Mc.row]
  · exact own_keepI h.own (fun g hg => hk g (row_ne h.own h.at_ g hg))
  · exact own_keepI h.loc (fun g hg => hk g (row_ne h.loc h.at_ g hg))
  · exact own_keepI ho (fun g hg => hk g (row_ne ho h.at_ g hg))
  · intro k' u hku
    have hq := h.kept k' u hku
    rw [hk k' (fun e => by subst e; rw [h.at_] at hq; simp at hq)]
    exact hq
/-- What take leaves. -/
def TakePost (B : Bd) (w : World) (m : Nat) (M : Mc) (sk lo ar : List Int) (k : Nat) (e : Ending) (w' : World) : Prop := ∃ v sv, e = .returned v ∧ w'.ownsRow B 3 1 v k (iV (sk.take k).reverse) ∧ (∀ g, v.ownBlock = some g → w.heap.size ≤ g) ∧ Mach B w' m { M with sv := sv } (sk.drop k).reverse lo ar ∧ sv.ownBlock = M.sv.ownBlock ∧ Below B w w'
set_option linter.unusedSimpArgs false in
set_option maxRecDepth 100000 in
set_option maxHeartbeats 2000000 in
theorem take_any {B : Bd} {w : World} {m : Nat} {M : Mc} {sk lo ar : List Int} (h : Mach B w m M sk.reverse lo ar) (k : Nat) (hk : k ≤ sk.length) (hn : sk.length ≤ 10000) : Calls Tryz.prog 91 #[.pointer (some ⟨m, 0, none⟩), .int .i64 (k : Int)] w (TakePost B w m M sk lo ar k) := by
  have hlt := h.lt
  have hbm := h.bm
  obtain ⟨a, cap, e, h1, h2, h3⟩ := slice_form (n := sk.length) h.own (by simp)
  have c3 := h.cell 3 _ rfl
  rw [e] at c3
  obtain ⟨a', ks, hr', hnil'⟩ := slice_low w a sk.length cap (sk.length - k) (by omega) h1 sk.reverse (by simp) h3 h2
  have hdr : sk.reverse.drop (sk.length - k) = (sk.take k).reverse := by
    rw [List.drop_reverse]
    congr 2
    omega
  rw [hdr] at hr'
  rw [show sk.length - (sk.length - k) = k by omega] at ks hnil'
  have ks' : ∀ w', (Instr.slice 28 (.slice a sk.length cap) (some (.int .i64 ((sk.length : Int) - (k : Int)))) none none).run Tryz.prog w' = .ok (.slice a' k (cap - (sk.length - k))) w' := fun w' => by
    rw [show ((sk.length : Int) - (k : Int)) = ((sk.length - k : Nat) : Int) by omega]
    exact ks w'
  have hl : (sk.take k).reverse.length = k := by simp; omega
  have C1 := town_any a' (cap - (sk.length - k)) (sk.take k).reverse w.drew hr'.drew (by rw [hl]; exact hnil') (by rw [hl]; omega)
  rw [hl] at C1
  have wq : IntKind.i64.wrap ((sk.length : Int) - (k : Int)) = (sk.length : Int) - (k : Int) := wrapi (by omega)
  have c3d : w.drew.cell? ⟨m, 3, none⟩ = some (.slice a sk.length cap) := c3
  have HFIN := hide (fun (v : Value) (w1 : World) (ho1 : w1.ownsRow w.drew.heap.size 3 1 v k (iV (sk.take k).reverse)) (hb1 : Below w.drew.heap.size w.drew w1) => (show (∀ (k' : Nat), k' = k → Calls Tryz.prog 76 #[.pointer (some ⟨m, 0, none⟩), .int .i64 (k' : Int), .slice none 0 0] w1 fun e w' => e = .returned (.tuple #[]) ∧ TakePost B w m M sk lo ar k (.returned v) w') from by
    intro k' hk'
    subst hk'
    have hb1' : Below w.heap.size w w1 := ⟨hb1.os, hb1.tape, hb1.output, hb1.size, hb1.block⟩
    have hM1 := h.below hb1'
    refine (put_none hM1 k' (by simpa using hk) (by simp; omega) a cap (by simpa using e)).mono ?_
    rintro e' w2 ⟨rfl, rfl⟩
    have hM2 := (hM1.below (show Below w1.heap.size w1 w1.drew from (Below.refl _ _).drew)).cut a cap k' (by simpa using e)
    refine ⟨rfl, v, .slice a (sk.length - k') cap, rfl, ?_, fun g hg => (ho1.lt g hg).1, ?_, ?_, ?_⟩
    · have ho3 : w1.drew.ownsRow B 3 1 v k' (iV (sk.take k').reverse) := own_belowI (own_monoI ho1 (show B.n ≤ w.drew.heap.size by simp; omega)) ((Below.refl _ _).drew)
      exact own_keepI ho3 (fun g hg => heap_setCell_other _ _ _ _ (fun e => by
        have := (ho1.lt g hg).1
        simp at this
        have e' : g = m := e
        omega))
    · simp only [List.length_reverse] at hM2
      rw [rev_take sk k' hk] at hM2
      simpa using hM2
    · rw [e]; cases a <;> rfl
    · simp only [List.length_reverse]
      exact ((hb1'.mono (by omega)).drew).setCell (p := ⟨m, 3, none⟩) hbm _))
  clear h h3 h2 hr' ks hnil'
  go_enter Tryz.func91, Tryz.ntmps91
  go_wp2_with fail
  refine wp_region_noPanic ?_
  refine wp_region_held_drew (S := fun _ => True) (by kernel_rfl) trivial (fun _ => ?_)
  refine takeD (i := 0) (d := some 6) (v := ?_) rfl rfl (by kernel_rfl) (by kernel_rfl) (by kernel_rfl) (fun _ _ _ h => h) (Or.inl ⟨by rfl, ?_⟩) trivial ?_
  rotate_left
  · intro w hSw
    go_simp
    try (with_reducible rfl)
  try simp only [Act.put, List.setIfInBounds_toArray, List.set_cons_zero, List.set_cons_succ]
  refine takeD (i := 1) (d := some 7) (v := ?_) rfl rfl (by kernel_rfl) (by kernel_rfl) (by kernel_rfl) (fun _ _ _ h => h) (Or.inl ⟨by rfl, ?_⟩) trivial ?_
  rotate_left
  · intro w hSw
    go_simp
    try (with_reducible rfl)
  try simp only [Act.put, List.setIfInBounds_toArray, List.set_cons_zero, List.set_cons_succ]
  refine takeD (i := 2) (d := some 8) (v := ?_) rfl rfl (by kernel_rfl) (by kernel_rfl) (by kernel_rfl) (fun _ _ _ h => h) (Or.inl ⟨by rfl, ?_⟩) trivial ?_
  rotate_left
  · intro w hSw
    go_simp
    try (with_reducible rfl)
  try simp only [Act.put, List.setIfInBounds_toArray, List.set_cons_zero, List.set_cons_succ]
  refine takeD (i := 3) (d := some 9) (v := ?_) rfl rfl (by kernel_rfl) (by kernel_rfl) (by kernel_rfl) (fun _ _ _ h => h) (Or.inl ⟨by rfl, ?_⟩) trivial ?_
  rotate_left
  · intro w hSw
    go_simp
    try (with_reducible rfl)
  try simp only [Act.put, List.setIfInBounds_toArray, List.set_cons_zero, List.set_cons_succ]
  refine takeD (i := 5) (d := some 11) (v := ?_) rfl rfl (by kernel_rfl) (by kernel_rfl) (by kernel_rfl) (fun _ _ _ h => h) (Or.inl ⟨by rfl, ?_⟩) trivial ?_
  rotate_left
  · intro w hSw
    go_simp
    try (with_reducible rfl)
  try simp only [Act.put, List.setIfInBounds_toArray, List.set_cons_zero, List.set_cons_succ]
  refine takeD (i := 6) (d := some 12) (v := ?_) rfl rfl (by kernel_rfl) (by kernel_rfl) (by kernel_rfl) (fun _ _ _ h => h) (Or.inl ⟨by rfl, ?_⟩) trivial ?_
  rotate_left
  · intro w hSw
    go_simp
    try (with_reducible rfl)
  try simp only [Act.put, List.setIfInBounds_toArray, List.set_cons_zero, List.set_cons_succ]
  refine takeD (i := 7) (d := some 13) (v := ?_) rfl rfl (by kernel_rfl) (by kernel_rfl) (by kernel_rfl) (fun _ _ _ h => h) (Or.inl ⟨by rfl, ?_⟩) trivial ?_
  rotate_left
  · intro w hSw
    go_simp
    try (with_reducible rfl)
  try simp only [Act.put, List.setIfInBounds_toArray, List.set_cons_zero, List.set_cons_succ]
  refine takeD (i := 8) (d := some 14) (v := ?_) rfl rfl (by kernel_rfl) (by kernel_rfl) (by kernel_rfl) (fun _ _ _ h => h) (Or.inl ⟨by rfl, ?_⟩) trivial ?_
  rotate_left
  · intro w hSw
    go_simp
    try (with_reducible rfl)
  try simp only [Act.put, List.setIfInBounds_toArray, List.set_cons_zero, List.set_cons_succ]
  refine takeD (i := 11) (d := some 17) (v := ?_) rfl rfl (by kernel_rfl) (by kernel_rfl) (by kernel_rfl) (fun _ _ _ h => h) (Or.inl ⟨by rfl, ?_⟩) trivial ?_
  rotate_left
  · intro w hSw
    go_simp
    try (with_reducible rfl)
  try simp only [Act.put, List.setIfInBounds_toArray, List.set_cons_zero, List.set_cons_succ]
  refine wpAnyH_ready (rs := [4, 9]) (by kernel_rfl) (by simp) ?_
  refine AllReadyH.cons rfl (fun K hK => ?_) (AllReadyH.cons rfl (fun K hK => ?_) AllReadyH.nil)
  · go_simp
    go_wp2_with fail
    refine hK.out _ _ trivial (fun _ => ?_)
    clear hK K
    try simp only [Act.put, List.setIfInBounds_toArray, List.set_cons_zero, List.set_cons_succ]
    refine wpAnyH_ready (rs := [9]) (by kernel_rfl) (by simp) ?_
    refine AllReadyH.cons rfl (fun K hK => ?_) AllReadyH.nil
    go_simp
    go_wp2_with fail
    refine hK.out _ _ trivial (fun _ => ?_)
    clear hK K
    try simp only [Act.put, List.setIfInBounds_toArray, List.set_cons_zero, List.set_cons_succ]
    refine takeD (i := 10) (d := some 16) (v := ?_) rfl rfl (by kernel_rfl) (by kernel_rfl) (by kernel_rfl) (fun _ _ _ h => h) (Or.inl ⟨by rfl, ?_⟩) trivial ?_
    rotate_left
    · intro w hSw
      go_simp
      try (with_reducible rfl)
    try simp only [Act.put, List.setIfInBounds_toArray, List.set_cons_zero, List.set_cons_succ]
    refine takeD (i := 12) (d := some 18) (v := ?_) rfl rfl (by kernel_rfl) (by kernel_rfl) (by kernel_rfl) (fun _ _ _ h => h) (Or.inl ⟨by rfl, ?_⟩) trivial ?_
    rotate_left
    · intro w hSw
      go_simp
      try (with_reducible rfl)
    try simp only [Act.put, List.setIfInBounds_toArray, List.set_cons_zero, List.set_cons_succ]
    refine takeD (i := 13) (d := some 19) (v := ?_) rfl rfl (by kernel_rfl) (by kernel_rfl) (by kernel_rfl) (fun _ _ _ h => h) (Or.inl ⟨by rfl, ?_⟩) trivial ?_
    rotate_left
    · intro w hSw
      go_simp
      try (with_reducible rfl)
    try simp only [Act.put, List.setIfInBounds_toArray, List.set_cons_zero, List.set_cons_succ]
    refine wpAnyH_ready (rs := [14]) (by kernel_rfl) (by simp) ?_
    refine AllReadyH.cons rfl (fun K hK => ?_) AllReadyH.nil
    go_simp
    go_at_call 84
    with_reducible refine C1.mono ?_
    (rintro e w1 ⟨v, rfl, ho1, hb1⟩)
    go_wp2_with fail
    refine hK.out _ _ trivial (fun _ => ?_)
    clear hK K
    try simp only [Act.put, List.setIfInBounds_toArray, List.set_cons_zero, List.set_cons_succ]
    refine takeD (i := 15) (d := some 5) (v := ?_) rfl rfl (by kernel_rfl) (by kernel_rfl) (by kernel_rfl) (fun _ _ _ h => h) (Or.inl ⟨by rfl, ?_⟩) trivial ?_
    rotate_left
    · intro w hSw
      go_simp
      try (with_reducible rfl)
    try simp only [Act.put, List.setIfInBounds_toArray, List.set_cons_zero, List.set_cons_succ]
    refine wpAnyH_done (by kernel_rfl) ?_ _
    refine NoPanic.normal ?_
    have CP := HFIN.out v w1 ho1 hb1 k rfl
    clear HFIN C1 ho1 hb1
    go_wp2_with (go_at_call 76; go_must (with_reducible refine CP.mono ?_; (rintro e w6 ⟨rfl, h6⟩)))
    go_ret
    exact h6
  · go_simp
    go_wp2_with fail
    refine hK.out _ _ trivial (fun _ => ?_)
    clear hK K
    try simp only [Act.put, List.setIfInBounds_toArray, List.set_cons_zero, List.set_cons_succ]
    refine takeD (i := 10) (d := some 16) (v := ?_) rfl rfl (by kernel_rfl) (by kernel_rfl) (by kernel_rfl) (fun _ _ _ h => h) (Or.inl ⟨by rfl, ?_⟩) trivial ?_
    rotate_left
    · intro w hSw
      go_simp
      try (with_reducible rfl)
    try simp only [Act.put, List.setIfInBounds_toArray, List.set_cons_zero, List.set_cons_succ]
    refine takeD (i := 12) (d := some 18) (v := ?_) rfl rfl (by kernel_rfl) (by kernel_rfl) (by kernel_rfl) (fun _ _ _ h => h) (Or.inl ⟨by rfl, ?_⟩) trivial ?_
    rotate_left
    · intro w hSw
      go_simp
      try (with_reducible rfl)
    try simp only [Act.put, List.setIfInBounds_toArray, List.set_cons_zero, List.set_cons_succ]
    refine wpAnyH_ready (rs := [4]) (by kernel_rfl) (by simp) ?_
    refine AllReadyH.cons rfl (fun K hK => ?_) AllReadyH.nil
    go_simp
    go_wp2_with fail
    refine hK.out _ _ trivial (fun _ => ?_)
    clear hK K
    try simp only [Act.put, List.setIfInBounds_toArray, List.set_cons_zero, List.set_cons_succ]
    refine takeD (i := 13) (d := some 19) (v := ?_) rfl rfl (by kernel_rfl) (by kernel_rfl) (by kernel_rfl) (fun _ _ _ h => h) (Or.inl ⟨by rfl, ?_⟩) trivial ?_
    rotate_left
    · intro w hSw
      go_simp
      try (with_reducible rfl)
    try simp only [Act.put, List.setIfInBounds_toArray, List.set_cons_zero, List.set_cons_succ]
    refine wpAnyH_ready (rs := [14]) (by kernel_rfl) (by simp) ?_
    refine AllReadyH.cons rfl (fun K hK => ?_) AllReadyH.nil
    go_simp
    go_at_call 84
    with_reducible refine C1.mono ?_
    (rintro e w1 ⟨v, rfl, ho1, hb1⟩)
    go_wp2_with fail
    refine hK.out _ _ trivial (fun _ => ?_)
    clear hK K
    try simp only [Act.put, List.setIfInBounds_toArray, List.set_cons_zero, List.set_cons_succ]
    refine takeD (i := 15) (d := some 5) (v := ?_) rfl rfl (by kernel_rfl) (by kernel_rfl) (by kernel_rfl) (fun _ _ _ h => h) (Or.inl ⟨by rfl, ?_⟩) trivial ?_
    rotate_left
    · intro w hSw
      go_simp
      try (with_reducible rfl)
    try simp only [Act.put, List.setIfInBounds_toArray, List.set_cons_zero, List.set_cons_succ]
    refine wpAnyH_done (by kernel_rfl) ?_ _
    refine NoPanic.normal ?_
    have CP := HFIN.out v w1 ho1 hb1 k rfl
    clear HFIN C1 ho1 hb1
    go_wp2_with (go_at_call 76; go_must (with_reducible refine CP.mono ?_; (rintro e w6 ⟨rfl, h6⟩)))
    go_ret
    exact h6
end Go.Proofs.YtbpcibnomkfglaaGreatDoor
/- spawn. -/

namespace Go.Proofs.YtbpcibnomkfglaaGreatDoor
open Go.RowKit Go.ChangeShapes Go.WideShapes Go.ChangeAt Go.Deep

set_option linter.unusedSimpArgs false in
set_option maxRecDepth 100000 in
set_option maxHeartbeats 2000000 in
theorem spawn_deep {B : Bd} {w : World} {m : Nat} {M : Mc} {st lo ar : List Int} (h : Mach B w m M st lo ar) (n deep : Int) (hd : ¬ deep < 12) : Calls Tryz.prog 87 #[.pointer (some ⟨m, 0, none⟩), .int .i64 n, .int .i64 deep] w fun e w' => e = upF 22 0 ∧ Mach B w' m M st lo ar ∧ Below B w w' := by
  have N0 := fun w => tneed_no 22 w
  unfold upF failV at N0
  have hdb : decide (deep < 12) = false := by simpa using hd
  go_enter Tryz.func87, Tryz.ntmps87
  go_wp2_with (go_at_call 53; go_must (with_reducible refine (N0 _).mono ?_; (rintro e w1 ⟨rfl, hw1⟩); subst hw1))
  exact ⟨rfl, rfl, h, Below.refl _ _⟩
set_option linter.unusedSimpArgs false in
set_option maxRecDepth 100000 in
set_option maxHeartbeats 2000000 in
theorem spawn_kids {B : Bd} {w : World} {m : Nat} {M : Mc} {st lo ar : List Int} (h : Mach B w m M st lo ar) (n deep : Int) (hd : deep < 12) (hk : ¬ M.kd < 16) : Calls Tryz.prog 87 #[.pointer (some ⟨m, 0, none⟩), .int .i64 n, .int .i64 deep] w fun e w' => e = upF 23 0 ∧ Mach B w' m M st lo ar ∧ Below B w w' := by
  have N1 := fun w => tneed_yes 22 w
  have N0 := fun w => tneed_no 23 w
  unfold upF failV at N0
  have hkb : decide (M.kd < 16) = false := by simpa using hk
  have c5 := h.cell 5 _ rfl
  go_enter Tryz.func87, Tryz.ntmps87
  go_wp2_with (go_at_call 53; first
    | (with_reducible refine (N1 _).mono ?_; (rintro e w1 ⟨rfl, hw1⟩); subst hw1)
    | (with_reducible refine (N0 _).mono ?_; (rintro e w1 ⟨rfl, hw1⟩); subst hw1))
  exact ⟨rfl, rfl, h, Below.refl _ _⟩
set_option linter.unusedSimpArgs false in
set_option maxRecDepth 100000 in
set_option maxHeartbeats 2000000 in
theorem spawn_any {B : Bd} {w : World} {m : Nat} {M : Mc} {sk lo ar : List Int} {cs : List Value} {fs : List Fun} {args : List Int} {deep : Int} (h : Mach B w m M sk.reverse lo ar) (n0 : Nat) (g : Fun) (hg : fs[n0]? = some g) (k : Nat) (hk : g.args = (k : Int)) (hkl : k ≤ sk.length) (hsk : sk.length ≤ 10000) (hd : deep < 12) (hkd : 0 ≤ M.kd ∧ M.kd < 16) (pc : Nat) (hpc : M.pc = (pc : Int)) (hpl : pc ≤ 1000000) (hbJ : ∃ w0 : World, B.n = w0.heap.size ∧ Below B w0 w ∧ JobR w0 M.j cs fs args) :
    Calls Tryz.prog 87 #[.pointer (some ⟨m, 0, none⟩), .int .i64 (n0 : Int), .int .i64 deep] w fun e w' => e = .returned (.tuple #[]) ∧ ∃ sv av, Mach B w' m { M with ek := 1, ef := (n0 : Int), ei := M.kd, av := av, sv := sv, kd := M.kd + 1, pc := (pc : Int) + 1 } (M.kd :: sk.drop k).reverse lo (sk.take k).reverse ∧ Below B w w' := by
  obtain ⟨w0, hB0, hbw0, hJ0⟩ := hbJ
  have hlt := h.lt
  have hbm := h.bm
  have N1 := fun w => tneed_yes 22 w
  have N2 := fun w => tneed_yes 23 w
  have c5 := h.cell 5 _ rfl
  go_enter Tryz.func87, Tryz.ntmps87
  go_upto_region 2 with (go_at_call 53; first
    | (with_reducible refine (N1 _).mono ?_; (rintro e w1 ⟨rfl, hw1⟩); have hw2 := hw1.symm; subst hw2)
    | (with_reducible refine (N2 _).mono ?_; (rintro e w1 ⟨rfl, hw1⟩); have hw2 := hw1.symm; subst hw2))
  have c12 := h.cell 12 _ rfl
  have f12 := h.froz 12
  have h1 := h.put (M' := { M with ek := 1 }) 12 (.int .i64 1) rfl rfl rfl rfl
  have c13 := h1.cell 13 _ rfl
  have f13 := h1.froz 13
  have h2 := h1.put (M' := { M with ek := 1, ef := (n0 : Int) }) 13 (.int .i64 (n0 : Int)) rfl rfl rfl rfl
  have c14 := h2.cell 14 _ rfl
  have f14 := h2.froz 14
  have h3 := h2.put (M' := { M with ek := 1, ef := (n0 : Int), ei := M.kd }) 14 (.int .i64 M.kd) rfl rfl rfl rfl
  have hb3 : Below B w (((w.setCell ⟨m, 12, none⟩ (.int .i64 1)).setCell ⟨m, 13, none⟩ (.int .i64 (n0 : Int))).setCell ⟨m, 14, none⟩ (.int .i64 M.kd)) := (((Below.refl _ _).setCell (p := ⟨m, 12, none⟩) hbm _).setCell (p := ⟨m, 13, none⟩) hbm _).setCell (p := ⟨m, 14, none⟩) hbm _
  clear h1 h2
  go_upto_region 3 with fail
  clear c5 c12 f12 c13 f13 c14 f14
  generalize (((w.setCell ⟨m, 12, none⟩ (.int .i64 1)).setCell ⟨m, 13, none⟩ (.int .i64 (n0 : Int))).setCell ⟨m, 14, none⟩ (.int .i64 M.kd)) = w3 at *
  have hJ3 : JobR w3 M.j cs fs args := hJ0.below (hB0 ▸ (hbw0.trans hb3))
  have hfl2 : n0 < fs.length := (List.getElem?_eq_some_iff.1 hg).1
  obtain ⟨fb, off, ca, cc, ea, _, k1, _, k3, hrc, _⟩ := hJ3.fun_at hfl2
  have efn : fs[n0] = g := (List.getElem?_eq_some_iff.1 hg).2
  rw [efn, hk] at k1
  have c7 := h3.cell 7 _ rfl
  simp only [ea, hJ3.nf] at c7
  have hfl3 : (n0 : Int) < (fs.length : Int) := by omega
  have c7d : w3.drew.cell? ⟨m, 7, none⟩ = some (.slice (some ⟨fb, off, none⟩) fs.length M.j.fc) := c7
  have k1d : w3.drew.cell? ⟨fb, off + n0 * 4 + 1, none⟩ = some (.int .i64 (k : Int)) := k1
  have h3d := h3.below (show Below w3.heap.size w3 w3.drew from (Below.refl _ _).drew)
  have CT := take_any h3d k hkl hsk
  unfold TakePost at CT
  have HB3 := hide hb3
  have SVLT := hide (fun (g : Nat) (hg : M.sv.ownBlock = some g) => (h3d.own.lt g hg).2)
  have LVLT := hide (fun (g : Nat) (hg : M.lv.ownBlock = some g) => (h3d.loc.lt g hg).2)
  have hs3 := hb3.size
  clear h h3 hJ3 hrc hJ0 hbw0 hb3 h3d hB0
  go_wp2_with fail
  refine wp_region_noPanic ?_
  refine wp_region_held_drew (S := fun _ => True) (by kernel_rfl) trivial (fun _ => ?_)
  refine takeD (i := 0) (d := some 36) (v := ?_) rfl rfl (by kernel_rfl) (by kernel_rfl) (by kernel_rfl) (fun _ _ _ h => h) (Or.inl ⟨by rfl, ?_⟩) trivial ?_
  rotate_left
  · intro w hSw
    go_simp
    try (with_reducible rfl)
  try simp only [Act.put, List.setIfInBounds_toArray, List.set_cons_zero, List.set_cons_succ]
  refine takeD (i := 1) (d := some 37) (v := ?_) rfl rfl (by kernel_rfl) (by kernel_rfl) (by kernel_rfl) (fun _ _ _ h => h) (Or.inl ⟨by rfl, ?_⟩) trivial ?_
  rotate_left
  · intro w hSw
    go_simp
    try (with_reducible rfl)
  try simp only [Act.put, List.setIfInBounds_toArray, List.set_cons_zero, List.set_cons_succ]
  refine takeD (i := 2) (d := some 38) (v := ?_) rfl rfl (by kernel_rfl) (by kernel_rfl) (by kernel_rfl) (fun _ _ _ h => h) (Or.inl ⟨by rfl, ?_⟩) trivial ?_
  rotate_left
  · intro w hSw
    go_simp
    try (with_reducible rfl)
  try simp only [Act.put, List.setIfInBounds_toArray, List.set_cons_zero, List.set_cons_succ]
  refine takeD (i := 3) (d := some 39) (v := ?_) rfl rfl (by kernel_rfl) (by kernel_rfl) (by kernel_rfl) (fun _ _ _ h => h) (Or.inl ⟨by rfl, ?_⟩) trivial ?_
  rotate_left
  · intro w hSw
    go_simp
    try (with_reducible rfl)
  try simp only [Act.put, List.setIfInBounds_toArray, List.set_cons_zero, List.set_cons_succ]
  refine takeD (i := 4) (d := some 40) (v := ?_) rfl rfl (by kernel_rfl) (by kernel_rfl) (by kernel_rfl) (fun _ _ _ h => h) (Or.inl ⟨by rfl, ?_⟩) trivial ?_
  rotate_left
  · intro w hSw
    go_simp
    try (with_reducible rfl)
  try simp only [Act.put, List.setIfInBounds_toArray, List.set_cons_zero, List.set_cons_succ]
  refine takeD (i := 5) (d := some 41) (v := ?_) rfl rfl (by kernel_rfl) (by kernel_rfl) (by kernel_rfl) (fun _ _ _ h => h) (Or.inl ⟨by rfl, ?_⟩) trivial ?_
  rotate_left
  · intro w hSw
    go_simp
    try (with_reducible rfl)
  try simp only [Act.put, List.setIfInBounds_toArray, List.set_cons_zero, List.set_cons_succ]
  refine takeD (i := 6) (d := some 42) (v := ?_) rfl rfl (by kernel_rfl) (by kernel_rfl) (by kernel_rfl) (fun _ _ _ h => h) (Or.inl ⟨by rfl, ?_⟩) trivial ?_
  rotate_left
  · intro w hSw
    go_simp
    try (with_reducible rfl)
  try simp only [Act.put, List.setIfInBounds_toArray, List.set_cons_zero, List.set_cons_succ]
  refine takeD (i := 7) (d := some 43) (v := ?_) rfl rfl (by kernel_rfl) (by kernel_rfl) (by kernel_rfl) (fun _ _ _ h => h) (Or.inl ⟨by rfl, ?_⟩) trivial ?_
  rotate_left
  · intro w hSw
    go_simp
    try (with_reducible rfl)
  try simp only [Act.put, List.setIfInBounds_toArray, List.set_cons_zero, List.set_cons_succ]
  refine takeD (i := 9) (d := some 45) (v := ?_) rfl rfl (by kernel_rfl) (by kernel_rfl) (by kernel_rfl) (fun _ _ _ h => h) (Or.inl ⟨by rfl, ?_⟩) trivial ?_
  rotate_left
  · intro w hSw
    go_simp
    try (with_reducible rfl)
  try simp only [Act.put, List.setIfInBounds_toArray, List.set_cons_zero, List.set_cons_succ]
  refine wpAnyH_ready (rs := [8]) (by kernel_rfl) (by simp) ?_
  refine AllReadyH.cons rfl (fun K hK => ?_) AllReadyH.nil
  go_simp
  go_wp2_with fail
  refine hK.out _ _ trivial (fun _ => ?_)
  clear hK K
  try simp only [Act.put, List.setIfInBounds_toArray, List.set_cons_zero, List.set_cons_succ]
  refine takeD (i := 10) (d := some 46) (v := ?_) rfl rfl (by kernel_rfl) (by kernel_rfl) (by kernel_rfl) (fun _ _ _ h => h) (Or.inl ⟨by rfl, ?_⟩) trivial ?_
  rotate_left
  · intro w hSw
    go_simp
    try (with_reducible rfl)
  try simp only [Act.put, List.setIfInBounds_toArray, List.set_cons_zero, List.set_cons_succ]
  refine takeD (i := 11) (d := some 47) (v := ?_) rfl rfl (by kernel_rfl) (by kernel_rfl) (by kernel_rfl) (fun _ _ _ h => h) (Or.inl ⟨by rfl, ?_⟩) trivial ?_
  rotate_left
  · intro w hSw
    go_simp
    try (with_reducible rfl)
  try simp only [Act.put, List.setIfInBounds_toArray, List.set_cons_zero, List.set_cons_succ]
  refine wpAnyH_ready (rs := [12]) (by kernel_rfl) (by simp) ?_
  refine AllReadyH.cons rfl (fun K hK => ?_) AllReadyH.nil
  go_simp
  go_wp2_with fail
  refine hK.out _ _ trivial (fun _ => ?_)
  clear hK K
  try simp only [Act.put, List.setIfInBounds_toArray, List.set_cons_zero, List.set_cons_succ]
  refine wpAnyH_ready (rs := [13]) (by kernel_rfl) (by simp) ?_
  refine AllReadyH.cons rfl (fun K hK => ?_) AllReadyH.nil
  go_simp
  go_at_call 91
  with_reducible refine CT.mono ?_
  (rintro e w4 ⟨v, sv4, rfl, ho4, hn4, hM4, hs4, hb4⟩)
  refine Hid.out ?_
  refine Lib.hid ?_
  obtain ⟨va, vc, rfl, _⟩ := slice_form (st := (sk.take k).reverse) (n := k) (B := B.n) (w := w4) (by rw [show (sk.take k).reverse.length = k by simp; omega]; exact ho4) (by simp; omega)
  have c16 := hM4.cell 16 _ rfl
  have f16 := hM4.froz 16
  go_wp2_with fail
  refine hK.out _ _ trivial (fun _ => ?_)
  clear hK K
  try simp only [Act.put, List.setIfInBounds_toArray, List.set_cons_zero, List.set_cons_succ]
  refine takeD (i := 14) (d := some 50) (v := ?_) rfl rfl (by kernel_rfl) (by kernel_rfl) (by kernel_rfl) (fun _ _ _ h => h) (Or.inl ⟨by rfl, ?_⟩) trivial ?_
  rotate_left
  · intro w hSw
    go_simp
    try (with_reducible rfl)
  try simp only [Act.put, List.setIfInBounds_toArray, List.set_cons_zero, List.set_cons_succ]
  refine takeD (i := 15) (d := some 51) (v := ?_) rfl rfl (by kernel_rfl) (by kernel_rfl) (by kernel_rfl) (fun _ _ _ h => h) (Or.inl ⟨by rfl, ?_⟩) trivial ?_
  rotate_left
  · intro w hSw
    go_simp
    try (with_reducible rfl)
  try simp only [Act.put, List.setIfInBounds_toArray, List.set_cons_zero, List.set_cons_succ]
  refine takeD (i := 16) (d := some 52) (v := ?_) rfl rfl (by kernel_rfl) (by kernel_rfl) (by kernel_rfl) (fun _ _ _ h => h) (Or.inl ⟨by rfl, ?_⟩) trivial ?_
  rotate_left
  · intro w hSw
    go_simp
    try (with_reducible rfl)
  try simp only [Act.put, List.setIfInBounds_toArray, List.set_cons_zero, List.set_cons_succ]
  refine wpAnyH_ready (rs := [17]) (by kernel_rfl) (by simp) ?_
  refine AllReadyH.cons rfl (fun K hK => ?_) AllReadyH.nil
  go_simp
  go_wp2_with fail
  refine hK.out _ _ trivial (fun _ => ?_)
  clear hK K
  try simp only [Act.put, List.setIfInBounds_toArray, List.set_cons_zero, List.set_cons_succ]
  refine wpAnyH_done (by kernel_rfl) ?_ _
  refine NoPanic.normal ?_
  have h5 := hM4.args (.slice va k vc) (sk.take k).reverse (by rw [show (sk.take k).reverse.length = k by simp; omega]; exact ho4) (fun g hg hh => by have q1 := hn4 g hg; rw [show ({ M with ek := 1, ef := (n0 : Int), ei := M.kd, sv := sv4 } : Mc).sv.ownBlock = M.sv.ownBlock from hs4] at hh; have q2 := (SVLT.out g hh); simp at q1 q2; omega) (fun g hg hh => by have q1 := hn4 g hg; have q2 := (LVLT.out g hh); simp at q1 q2; omega)
  have hb5 : Below B w (w4.setCell ⟨m, 16, none⟩ (.slice va k vc)) := ((HB3.out.drew).trans hb4).setCell (p := ⟨m, 16, none⟩) hbm _
  clear CT c16 f16 hM4 ho4 hn4 hs4 hb4 c7 c7d k1 k1d SVLT LVLT HB3
  generalize w4.setCell ⟨m, 16, none⟩ (.slice va k vc) = w5 at *
  have hlt5 := h5.lt
  have hb6 : Below w5.heap.size w5 (w5.alloc (.cells #[.int .i64 M.kd] 3)).drew := ((Below.refl _ _).alloc (Nat.le_refl _) _).drew
  have C5 : Calls Tryz.prog 76 #[.pointer (some ⟨m, 0, none⟩), .int .i64 0, .slice (some ⟨w5.heap.size, 0, none⟩) 1 1] (w5.alloc (.cells #[.int .i64 M.kd] 3)).drew (PutPost B _ m _ (M.kd :: sk.drop k).reverse lo (sk.take k).reverse) := put_rev (h5.below hb6) 0 (by omega) (by simp; omega) (some ⟨w5.heap.size, 0, none⟩) 1 1 [M.kd] (M.kd :: sk.drop k) (Reads.drew (reads_new1 _ M.kd)) rfl (fun h => by cases h) (by omega) (by simp)
  unfold PutPost at C5
  have c5 := h5.cell 5 _ rfl
  have c5d : w5.drew.cell? ⟨m, 5, none⟩ = some (.int .i64 M.kd) := c5
  have HB5 := hide (hb5.trans (hb6.mono (by omega)))
  clear h5 hb6 hb5
  go_wp2_with fail
  refine wp_region_noPanic ?_
  refine wp_region_held_drew (S := fun _ => True) (by kernel_rfl) trivial (fun _ => ?_)
  refine takeD (i := 0) (d := some 53) (v := ?_) rfl rfl (by kernel_rfl) (by kernel_rfl) (by kernel_rfl) (fun _ _ _ h => h) (Or.inl ⟨by rfl, ?_⟩) trivial ?_
  rotate_left
  · intro w hSw
    go_simp
    try (with_reducible rfl)
  try simp only [Act.put, List.setIfInBounds_toArray, List.set_cons_zero, List.set_cons_succ]
  refine takeD (i := 1) (d := some 54) (v := ?_) rfl rfl (by kernel_rfl) (by kernel_rfl) (by kernel_rfl) (fun _ _ _ h => h) (Or.inl ⟨by rfl, ?_⟩) trivial ?_
  rotate_left
  · intro w hSw
    go_simp
    try (with_reducible rfl)
  try simp only [Act.put, List.setIfInBounds_toArray, List.set_cons_zero, List.set_cons_succ]
  refine takeD (i := 2) (d := some 55) (v := ?_) rfl rfl (by kernel_rfl) (by kernel_rfl) (by kernel_rfl) (fun _ _ _ h => h) (Or.inl ⟨by rfl, ?_⟩) trivial ?_
  rotate_left
  · intro w hSw
    go_simp
    try (with_reducible rfl)
  try simp only [Act.put, List.setIfInBounds_toArray, List.set_cons_zero, List.set_cons_succ]
  refine takeD (i := 3) (d := some 56) (v := ?_) rfl rfl (by kernel_rfl) (by kernel_rfl) (by kernel_rfl) (fun _ _ _ h => h) (Or.inl ⟨by rfl, ?_⟩) trivial ?_
  rotate_left
  · intro w hSw
    go_simp
    try (with_reducible rfl)
  try simp only [Act.put, List.setIfInBounds_toArray, List.set_cons_zero, List.set_cons_succ]
  refine takeD (i := 4) (d := some 57) (v := ?_) rfl rfl (by kernel_rfl) (by kernel_rfl) (by kernel_rfl) (fun _ _ _ h => h) (Or.inl ⟨by rfl, ?_⟩) trivial ?_
  rotate_left
  · intro w hSw
    go_simp
    try (with_reducible rfl)
  try simp only [Act.put, List.setIfInBounds_toArray, List.set_cons_zero, List.set_cons_succ]
  refine takeD (i := 5) (d := some 58) (v := ?_) rfl rfl (by kernel_rfl) (by kernel_rfl) (by kernel_rfl) (fun _ _ _ h => h) (Or.inl ⟨by rfl, ?_⟩) trivial ?_
  rotate_left
  · intro w hSw
    go_simp
    try (with_reducible rfl)
  try simp only [Act.put, List.setIfInBounds_toArray, List.set_cons_zero, List.set_cons_succ]
  refine takeD (i := 6) (d := some 59) (v := ?_) rfl rfl (by kernel_rfl) (by kernel_rfl) (by kernel_rfl) (fun _ _ _ h => h) (Or.inl ⟨by rfl, ?_⟩) trivial ?_
  rotate_left
  · intro w hSw
    go_simp
    try (with_reducible rfl)
  try simp only [Act.put, List.setIfInBounds_toArray, List.set_cons_zero, List.set_cons_succ]
  refine takeD (i := 7) (d := some 60) (v := ?_) rfl rfl (by kernel_rfl) (by kernel_rfl) (by kernel_rfl) (fun _ _ _ h => h) (Or.inl ⟨by rfl, ?_⟩) trivial ?_
  rotate_left
  · intro w hSw
    go_simp
    try (with_reducible rfl)
  try simp only [Act.put, List.setIfInBounds_toArray, List.set_cons_zero, List.set_cons_succ]
  refine wpAnyH_ready (rs := [8]) (by kernel_rfl) (by simp) ?_
  refine AllReadyH.cons rfl (fun K hK => ?_) AllReadyH.nil
  go_simp
  go_wp2_with fail
  refine hK.out _ _ trivial (fun _ => ?_)
  clear hK K
  try simp only [Act.put, List.setIfInBounds_toArray, List.set_cons_zero, List.set_cons_succ]
  refine wpAnyH_ready (rs := [9]) (by kernel_rfl) (by simp) ?_
  refine AllReadyH.cons rfl (fun K hK => ?_) AllReadyH.nil
  go_simp
  go_wp2_with fail
  refine hK.out _ _ trivial (fun _ => ?_)
  clear hK K
  try simp only [Act.put, List.setIfInBounds_toArray, List.set_cons_zero, List.set_cons_succ]
  refine wpAnyH_ready (rs := [10]) (by kernel_rfl) (by simp) ?_
  refine AllReadyH.cons rfl (fun K hK => ?_) AllReadyH.nil
  go_simp
  go_at_call 76
  with_reducible refine C5.mono ?_
  (rintro e w6 ⟨rfl, sv6, h6, hb6⟩)
  go_wp2_with fail
  refine hK.out _ _ trivial (fun _ => ?_)
  clear hK K
  try simp only [Act.put, List.setIfInBounds_toArray, List.set_cons_zero, List.set_cons_succ]
  refine wpAnyH_done (by kernel_rfl) ?_ _
  refine NoPanic.normal ?_
  have c5 := h6.cell 5 _ rfl
  have f5 := h6.froz 5
  have h7 := h6.put (M' := { M with ek := 1, ef := (n0 : Int), ei := M.kd, sv := sv6, av := .slice va k vc, kd := M.kd + 1 }) 5 (.int .i64 (M.kd + 1)) rfl rfl rfl rfl
  have c1 := h7.cell 1 _ rfl
  simp only [hpc] at c1
  have f1 := h7.froz 1
  have h8 := h7.put (M' := { M with ek := 1, ef := (n0 : Int), ei := M.kd, sv := sv6, av := .slice va k vc, kd := M.kd + 1, pc := (pc : Int) + 1 }) 1 (.int .i64 ((pc : Int) + 1)) rfl rfl rfl rfl
  have HB8 := hide (show Below B w ((w6.setCell ⟨m, 5, none⟩ (.int .i64 (M.kd + 1))).setCell ⟨m, 1, none⟩ (.int .i64 ((pc : Int) + 1))) from ((HB5.out.trans hb6).setCell (p := ⟨m, 5, none⟩) hbm _).setCell (p := ⟨m, 1, none⟩) hbm _)
  have H8 := hide h8
  clear h6 h7 h8 C5 hb6
  go_wp2_with fail
  go_end0
  exact ⟨rfl, ⟨sv6, .slice va k vc, by simpa using H8.out⟩, HB8.out⟩
end Go.Proofs.YtbpcibnomkfglaaGreatDoor
/- step: jump,zero,fail. -/

namespace Go.Proofs.YtbpcibnomkfglaaGreatDoor
open Go.RowKit Go.ChangeShapes Go.WideShapes Go.ChangeAt Go.Deep

set_option linter.unusedVariables false in
set_option linter.unusedSimpArgs false in
set_option maxRecDepth 100000 in
set_option maxHeartbeats 2000000 in
theorem step_jump {B : Bd} {w w0 : World} {m : Nat} {M : Mc} {sk lo ar : List Int} {cs : List Value} {fs : List Fun} {args : List Int} {deep : Int} (h : Mach B w m M sk.reverse lo ar) (hJ : JobR w0 M.j cs fs args) (hB : B = w0.heap.size) (hb : Below B w0 w) (fn pc : Nat) (f : Fun) (n : Int)
    (hfn : M.fn = (fn : Int)) (hpc : M.pc = (pc : Int)) (hf : fs[fn]? = some f) (hi : f.code[pc]? = some (14, n)) (hfu : M.fu < M.j.fuel) (hfl : -1000000 ≤ M.fu ∧ M.fu ≤ 1000000) (hes : -1000000 ≤ M.es ∧ M.es ≤ 1000000) (hpcl : pc ≤ 1000000) 
    (hn : True) :
    Calls Tryz.prog 75 #[.pointer (some ⟨m, 0, none⟩), .int .i64 deep] w fun e w' => e = .returned (.tuple #[]) ∧ Mach B w' m { M with fu := M.fu + 1, es := M.es + 1, pc := n } sk.reverse lo ar ∧ Below B w w' := by
  have hlt := h.lt
  have hbm := h.bm
  have N1 := fun w => tneed_yes 21 w
  have c2 := h.cell 2 _ rfl
  have c10 := h.cell 10 _ rfl
  have hbs := hb.size
  go_enter Tryz.func75, Tryz.ntmps75
  go_wp2_with fail
  go_big_quiet (first | (go_at_call 53; with_reducible exact Calls.quiet_of_same (N1 _)))
  have hb1 : Below w.heap.size w (w.drewN nq) := below_drewN' (Below.refl _ _) nq
  have h1 := h.below hb1
  have hB1 : Below B w0 (w.drewN nq) := hb.trans (hb1.mono (by omega))
  generalize w.drewN nq = w1 at *
  clear c2 c10
  have c2 := h1.cell 2 _ rfl
  have f2 := h1.froz 2
  have h2 := h1.put (M' := { M with fu := M.fu + 1 }) 2 (.int .i64 (M.fu + 1)) rfl rfl rfl rfl
  have hB2 : Below B w0 (w1.setCell ⟨m, 2, none⟩ (.int .i64 (M.fu + 1))) := hB1.setCell (p := ⟨m, 2, none⟩) hbm _
  have hw2 : Below B w (w1.setCell ⟨m, 2, none⟩ (.int .i64 (M.fu + 1))) := (hb1.mono (by omega)).setCell (p := ⟨m, 2, none⟩) hbm _
  go_upto_region 2 with fail
  clear c2 f2
  generalize w1.setCell ⟨m, 2, none⟩ (.int .i64 (M.fu + 1)) = w2 at *
  have c15 := h2.cell 15 _ rfl
  have f15 := h2.froz 15
  have h3 := h2.put (M' := { M with fu := M.fu + 1, es := M.es + 1 }) 15 (.int .i64 (M.es + 1)) rfl rfl rfl rfl
  have hB3 : Below B w0 (w2.setCell ⟨m, 15, none⟩ (.int .i64 (M.es + 1))) := hB2.setCell (p := ⟨m, 15, none⟩) hbm _
  have hw3 : Below B w (w2.setCell ⟨m, 15, none⟩ (.int .i64 (M.es + 1))) := hw2.setCell (p := ⟨m, 15, none⟩) hbm _
  go_upto_region 3 with fail
  clear c15 f15
  generalize w2.setCell ⟨m, 15, none⟩ (.int .i64 (M.es + 1)) = w3 at *
  have hJ3 : JobR w3 M.j cs fs args := hJ.below (hB ▸ hB3)
  have hfl2 : fn < fs.length := (List.getElem?_eq_some_iff.1 hf).1
  have hpl : pc < f.code.length := (List.getElem?_eq_some_iff.1 hi).1
  obtain ⟨fb, off, ca, cc, ea, _, _, _, k3, hrc, _⟩ := hJ3.fun_at hfl2
  have efn : fs[fn] = f := (List.getElem?_eq_some_iff.1 hf).2
  rw [efn] at k3 hrc
  obtain ⟨cb, co, rfl, ki, kn⟩ := ins_cells hrc hi
  have c7 := h3.cell 7 _ rfl
  have c0 := h3.cell 0 _ rfl
  have c1 := h3.cell 1 _ rfl
  simp only [ea, hfn, hpc, hJ3.nf] at c7 c0 c1
  have hba := alloc_below w3 (.cells #[.int .i64 0, .int .i64 0] 40)
  have c7' := keep_cell c7 hba
  have c0' := keep_cell c0 hba
  have c1' := keep_cell c1 hba
  have k3' := keep_cell k3 hba
  have ki' := keep_cell ki hba
  have kn' := keep_cell kn hba
  have hfl3 : (fn : Int) < (fs.length : Int) := by omega
  have hpl3 : (pc : Int) < (f.code.length : Int) := by omega
  have H3 := hide h3
  have HW3 := hide hw3
  clear h h1 h2 h3 hw2 hw3 hJ3 hrc hB1 hB2 hB3 hJ hb hb1 hf hi efn
  go_big_region
  have hb4 : Below w3.heap.size w3 (w3.alloc (.cells #[.int .i64 14, .int .i64 n] 40)).drew := (alloc_below w3 _).drew
  have h4 := H3.out.below hb4
  have hw4 : Below B w (w3.alloc (.cells #[.int .i64 14, .int .i64 n] 40)).drew := HW3.out.trans (hb4.mono (by have := H3.out.lt; omega))
  have bx0 : (w3.alloc (.cells #[.int .i64 14, .int .i64 n] 40)).drew.cell? ⟨w3.heap.size, 0, none⟩ = some (.int .i64 14) := keep_cell (cell_row (cs := [.int .i64 14, .int .i64 n]) (i := 0) (heap_alloc_new w3 _) rfl) ((Below.refl _ _).drew)
  have bx1 : (w3.alloc (.cells #[.int .i64 14, .int .i64 n] 40)).drew.cell? ⟨w3.heap.size, 1, none⟩ = some (.int .i64 n) := keep_cell (cell_row (cs := [.int .i64 14, .int .i64 n]) (i := 1) (heap_alloc_new w3 _) rfl) ((Below.refl _ _).drew)
  clear c7 c0 c1 k3 ki kn c7' c0' c1' k3' ki' kn' H3 HW3 hba hfn
  generalize (w3.alloc (.cells #[.int .i64 14, .int .i64 n] 40)).drew = w4 at *
  have c1 := h4.cell 1 _ rfl
  have f1 := h4.froz 1
  have H6 := hide (h4.put (M' := { M with fu := M.fu + 1, es := M.es + 1, pc := n }) 1 (.int .i64 n) rfl rfl rfl rfl)
  have HB6 := hide (show Below B w (w4.setCell ⟨m, 1, none⟩ (.int .i64 n)) from hw4.setCell (p := ⟨m, 1, none⟩) hbm _)
  clear h4 hb4 hw4 hpc hB
  go_wp2_with fail
  go_end0
  exact ⟨rfl, H6.out, HB6.out⟩
def StepZ (B : Bd) (w : World) (m : Nat) (M : Mc) (sk lo ar : List Int) (x n : Int) (pc : Nat) (w' : World) : Prop := ∃ sv, Mach B w' m { M with fu := M.fu + 1, es := M.es + 1, sv := sv, pc := if x = 0 then n else (pc : Int) + 1 } sk.reverse lo ar ∧ Below B w w'
set_option linter.unusedVariables false in
set_option linter.unusedSimpArgs false in
set_option maxRecDepth 100000 in
set_option maxHeartbeats 2000000 in
theorem step_zero {B : Bd} {w w0 : World} {m : Nat} {M : Mc} {sk lo ar : List Int} {x : Int} {cs : List Value} {fs : List Fun} {args : List Int} {deep : Int} (h : Mach B w m M (x :: sk).reverse lo ar) (hJ : JobR w0 M.j cs fs args) (hB : B = w0.heap.size) (hb : Below B w0 w) (fn pc : Nat) (f : Fun) (n : Int)
    (hfn : M.fn = (fn : Int)) (hpc : M.pc = (pc : Int)) (hf : fs[fn]? = some f) (hi : f.code[pc]? = some (15, n)) (hfu : M.fu < M.j.fuel) (hfl : -1000000 ≤ M.fu ∧ M.fu ≤ 1000000) (hes : -1000000 ≤ M.es ∧ M.es ≤ 1000000) (hpcl : pc ≤ 1000000) 
    (hsk : sk.length ≤ 10000) :
    Calls Tryz.prog 75 #[.pointer (some ⟨m, 0, none⟩), .int .i64 deep] w fun e w' => e = .returned (.tuple #[]) ∧ StepZ B w m M sk lo ar x n pc w' := by
  have hlt := h.lt
  have hbm := h.bm
  have N1 := fun w => tneed_yes 21 w
  have c2 := h.cell 2 _ rfl
  have c10 := h.cell 10 _ rfl
  have hbs := hb.size
  go_enter Tryz.func75, Tryz.ntmps75
  go_wp2_with fail
  go_big_quiet (first | (go_at_call 53; with_reducible exact Calls.quiet_of_same (N1 _)))
  have hb1 : Below w.heap.size w (w.drewN nq) := below_drewN' (Below.refl _ _) nq
  have h1 := h.below hb1
  have hB1 : Below B w0 (w.drewN nq) := hb.trans (hb1.mono (by omega))
  generalize w.drewN nq = w1 at *
  clear c2 c10
  have c2 := h1.cell 2 _ rfl
  have f2 := h1.froz 2
  have h2 := h1.put (M' := { M with fu := M.fu + 1 }) 2 (.int .i64 (M.fu + 1)) rfl rfl rfl rfl
  have hB2 : Below B w0 (w1.setCell ⟨m, 2, none⟩ (.int .i64 (M.fu + 1))) := hB1.setCell (p := ⟨m, 2, none⟩) hbm _
  have hw2 : Below B w (w1.setCell ⟨m, 2, none⟩ (.int .i64 (M.fu + 1))) := (hb1.mono (by omega)).setCell (p := ⟨m, 2, none⟩) hbm _
  go_upto_region 2 with fail
  clear c2 f2
  generalize w1.setCell ⟨m, 2, none⟩ (.int .i64 (M.fu + 1)) = w2 at *
  have c15 := h2.cell 15 _ rfl
  have f15 := h2.froz 15
  have h3 := h2.put (M' := { M with fu := M.fu + 1, es := M.es + 1 }) 15 (.int .i64 (M.es + 1)) rfl rfl rfl rfl
  have hB3 : Below B w0 (w2.setCell ⟨m, 15, none⟩ (.int .i64 (M.es + 1))) := hB2.setCell (p := ⟨m, 15, none⟩) hbm _
  have hw3 : Below B w (w2.setCell ⟨m, 15, none⟩ (.int .i64 (M.es + 1))) := hw2.setCell (p := ⟨m, 15, none⟩) hbm _
  go_upto_region 3 with fail
  clear c15 f15
  generalize w2.setCell ⟨m, 15, none⟩ (.int .i64 (M.es + 1)) = w3 at *
  have hJ3 : JobR w3 M.j cs fs args := hJ.below (hB ▸ hB3)
  have hfl2 : fn < fs.length := (List.getElem?_eq_some_iff.1 hf).1
  have hpl : pc < f.code.length := (List.getElem?_eq_some_iff.1 hi).1
  obtain ⟨fb, off, ca, cc, ea, _, _, _, k3, hrc, _⟩ := hJ3.fun_at hfl2
  have efn : fs[fn] = f := (List.getElem?_eq_some_iff.1 hf).2
  rw [efn] at k3 hrc
  obtain ⟨cb, co, rfl, ki, kn⟩ := ins_cells hrc hi
  have c7 := h3.cell 7 _ rfl
  have c0 := h3.cell 0 _ rfl
  have c1 := h3.cell 1 _ rfl
  simp only [ea, hfn, hpc, hJ3.nf] at c7 c0 c1
  have hba := alloc_below w3 (.cells #[.int .i64 0, .int .i64 0] 40)
  have c7' := keep_cell c7 hba
  have c0' := keep_cell c0 hba
  have c1' := keep_cell c1 hba
  have k3' := keep_cell k3 hba
  have ki' := keep_cell ki hba
  have kn' := keep_cell kn hba
  have hfl3 : (fn : Int) < (fs.length : Int) := by omega
  have hpl3 : (pc : Int) < (f.code.length : Int) := by omega
  have H3 := hide h3
  have HW3 := hide hw3
  clear h h1 h2 h3 hw2 hw3 hJ3 hrc hB1 hB2 hB3 hJ hb hb1 hf hi efn
  go_big_region
  have hb4 : Below w3.heap.size w3 (w3.alloc (.cells #[.int .i64 15, .int .i64 n] 40)).drew := (alloc_below w3 _).drew
  have h4 := H3.out.below hb4
  have hw4 : Below B w (w3.alloc (.cells #[.int .i64 15, .int .i64 n] 40)).drew := HW3.out.trans (hb4.mono (by have := H3.out.lt; omega))
  have bx0 : (w3.alloc (.cells #[.int .i64 15, .int .i64 n] 40)).drew.cell? ⟨w3.heap.size, 0, none⟩ = some (.int .i64 15) := keep_cell (cell_row (cs := [.int .i64 15, .int .i64 n]) (i := 0) (heap_alloc_new w3 _) rfl) ((Below.refl _ _).drew)
  have bx1 : (w3.alloc (.cells #[.int .i64 15, .int .i64 n] 40)).drew.cell? ⟨w3.heap.size, 1, none⟩ = some (.int .i64 n) := keep_cell (cell_row (cs := [.int .i64 15, .int .i64 n]) (i := 1) (heap_alloc_new w3 _) rfl) ((Below.refl _ _).drew)
  clear c7 c0 c1 k3 ki kn c7' c0' c1' k3' ki' kn' H3 HW3 hba hfn
  have CZ := zero_Q h4 n pc hpc hpcl hsk
  generalize (w3.alloc (.cells #[.int .i64 15, .int .i64 n] 40)).drew = w4 at *
  clear h4 hb4 hpc hB
  go_wp2_with (go_at_call 86; go_must (with_reducible refine CZ.mono ?_; (rintro e w6 ⟨rfl, hz⟩)))
  go_end0
  obtain ⟨sv6, h6, hb6⟩ := hz
  exact ⟨rfl, sv6, h6, hw4.trans hb6⟩
set_option linter.unusedVariables false in
set_option linter.unusedSimpArgs false in
set_option maxRecDepth 100000 in
set_option maxHeartbeats 2000000 in
theorem step_fail {B : Bd} {w w0 : World} {m : Nat} {M : Mc} {sk lo ar : List Int} {x : Int} {cs : List Value} {fs : List Fun} {args : List Int} {deep : Int} (h : Mach B w m M (x :: sk).reverse lo ar) (hJ : JobR w0 M.j cs fs args) (hB : B = w0.heap.size) (hb : Below B w0 w) (fn pc : Nat) (f : Fun) (n : Int)
    (hfn : M.fn = (fn : Int)) (hpc : M.pc = (pc : Int)) (hf : fs[fn]? = some f) (hi : f.code[pc]? = some (19, n)) (hfu : M.fu < M.j.fuel) (hfl : -1000000 ≤ M.fu ∧ M.fu ≤ 1000000) (hes : -1000000 ≤ M.es ∧ M.es ≤ 1000000) (hpcl : pc ≤ 1000000) 
    (hsk : sk.length ≤ 10000) :
    Calls Tryz.prog 75 #[.pointer (some ⟨m, 0, none⟩), .int .i64 deep] w fun e w' => e = upF 25 x ∧ Mach B w' m { M with fu := M.fu + 1, es := M.es + 1 } (x :: sk).reverse lo ar ∧ Below B w w' := by
  have hlt := h.lt
  have hbm := h.bm
  have N1 := fun w => tneed_yes 21 w
  have c2 := h.cell 2 _ rfl
  have c10 := h.cell 10 _ rfl
  have hbs := hb.size
  go_enter Tryz.func75, Tryz.ntmps75
  go_wp2_with fail
  go_big_quiet (first | (go_at_call 53; with_reducible exact Calls.quiet_of_same (N1 _)))
  have hb1 : Below w.heap.size w (w.drewN nq) := below_drewN' (Below.refl _ _) nq
  have h1 := h.below hb1
  have hB1 : Below B w0 (w.drewN nq) := hb.trans (hb1.mono (by omega))
  generalize w.drewN nq = w1 at *
  clear c2 c10
  have c2 := h1.cell 2 _ rfl
  have f2 := h1.froz 2
  have h2 := h1.put (M' := { M with fu := M.fu + 1 }) 2 (.int .i64 (M.fu + 1)) rfl rfl rfl rfl
  have hB2 : Below B w0 (w1.setCell ⟨m, 2, none⟩ (.int .i64 (M.fu + 1))) := hB1.setCell (p := ⟨m, 2, none⟩) hbm _
  have hw2 : Below B w (w1.setCell ⟨m, 2, none⟩ (.int .i64 (M.fu + 1))) := (hb1.mono (by omega)).setCell (p := ⟨m, 2, none⟩) hbm _
  go_upto_region 2 with fail
  clear c2 f2
  generalize w1.setCell ⟨m, 2, none⟩ (.int .i64 (M.fu + 1)) = w2 at *
  have c15 := h2.cell 15 _ rfl
  have f15 := h2.froz 15
  have h3 := h2.put (M' := { M with fu := M.fu + 1, es := M.es + 1 }) 15 (.int .i64 (M.es + 1)) rfl rfl rfl rfl
  have hB3 : Below B w0 (w2.setCell ⟨m, 15, none⟩ (.int .i64 (M.es + 1))) := hB2.setCell (p := ⟨m, 15, none⟩) hbm _
  have hw3 : Below B w (w2.setCell ⟨m, 15, none⟩ (.int .i64 (M.es + 1))) := hw2.setCell (p := ⟨m, 15, none⟩) hbm _
  go_upto_region 3 with fail
  clear c15 f15
  generalize w2.setCell ⟨m, 15, none⟩ (.int .i64 (M.es + 1)) = w3 at *
  have hJ3 : JobR w3 M.j cs fs args := hJ.below (hB ▸ hB3)
  have hfl2 : fn < fs.length := (List.getElem?_eq_some_iff.1 hf).1
  have hpl : pc < f.code.length := (List.getElem?_eq_some_iff.1 hi).1
  obtain ⟨fb, off, ca, cc, ea, _, _, _, k3, hrc, _⟩ := hJ3.fun_at hfl2
  have efn : fs[fn] = f := (List.getElem?_eq_some_iff.1 hf).2
  rw [efn] at k3 hrc
  obtain ⟨cb, co, rfl, ki, kn⟩ := ins_cells hrc hi
  have c7 := h3.cell 7 _ rfl
  have c0 := h3.cell 0 _ rfl
  have c1 := h3.cell 1 _ rfl
  simp only [ea, hfn, hpc, hJ3.nf] at c7 c0 c1
  have hba := alloc_below w3 (.cells #[.int .i64 0, .int .i64 0] 40)
  have c7' := keep_cell c7 hba
  have c0' := keep_cell c0 hba
  have c1' := keep_cell c1 hba
  have k3' := keep_cell k3 hba
  have ki' := keep_cell ki hba
  have kn' := keep_cell kn hba
  have hfl3 : (fn : Int) < (fs.length : Int) := by omega
  have hpl3 : (pc : Int) < (f.code.length : Int) := by omega
  have H3 := hide h3
  have HW3 := hide hw3
  clear h h1 h2 h3 hw2 hw3 hJ3 hrc hB1 hB2 hB3 hJ hb hb1 hf hi efn
  go_big_region
  have hb4 : Below w3.heap.size w3 (w3.alloc (.cells #[.int .i64 19, .int .i64 n] 40)).drew := (alloc_below w3 _).drew
  have h4 := H3.out.below hb4
  have hw4 : Below B w (w3.alloc (.cells #[.int .i64 19, .int .i64 n] 40)).drew := HW3.out.trans (hb4.mono (by have := H3.out.lt; omega))
  have bx0 : (w3.alloc (.cells #[.int .i64 19, .int .i64 n] 40)).drew.cell? ⟨w3.heap.size, 0, none⟩ = some (.int .i64 19) := keep_cell (cell_row (cs := [.int .i64 19, .int .i64 n]) (i := 0) (heap_alloc_new w3 _) rfl) ((Below.refl _ _).drew)
  have bx1 : (w3.alloc (.cells #[.int .i64 19, .int .i64 n] 40)).drew.cell? ⟨w3.heap.size, 1, none⟩ = some (.int .i64 n) := keep_cell (cell_row (cs := [.int .i64 19, .int .i64 n]) (i := 1) (heap_alloc_new w3 _) rfl) ((Below.refl _ _).drew)
  clear c7 c0 c1 k3 ki kn c7' c0' c1' k3' ki' kn' H3 HW3 hba hfn
  have hL : Mach B (w3.alloc (.cells #[.int .i64 19, .int .i64 n] 40)).drew m { M with fu := M.fu + 1, es := M.es + 1 } (sk.reverse ++ [x]) lo ar := by simpa using h4
  have CL := last_any hL (by simp; omega)
  generalize (w3.alloc (.cells #[.int .i64 19, .int .i64 n] 40)).drew = w4 at *
  clear hb4 hL
  go_wp2_with (go_at_call 85; go_must (with_reducible refine CL.mono ?_; (rintro e w5 ⟨rfl, hw5⟩); subst hw5))
  exact ⟨rfl, rfl, h4, hw4⟩
end Go.Proofs.YtbpcibnomkfglaaGreatDoor
/- step: spawn,spawndeep,spawnkids. -/

namespace Go.Proofs.YtbpcibnomkfglaaGreatDoor
open Go.RowKit Go.ChangeShapes Go.WideShapes Go.ChangeAt Go.Deep

set_option linter.unusedVariables false in
set_option linter.unusedSimpArgs false in
set_option maxRecDepth 100000 in
set_option maxHeartbeats 2000000 in
theorem step_spawn {B : Bd} {w w0 : World} {m : Nat} {M : Mc} {sk lo ar : List Int} {cs : List Value} {fs : List Fun} {args : List Int} {deep : Int} (h : Mach B w m M sk.reverse lo ar) (hJ : JobR w0 M.j cs fs args) (hB : B = w0.heap.size) (hb : Below B w0 w) (fn pc : Nat) (f : Fun) (n0 : Nat)
    (hfn : M.fn = (fn : Int)) (hpc : M.pc = (pc : Int)) (hf : fs[fn]? = some f) (hi : f.code[pc]? = some (16, (n0 : Int))) (hfu : M.fu < M.j.fuel) (hfl : -1000000 ≤ M.fu ∧ M.fu ≤ 1000000) (hes : -1000000 ≤ M.es ∧ M.es ≤ 1000000) (hpcl : pc ≤ 1000000) 
    (g : Fun) (hg : fs[n0]? = some g) (k : Nat) (hk : g.args = (k : Int)) (hkl : k ≤ sk.length) (hsk : sk.length ≤ 10000) (hd : deep < 12) (hkd : 0 ≤ M.kd ∧ M.kd < 16) :
    Calls Tryz.prog 75 #[.pointer (some ⟨m, 0, none⟩), .int .i64 deep] w fun e w' => e = .returned (.tuple #[]) ∧ ∃ sv av, Mach B w' m { M with fu := M.fu + 1, es := M.es + 1, ek := 1, ef := (n0 : Int), ei := M.kd, av := av, sv := sv, kd := M.kd + 1, pc := (pc : Int) + 1 } (M.kd :: sk.drop k).reverse lo (sk.take k).reverse ∧ Below B w w' := by
  have HJ0 := hide hJ
  have HBW := hide hb
  have hlt := h.lt
  have hbm := h.bm
  have N1 := fun w => tneed_yes 21 w
  have c2 := h.cell 2 _ rfl
  have c10 := h.cell 10 _ rfl
  have hbs := hb.size
  go_enter Tryz.func75, Tryz.ntmps75
  go_wp2_with fail
  go_big_quiet (first | (go_at_call 53; with_reducible exact Calls.quiet_of_same (N1 _)))
  have hb1 : Below w.heap.size w (w.drewN nq) := below_drewN' (Below.refl _ _) nq
  have h1 := h.below hb1
  have hB1 : Below B w0 (w.drewN nq) := hb.trans (hb1.mono (by omega))
  generalize w.drewN nq = w1 at *
  clear c2 c10
  have c2 := h1.cell 2 _ rfl
  have f2 := h1.froz 2
  have h2 := h1.put (M' := { M with fu := M.fu + 1 }) 2 (.int .i64 (M.fu + 1)) rfl rfl rfl rfl
  have hB2 : Below B w0 (w1.setCell ⟨m, 2, none⟩ (.int .i64 (M.fu + 1))) := hB1.setCell (p := ⟨m, 2, none⟩) hbm _
  have hw2 : Below B w (w1.setCell ⟨m, 2, none⟩ (.int .i64 (M.fu + 1))) := (hb1.mono (by omega)).setCell (p := ⟨m, 2, none⟩) hbm _
  go_upto_region 2 with fail
  clear c2 f2
  generalize w1.setCell ⟨m, 2, none⟩ (.int .i64 (M.fu + 1)) = w2 at *
  have c15 := h2.cell 15 _ rfl
  have f15 := h2.froz 15
  have h3 := h2.put (M' := { M with fu := M.fu + 1, es := M.es + 1 }) 15 (.int .i64 (M.es + 1)) rfl rfl rfl rfl
  have hB3 : Below B w0 (w2.setCell ⟨m, 15, none⟩ (.int .i64 (M.es + 1))) := hB2.setCell (p := ⟨m, 15, none⟩) hbm _
  have hw3 : Below B w (w2.setCell ⟨m, 15, none⟩ (.int .i64 (M.es + 1))) := hw2.setCell (p := ⟨m, 15, none⟩) hbm _
  go_upto_region 3 with fail
  clear c15 f15
  generalize w2.setCell ⟨m, 15, none⟩ (.int .i64 (M.es + 1)) = w3 at *
  have hJ3 : JobR w3 M.j cs fs args := hJ.below (hB ▸ hB3)
  have hfl2 : fn < fs.length := (List.getElem?_eq_some_iff.1 hf).1
  have hpl : pc < f.code.length := (List.getElem?_eq_some_iff.1 hi).1
  obtain ⟨fb, off, ca, cc, ea, _, _, _, k3, hrc, _⟩ := hJ3.fun_at hfl2
  have efn : fs[fn] = f := (List.getElem?_eq_some_iff.1 hf).2
  rw [efn] at k3 hrc
  obtain ⟨cb, co, rfl, ki, kn⟩ := ins_cells hrc hi
  have c7 := h3.cell 7 _ rfl
  have c0 := h3.cell 0 _ rfl
  have c1 := h3.cell 1 _ rfl
  simp only [ea, hfn, hpc, hJ3.nf] at c7 c0 c1
  have hba := alloc_below w3 (.cells #[.int .i64 0, .int .i64 0] 40)
  have c7' := keep_cell c7 hba
  have c0' := keep_cell c0 hba
  have c1' := keep_cell c1 hba
  have k3' := keep_cell k3 hba
  have ki' := keep_cell ki hba
  have kn' := keep_cell kn hba
  have hfl3 : (fn : Int) < (fs.length : Int) := by omega
  have hpl3 : (pc : Int) < (f.code.length : Int) := by omega
  have H3 := hide h3
  have HW3 := hide hw3
  clear h h1 h2 h3 hw2 hw3 hJ3 hrc hB1 hB2 hB3 hJ hb hb1 hf hi efn
  go_big_region
  have hb4 : Below w3.heap.size w3 (w3.alloc (.cells #[.int .i64 16, .int .i64 (n0 : Int)] 40)).drew := (alloc_below w3 _).drew
  have h4 := H3.out.below hb4
  have hw4 : Below B w (w3.alloc (.cells #[.int .i64 16, .int .i64 (n0 : Int)] 40)).drew := HW3.out.trans (hb4.mono (by have := H3.out.lt; omega))
  have bx0 : (w3.alloc (.cells #[.int .i64 16, .int .i64 (n0 : Int)] 40)).drew.cell? ⟨w3.heap.size, 0, none⟩ = some (.int .i64 16) := keep_cell (cell_row (cs := [.int .i64 16, .int .i64 (n0 : Int)]) (i := 0) (heap_alloc_new w3 _) rfl) ((Below.refl _ _).drew)
  have bx1 : (w3.alloc (.cells #[.int .i64 16, .int .i64 (n0 : Int)] 40)).drew.cell? ⟨w3.heap.size, 1, none⟩ = some (.int .i64 (n0 : Int)) := keep_cell (cell_row (cs := [.int .i64 16, .int .i64 (n0 : Int)]) (i := 1) (heap_alloc_new w3 _) rfl) ((Below.refl _ _).drew)
  clear c7 c0 c1 k3 ki kn c7' c0' c1' k3' ki' kn' H3 HW3 hba hfn
  have CS := spawn_any (deep := deep) h4 n0 g hg k hk hkl hsk hd hkd pc hpc hpcl ⟨w0, hB, HBW.out.trans hw4, HJ0.out⟩
  generalize (w3.alloc (.cells #[.int .i64 16, .int .i64 (n0 : Int)] 40)).drew = w4 at *
  clear h4 hb4 hB hpc
  go_wp2_with (go_at_call 87; go_must (with_reducible refine CS.mono ?_; (rintro e w6 ⟨rfl, sv6, av6, h6, hb6⟩)))
  go_end0
  exact ⟨rfl, sv6, av6, h6, hw4.trans hb6⟩
set_option linter.unusedVariables false in
set_option linter.unusedSimpArgs false in
set_option maxRecDepth 100000 in
set_option maxHeartbeats 2000000 in
theorem step_spawn_deep {B : Bd} {w w0 : World} {m : Nat} {M : Mc} {sk lo ar : List Int} {cs : List Value} {fs : List Fun} {args : List Int} {deep : Int} (h : Mach B w m M sk.reverse lo ar) (hJ : JobR w0 M.j cs fs args) (hB : B = w0.heap.size) (hb : Below B w0 w) (fn pc : Nat) (f : Fun) (n : Int)
    (hfn : M.fn = (fn : Int)) (hpc : M.pc = (pc : Int)) (hf : fs[fn]? = some f) (hi : f.code[pc]? = some (16, n)) (hfu : M.fu < M.j.fuel) (hfl : -1000000 ≤ M.fu ∧ M.fu ≤ 1000000) (hes : -1000000 ≤ M.es ∧ M.es ≤ 1000000) (hpcl : pc ≤ 1000000) 
    (hd : ¬ deep < 12) :
    Calls Tryz.prog 75 #[.pointer (some ⟨m, 0, none⟩), .int .i64 deep] w fun e w' => e = upF 22 0 ∧ Mach B w' m { M with fu := M.fu + 1, es := M.es + 1 } sk.reverse lo ar ∧ Below B w w' := by
  have hlt := h.lt
  have hbm := h.bm
  have N1 := fun w => tneed_yes 21 w
  have c2 := h.cell 2 _ rfl
  have c10 := h.cell 10 _ rfl
  have hbs := hb.size
  go_enter Tryz.func75, Tryz.ntmps75
  go_wp2_with fail
  go_big_quiet (first | (go_at_call 53; with_reducible exact Calls.quiet_of_same (N1 _)))
  have hb1 : Below w.heap.size w (w.drewN nq) := below_drewN' (Below.refl _ _) nq
  have h1 := h.below hb1
  have hB1 : Below B w0 (w.drewN nq) := hb.trans (hb1.mono (by omega))
  generalize w.drewN nq = w1 at *
  clear c2 c10
  have c2 := h1.cell 2 _ rfl
  have f2 := h1.froz 2
  have h2 := h1.put (M' := { M with fu := M.fu + 1 }) 2 (.int .i64 (M.fu + 1)) rfl rfl rfl rfl
  have hB2 : Below B w0 (w1.setCell ⟨m, 2, none⟩ (.int .i64 (M.fu + 1))) := hB1.setCell (p := ⟨m, 2, none⟩) hbm _
  have hw2 : Below B w (w1.setCell ⟨m, 2, none⟩ (.int .i64 (M.fu + 1))) := (hb1.mono (by omega)).setCell (p := ⟨m, 2, none⟩) hbm _
  go_upto_region 2 with fail
  clear c2 f2
  generalize w1.setCell ⟨m, 2, none⟩ (.int .i64 (M.fu + 1)) = w2 at *
  have c15 := h2.cell 15 _ rfl
  have f15 := h2.froz 15
  have h3 := h2.put (M' := { M with fu := M.fu + 1, es := M.es + 1 }) 15 (.int .i64 (M.es + 1)) rfl rfl rfl rfl
  have hB3 : Below B w0 (w2.setCell ⟨m, 15, none⟩ (.int .i64 (M.es + 1))) := hB2.setCell (p := ⟨m, 15, none⟩) hbm _
  have hw3 : Below B w (w2.setCell ⟨m, 15, none⟩ (.int .i64 (M.es + 1))) := hw2.setCell (p := ⟨m, 15, none⟩) hbm _
  go_upto_region 3 with fail
  clear c15 f15
  generalize w2.setCell ⟨m, 15, none⟩ (.int .i64 (M.es + 1)) = w3 at *
  have hJ3 : JobR w3 M.j cs fs args := hJ.below (hB ▸ hB3)
  have hfl2 : fn < fs.length := (List.getElem?_eq_some_iff.1 hf).1
  have hpl : pc < f.code.length := (List.getElem?_eq_some_iff.1 hi).1
  obtain ⟨fb, off, ca, cc, ea, _, _, _, k3, hrc, _⟩ := hJ3.fun_at hfl2
  have efn : fs[fn] = f := (List.getElem?_eq_some_iff.1 hf).2
  rw [efn] at k3 hrc
  obtain ⟨cb, co, rfl, ki, kn⟩ := ins_cells hrc hi
  have c7 := h3.cell 7 _ rfl
  have c0 := h3.cell 0 _ rfl
  have c1 := h3.cell 1 _ rfl
  simp only [ea, hfn, hpc, hJ3.nf] at c7 c0 c1
  have hba := alloc_below w3 (.cells #[.int .i64 0, .int .i64 0] 40)
  have c7' := keep_cell c7 hba
  have c0' := keep_cell c0 hba
  have c1' := keep_cell c1 hba
  have k3' := keep_cell k3 hba
  have ki' := keep_cell ki hba
  have kn' := keep_cell kn hba
  have hfl3 : (fn : Int) < (fs.length : Int) := by omega
  have hpl3 : (pc : Int) < (f.code.length : Int) := by omega
  have H3 := hide h3
  have HW3 := hide hw3
  clear h h1 h2 h3 hw2 hw3 hJ3 hrc hB1 hB2 hB3 hJ hb hb1 hf hi efn
  go_big_region
  have hb4 : Below w3.heap.size w3 (w3.alloc (.cells #[.int .i64 16, .int .i64 n] 40)).drew := (alloc_below w3 _).drew
  have h4 := H3.out.below hb4
  have hw4 : Below B w (w3.alloc (.cells #[.int .i64 16, .int .i64 n] 40)).drew := HW3.out.trans (hb4.mono (by have := H3.out.lt; omega))
  have bx0 : (w3.alloc (.cells #[.int .i64 16, .int .i64 n] 40)).drew.cell? ⟨w3.heap.size, 0, none⟩ = some (.int .i64 16) := keep_cell (cell_row (cs := [.int .i64 16, .int .i64 n]) (i := 0) (heap_alloc_new w3 _) rfl) ((Below.refl _ _).drew)
  have bx1 : (w3.alloc (.cells #[.int .i64 16, .int .i64 n] 40)).drew.cell? ⟨w3.heap.size, 1, none⟩ = some (.int .i64 n) := keep_cell (cell_row (cs := [.int .i64 16, .int .i64 n]) (i := 1) (heap_alloc_new w3 _) rfl) ((Below.refl _ _).drew)
  clear c7 c0 c1 k3 ki kn c7' c0' c1' k3' ki' kn' H3 HW3 hba hfn
  have CS := spawn_deep h4 n deep (by omega)
  unfold upF failV at CS
  generalize (w3.alloc (.cells #[.int .i64 16, .int .i64 n] 40)).drew = w4 at *
  clear hb4
  go_wp2_with (go_at_call 87; go_must (with_reducible refine CS.mono ?_; (rintro e w6 ⟨rfl, h6, hb6⟩)))
  exact ⟨rfl, rfl, h6, hw4.trans hb6⟩
set_option linter.unusedVariables false in
set_option linter.unusedSimpArgs false in
set_option maxRecDepth 100000 in
set_option maxHeartbeats 2000000 in
theorem step_spawn_kids {B : Bd} {w w0 : World} {m : Nat} {M : Mc} {sk lo ar : List Int} {cs : List Value} {fs : List Fun} {args : List Int} {deep : Int} (h : Mach B w m M sk.reverse lo ar) (hJ : JobR w0 M.j cs fs args) (hB : B = w0.heap.size) (hb : Below B w0 w) (fn pc : Nat) (f : Fun) (n : Int)
    (hfn : M.fn = (fn : Int)) (hpc : M.pc = (pc : Int)) (hf : fs[fn]? = some f) (hi : f.code[pc]? = some (16, n)) (hfu : M.fu < M.j.fuel) (hfl : -1000000 ≤ M.fu ∧ M.fu ≤ 1000000) (hes : -1000000 ≤ M.es ∧ M.es ≤ 1000000) (hpcl : pc ≤ 1000000) 
    (hd : deep < 12) (hkd : ¬ M.kd < 16) :
    Calls Tryz.prog 75 #[.pointer (some ⟨m, 0, none⟩), .int .i64 deep] w fun e w' => e = upF 23 0 ∧ Mach B w' m { M with fu := M.fu + 1, es := M.es + 1 } sk.reverse lo ar ∧ Below B w w' := by
  have hlt := h.lt
  have hbm := h.bm
  have N1 := fun w => tneed_yes 21 w
  have c2 := h.cell 2 _ rfl
  have c10 := h.cell 10 _ rfl
  have hbs := hb.size
  go_enter Tryz.func75, Tryz.ntmps75
  go_wp2_with fail
  go_big_quiet (first | (go_at_call 53; with_reducible exact Calls.quiet_of_same (N1 _)))
  have hb1 : Below w.heap.size w (w.drewN nq) := below_drewN' (Below.refl _ _) nq
  have h1 := h.below hb1
  have hB1 : Below B w0 (w.drewN nq) := hb.trans (hb1.mono (by omega))
  generalize w.drewN nq = w1 at *
  clear c2 c10
  have c2 := h1.cell 2 _ rfl
  have f2 := h1.froz 2
  have h2 := h1.put (M' := { M with fu := M.fu + 1 }) 2 (.int .i64 (M.fu + 1)) rfl rfl rfl rfl
  have hB2 : Below B w0 (w1.setCell ⟨m, 2, none⟩ (.int .i64 (M.fu + 1))) := hB1.setCell (p := ⟨m, 2, none⟩) hbm _
  have hw2 : Below B w (w1.setCell ⟨m, 2, none⟩ (.int .i64 (M.fu + 1))) := (hb1.mono (by omega)).setCell (p := ⟨m, 2, none⟩) hbm _
  go_upto_region 2 with fail
  clear c2 f2
  generalize w1.setCell ⟨m, 2, none⟩ (.int .i64 (M.fu + 1)) = w2 at *
  have c15 := h2.cell 15 _ rfl
  have f15 := h2.froz 15
  have h3 := h2.put (M' := { M with fu := M.fu + 1, es := M.es + 1 }) 15 (.int .i64 (M.es + 1)) rfl rfl rfl rfl
  have hB3 : Below B w0 (w2.setCell ⟨m, 15, none⟩ (.int .i64 (M.es + 1))) := hB2.setCell (p := ⟨m, 15, none⟩) hbm _
  have hw3 : Below B w (w2.setCell ⟨m, 15, none⟩ (.int .i64 (M.es + 1))) := hw2.setCell (p := ⟨m, 15, none⟩) hbm _
  go_upto_region 3 with fail
  clear c15 f15
  generalize w2.setCell ⟨m, 15, none⟩ (.int .i64 (M.es + 1)) = w3 at *
  have hJ3 : JobR w3 M.j cs fs args := hJ.below (hB ▸ hB3)
  have hfl2 : fn < fs.length := (List.getElem?_eq_some_iff.1 hf).1
  have hpl : pc < f.code.length := (List.getElem?_eq_some_iff.1 hi).1
  obtain ⟨fb, off, ca, cc, ea, _, _, _, k3, hrc, _⟩ := hJ3.fun_at hfl2
  have efn : fs[fn] = f := (List.getElem?_eq_some_iff.1 hf).2
  rw [efn] at k3 hrc
  obtain ⟨cb, co, rfl, ki, kn⟩ := ins_cells hrc hi
  have c7 := h3.cell 7 _ rfl
  have c0 := h3.cell 0 _ rfl
  have c1 := h3.cell 1 _ rfl
  simp only [ea, hfn, hpc, hJ3.nf] at c7 c0 c1
  have hba := alloc_below w3 (.cells #[.int .i64 0, .int .i64 0] 40)
  have c7' := keep_cell c7 hba
  have c0' := keep_cell c0 hba
  have c1' := keep_cell c1 hba
  have k3' := keep_cell k3 hba
  have ki' := keep_cell ki hba
  have kn' := keep_cell kn hba
  have hfl3 : (fn : Int) < (fs.length : Int) := by omega
  have hpl3 : (pc : Int) < (f.code.length : Int) := by omega
  have H3 := hide h3
  have HW3 := hide hw3
  clear h h1 h2 h3 hw2 hw3 hJ3 hrc hB1 hB2 hB3 hJ hb hb1 hf hi efn
  go_big_region
  have hb4 : Below w3.heap.size w3 (w3.alloc (.cells #[.int .i64 16, .int .i64 n] 40)).drew := (alloc_below w3 _).drew
  have h4 := H3.out.below hb4
  have hw4 : Below B w (w3.alloc (.cells #[.int .i64 16, .int .i64 n] 40)).drew := HW3.out.trans (hb4.mono (by have := H3.out.lt; omega))
  have bx0 : (w3.alloc (.cells #[.int .i64 16, .int .i64 n] 40)).drew.cell? ⟨w3.heap.size, 0, none⟩ = some (.int .i64 16) := keep_cell (cell_row (cs := [.int .i64 16, .int .i64 n]) (i := 0) (heap_alloc_new w3 _) rfl) ((Below.refl _ _).drew)
  have bx1 : (w3.alloc (.cells #[.int .i64 16, .int .i64 n] 40)).drew.cell? ⟨w3.heap.size, 1, none⟩ = some (.int .i64 n) := keep_cell (cell_row (cs := [.int .i64 16, .int .i64 n]) (i := 1) (heap_alloc_new w3 _) rfl) ((Below.refl _ _).drew)
  clear c7 c0 c1 k3 ki kn c7' c0' c1' k3' ki' kn' H3 HW3 hba hfn
  have CS := spawn_kids h4 n deep hd (by show ¬ M.kd < 16; omega)
  unfold upF failV at CS
  generalize (w3.alloc (.cells #[.int .i64 16, .int .i64 n] 40)).drew = w4 at *
  clear hb4
  go_wp2_with (go_at_call 87; go_must (with_reducible refine CS.mono ?_; (rintro e w6 ⟨rfl, h6, hb6⟩)))
  exact ⟨rfl, rfl, h6, hw4.trans hb6⟩
end Go.Proofs.YtbpcibnomkfglaaGreatDoor
/- step: plainno,plainlo,fuel. -/

namespace Go.Proofs.YtbpcibnomkfglaaGreatDoor
open Go.RowKit Go.ChangeShapes Go.WideShapes Go.ChangeAt Go.Deep

set_option linter.unusedVariables false in
set_option linter.unusedSimpArgs false in
set_option maxRecDepth 100000 in
set_option maxHeartbeats 2000000 in
theorem step_plain_no {B : Bd} {w w0 : World} {m : Nat} {M : Mc} {sk lo ar : List Int} {cs : List Value} {fs : List Fun} {args : List Int} {deep : Int} (h : Mach B w m M sk.reverse lo ar) (hJ : JobR w0 M.j cs fs args) (hB : B = w0.heap.size) (hb : Below B w0 w) (fn pc : Nat) (f : Fun) (op n : Int)
    (hfn : M.fn = (fn : Int)) (hpc : M.pc = (pc : Int)) (hf : fs[fn]? = some f) (hi : f.code[pc]? = some (op, n)) (hfu : M.fu < M.j.fuel) (hfl : -1000000 ≤ M.fu ∧ M.fu ≤ 1000000) (hes : -1000000 ≤ M.es ∧ M.es ≤ 1000000) (hpcl : pc ≤ 1000000) 
    (hop : ¬ (14 ≤ op ∧ op ≤ 19))
    (CP : ∀ W, Mach B W m { M with fu := M.fu + 1, es := M.es + 1 } sk.reverse lo ar → Calls Tryz.prog 88 #[.pointer (some ⟨m, 0, none⟩), .agg #[.int .i64 op, .int .i64 n]] W fun e w' => e = upF 20 0 ∧ Mach B w' m { M with fu := M.fu + 1, es := M.es + 1 } sk.reverse lo ar ∧ Below B W w') :
    Calls Tryz.prog 75 #[.pointer (some ⟨m, 0, none⟩), .int .i64 deep] w fun e w' => e = upF 20 0 ∧ Mach B w' m { M with fu := M.fu + 1, es := M.es + 1 } sk.reverse lo ar ∧ Below B w w' := by
  have hlt := h.lt
  have hbm := h.bm
  have N1 := fun w => tneed_yes 21 w
  have c2 := h.cell 2 _ rfl
  have c10 := h.cell 10 _ rfl
  have hbs := hb.size
  go_enter Tryz.func75, Tryz.ntmps75
  go_wp2_with fail
  go_big_quiet (first | (go_at_call 53; with_reducible exact Calls.quiet_of_same (N1 _)))
  have hb1 : Below w.heap.size w (w.drewN nq) := below_drewN' (Below.refl _ _) nq
  have h1 := h.below hb1
  have hB1 : Below B w0 (w.drewN nq) := hb.trans (hb1.mono (by omega))
  generalize w.drewN nq = w1 at *
  clear c2 c10
  have c2 := h1.cell 2 _ rfl
  have f2 := h1.froz 2
  have h2 := h1.put (M' := { M with fu := M.fu + 1 }) 2 (.int .i64 (M.fu + 1)) rfl rfl rfl rfl
  have hB2 : Below B w0 (w1.setCell ⟨m, 2, none⟩ (.int .i64 (M.fu + 1))) := hB1.setCell (p := ⟨m, 2, none⟩) hbm _
  have hw2 : Below B w (w1.setCell ⟨m, 2, none⟩ (.int .i64 (M.fu + 1))) := (hb1.mono (by omega)).setCell (p := ⟨m, 2, none⟩) hbm _
  go_upto_region 2 with fail
  clear c2 f2
  generalize w1.setCell ⟨m, 2, none⟩ (.int .i64 (M.fu + 1)) = w2 at *
  have c15 := h2.cell 15 _ rfl
  have f15 := h2.froz 15
  have h3 := h2.put (M' := { M with fu := M.fu + 1, es := M.es + 1 }) 15 (.int .i64 (M.es + 1)) rfl rfl rfl rfl
  have hB3 : Below B w0 (w2.setCell ⟨m, 15, none⟩ (.int .i64 (M.es + 1))) := hB2.setCell (p := ⟨m, 15, none⟩) hbm _
  have hw3 : Below B w (w2.setCell ⟨m, 15, none⟩ (.int .i64 (M.es + 1))) := hw2.setCell (p := ⟨m, 15, none⟩) hbm _
  go_upto_region 3 with fail
  clear c15 f15
  generalize w2.setCell ⟨m, 15, none⟩ (.int .i64 (M.es + 1)) = w3 at *
  have hJ3 : JobR w3 M.j cs fs args := hJ.below (hB ▸ hB3)
  have hfl2 : fn < fs.length := (List.getElem?_eq_some_iff.1 hf).1
  have hpl : pc < f.code.length := (List.getElem?_eq_some_iff.1 hi).1
  obtain ⟨fb, off, ca, cc, ea, _, _, _, k3, hrc, _⟩ := hJ3.fun_at hfl2
  have efn : fs[fn] = f := (List.getElem?_eq_some_iff.1 hf).2
  rw [efn] at k3 hrc
  obtain ⟨cb, co, rfl, ki, kn⟩ := ins_cells hrc hi
  have c7 := h3.cell 7 _ rfl
  have c0 := h3.cell 0 _ rfl
  have c1 := h3.cell 1 _ rfl
  simp only [ea, hfn, hpc, hJ3.nf] at c7 c0 c1
  have hba := alloc_below w3 (.cells #[.int .i64 0, .int .i64 0] 40)
  have c7' := keep_cell c7 hba
  have c0' := keep_cell c0 hba
  have c1' := keep_cell c1 hba
  have k3' := keep_cell k3 hba
  have ki' := keep_cell ki hba
  have kn' := keep_cell kn hba
  have hfl3 : (fn : Int) < (fs.length : Int) := by omega
  have hpl3 : (pc : Int) < (f.code.length : Int) := by omega
  have H3 := hide h3
  have HW3 := hide hw3
  have HCP := hide CP
  clear h h1 h2 h3 hw2 hw3 hJ3 hrc CP hB1 hB2 hB3 hJ hb hb1 hf hi efn
  go_big_region
  have hb4 : Below w3.heap.size w3 (w3.alloc (.cells #[.int .i64 op, .int .i64 n] 40)).drew := (alloc_below w3 _).drew
  have h4 := H3.out.below hb4
  have hw4 : Below B w (w3.alloc (.cells #[.int .i64 op, .int .i64 n] 40)).drew := HW3.out.trans (hb4.mono (by have := H3.out.lt; omega))
  have C := HCP.out _ h4
  have g14 : (op == 14) = false := by rw [beq_eq_false_iff_ne]; omega
  have g15 : (op == 15) = false := by rw [beq_eq_false_iff_ne]; omega
  have g16 : (op == 16) = false := by rw [beq_eq_false_iff_ne]; omega
  have g17 : (op == 17) = false := by rw [beq_eq_false_iff_ne]; omega
  have g18 : (op == 18) = false := by rw [beq_eq_false_iff_ne]; omega
  have g19 : (op == 19) = false := by rw [beq_eq_false_iff_ne]; omega
  clear c7 c0 c1 k3 ki kn c7' c0' c1' k3' ki' kn' H3 HW3 HCP h4 hb4 hba
  unfold upF failV at C
  go_wp2_with (go_at_call 88; go_must (with_reducible refine C.mono ?_; (rintro e w5 ⟨rfl, h5, hb5⟩)))
  exact ⟨rfl, rfl, h5, hw4.trans hb5⟩
set_option linter.unusedVariables false in
set_option linter.unusedSimpArgs false in
set_option maxRecDepth 100000 in
set_option maxHeartbeats 2000000 in
theorem step_plain_lo {B : Bd} {w w0 : World} {m : Nat} {M : Mc} {sk sk' lo lo' ar : List Int} {cs : List Value} {fs : List Fun} {args : List Int} {deep : Int} (h : Mach B w m M sk.reverse lo ar) (hJ : JobR w0 M.j cs fs args) (hB : B = w0.heap.size) (hb : Below B w0 w) (fn pc : Nat) (f : Fun) (op n : Int)
    (hfn : M.fn = (fn : Int)) (hpc : M.pc = (pc : Int)) (hf : fs[fn]? = some f) (hi : f.code[pc]? = some (op, n)) (hfu : M.fu < M.j.fuel) (hfl : -1000000 ≤ M.fu ∧ M.fu ≤ 1000000) (hes : -1000000 ≤ M.es ∧ M.es ≤ 1000000) (hpcl : pc ≤ 1000000) 
    (hop : ¬ (14 ≤ op ∧ op ≤ 19))
    (CP : ∀ W, Mach B W m { M with fu := M.fu + 1, es := M.es + 1 } sk.reverse lo ar → Calls Tryz.prog 88 #[.pointer (some ⟨m, 0, none⟩), .agg #[.int .i64 op, .int .i64 n]] W fun e w' => e = .returned (.tuple #[]) ∧ ∃ sv, Mach B w' m { M with fu := M.fu + 1, es := M.es + 1, sv := sv } sk'.reverse lo' ar ∧ Below B W w') :
    Calls Tryz.prog 75 #[.pointer (some ⟨m, 0, none⟩), .int .i64 deep] w fun e w' => e = .returned (.tuple #[]) ∧ ∃ sv, Mach B w' m { M with fu := M.fu + 1, es := M.es + 1, sv := sv, pc := (pc : Int) + 1 } sk'.reverse lo' ar ∧ Below B w w' := by
  have hlt := h.lt
  have hbm := h.bm
  have N1 := fun w => tneed_yes 21 w
  have c2 := h.cell 2 _ rfl
  have c10 := h.cell 10 _ rfl
  have hbs := hb.size
  go_enter Tryz.func75, Tryz.ntmps75
  go_wp2_with fail
  go_big_quiet (first | (go_at_call 53; with_reducible exact Calls.quiet_of_same (N1 _)))
  have hb1 : Below w.heap.size w (w.drewN nq) := below_drewN' (Below.refl _ _) nq
  have h1 := h.below hb1
  have hB1 : Below B w0 (w.drewN nq) := hb.trans (hb1.mono (by omega))
  generalize w.drewN nq = w1 at *
  clear c2 c10
  have c2 := h1.cell 2 _ rfl
  have f2 := h1.froz 2
  have h2 := h1.put (M' := { M with fu := M.fu + 1 }) 2 (.int .i64 (M.fu + 1)) rfl rfl rfl rfl
  have hB2 : Below B w0 (w1.setCell ⟨m, 2, none⟩ (.int .i64 (M.fu + 1))) := hB1.setCell (p := ⟨m, 2, none⟩) hbm _
  have hw2 : Below B w (w1.setCell ⟨m, 2, none⟩ (.int .i64 (M.fu + 1))) := (hb1.mono (by omega)).setCell (p := ⟨m, 2, none⟩) hbm _
  go_upto_region 2 with fail
  clear c2 f2
  generalize w1.setCell ⟨m, 2, none⟩ (.int .i64 (M.fu + 1)) = w2 at *
  have c15 := h2.cell 15 _ rfl
  have f15 := h2.froz 15
  have h3 := h2.put (M' := { M with fu := M.fu + 1, es := M.es + 1 }) 15 (.int .i64 (M.es + 1)) rfl rfl rfl rfl
  have hB3 : Below B w0 (w2.setCell ⟨m, 15, none⟩ (.int .i64 (M.es + 1))) := hB2.setCell (p := ⟨m, 15, none⟩) hbm _
  have hw3 : Below B w (w2.setCell ⟨m, 15, none⟩ (.int .i64 (M.es + 1))) := hw2.setCell (p := ⟨m, 15, none⟩) hbm _
  go_upto_region 3 with fail
  clear c15 f15
  generalize w2.setCell ⟨m, 15, none⟩ (.int .i64 (M.es + 1)) = w3 at *
  have hJ3 : JobR w3 M.j cs fs args := hJ.below (hB ▸ hB3)
  have hfl2 : fn < fs.length := (List.getElem?_eq_some_iff.1 hf).1
  have hpl : pc < f.code.length := (List.getElem?_eq_some_iff.1 hi).1
  obtain ⟨fb, off, ca, cc, ea, _, _, _, k3, hrc, _⟩ := hJ3.fun_at hfl2
  have efn : fs[fn] = f := (List.getElem?_eq_some_iff.1 hf).2
  rw [efn] at k3 hrc
  obtain ⟨cb, co, rfl, ki, kn⟩ := ins_cells hrc hi
  have c7 := h3.cell 7 _ rfl
  have c0 := h3.cell 0 _ rfl
  have c1 := h3.cell 1 _ rfl
  simp only [ea, hfn, hpc, hJ3.nf] at c7 c0 c1
  have hba := alloc_below w3 (.cells #[.int .i64 0, .int .i64 0] 40)
  have c7' := keep_cell c7 hba
  have c0' := keep_cell c0 hba
  have c1' := keep_cell c1 hba
  have k3' := keep_cell k3 hba
  have ki' := keep_cell ki hba
  have kn' := keep_cell kn hba
  have hfl3 : (fn : Int) < (fs.length : Int) := by omega
  have hpl3 : (pc : Int) < (f.code.length : Int) := by omega
  have H3 := hide h3
  have HW3 := hide hw3
  have HCP := hide CP
  clear h h1 h2 h3 hw2 hw3 hJ3 hrc CP hB1 hB2 hB3 hJ hb hb1 hf hi efn
  go_big_region
  have hb4 : Below w3.heap.size w3 (w3.alloc (.cells #[.int .i64 op, .int .i64 n] 40)).drew := (alloc_below w3 _).drew
  have h4 := H3.out.below hb4
  have hw4 : Below B w (w3.alloc (.cells #[.int .i64 op, .int .i64 n] 40)).drew := HW3.out.trans (hb4.mono (by have := H3.out.lt; omega))
  have C := HCP.out _ h4
  have g14 : (op == 14) = false := by rw [beq_eq_false_iff_ne]; omega
  have g15 : (op == 15) = false := by rw [beq_eq_false_iff_ne]; omega
  have g16 : (op == 16) = false := by rw [beq_eq_false_iff_ne]; omega
  have g17 : (op == 17) = false := by rw [beq_eq_false_iff_ne]; omega
  have g18 : (op == 18) = false := by rw [beq_eq_false_iff_ne]; omega
  have g19 : (op == 19) = false := by rw [beq_eq_false_iff_ne]; omega
  clear c7 c0 c1 k3 ki kn c7' c0' c1' k3' ki' kn' H3 HW3 HCP h4 hb4 hba
  go_wp2_with (go_at_call 88; go_must (with_reducible refine C.mono ?_; (rintro e w5 ⟨rfl, sv5, h5, hb5⟩); refine Hid.out ?_))
  refine Lib.hid ?_
  have c1 := h5.cell 1 _ rfl
  simp only [hpc] at c1
  have f1 := h5.froz 1
  have h6 := h5.put (M' := { M with fu := M.fu + 1, es := M.es + 1, sv := sv5, pc := (pc : Int) + 1 }) 1 (.int .i64 ((pc : Int) + 1)) rfl rfl rfl rfl
  have HB6 := hide (show Below B w (w5.setCell ⟨m, 1, none⟩ (.int .i64 ((pc : Int) + 1))) from (hw4.trans hb5).setCell (p := ⟨m, 1, none⟩) hbm _)
  have H6 := hide h6
  clear h5 h6 C
  go_wp2_with fail
  go_end0
  exact ⟨rfl, sv5, H6.out, HB6.out⟩
set_option linter.unusedVariables false in
set_option linter.unusedSimpArgs false in
set_option maxRecDepth 100000 in
set_option maxHeartbeats 2000000 in
theorem step_fuel {B : Bd} {w : World} {m : Nat} {M : Mc} {sk lo ar : List Int} {deep : Int} (h : Mach B w m M sk.reverse lo ar)
    (hnf : ¬ M.fu < M.j.fuel) :
    Calls Tryz.prog 75 #[.pointer (some ⟨m, 0, none⟩), .int .i64 deep] w fun e w' => e = upF 21 0 ∧ Mach B w' m M sk.reverse lo ar ∧ Below B w w' := by
  have hlt := h.lt
  have hbm := h.bm
  have N1 := fun w => tneed_no 21 w
  unfold upF failV at N1
  have c2 := h.cell 2 _ rfl
  have c10 := h.cell 10 _ rfl
  have hd : decide (M.fu < M.j.fuel) = false := by simpa using hnf
  have c2d : w.drew.cell? ⟨m, 2, none⟩ = some (.int .i64 M.fu) := c2
  have c10d : w.drew.cell? ⟨m, 10, none⟩ = some (.int .i64 M.j.fuel) := c10
  have HF := hide (show Mach B w.drew m M sk.reverse lo ar ∧ Below B w w.drew from ⟨h.below ((Below.refl _ _).drew), (Below.refl _ _).drew⟩)
  clear hnf
  go_enter Tryz.func75, Tryz.ntmps75
  go_wp2_with fail
  refine wp_region_held_drew (S := fun _ => True) (by kernel_rfl) trivial (fun _ => ?_)
  refine takeD (i := 0) (d := some 5) (v := ?_) rfl rfl (by kernel_rfl) (by kernel_rfl) (by kernel_rfl) (fun _ _ _ h => h) (Or.inl ⟨by rfl, ?_⟩) trivial ?_
  rotate_left
  · intro w hSw
    go_simp
    try (with_reducible rfl)
  try simp only [Act.put, List.setIfInBounds_toArray, List.set_cons_zero, List.set_cons_succ]
  refine takeD (i := 1) (d := some 6) (v := ?_) rfl rfl (by kernel_rfl) (by kernel_rfl) (by kernel_rfl) (fun _ _ _ h => h) (Or.inl ⟨by rfl, ?_⟩) trivial ?_
  rotate_left
  · intro w hSw
    go_simp
    try (with_reducible rfl)
  try simp only [Act.put, List.setIfInBounds_toArray, List.set_cons_zero, List.set_cons_succ]
  refine takeD (i := 2) (d := some 7) (v := ?_) rfl rfl (by kernel_rfl) (by kernel_rfl) (by kernel_rfl) (fun _ _ _ h => h) (Or.inl ⟨by rfl, ?_⟩) trivial ?_
  rotate_left
  · intro w hSw
    go_simp
    try (with_reducible rfl)
  try simp only [Act.put, List.setIfInBounds_toArray, List.set_cons_zero, List.set_cons_succ]
  refine takeD (i := 3) (d := some 8) (v := ?_) rfl rfl (by kernel_rfl) (by kernel_rfl) (by kernel_rfl) (fun _ _ _ h => h) (Or.inl ⟨by rfl, ?_⟩) trivial ?_
  rotate_left
  · intro w hSw
    go_simp
    try (with_reducible rfl)
  try simp only [Act.put, List.setIfInBounds_toArray, List.set_cons_zero, List.set_cons_succ]
  refine takeD (i := 4) (d := some 9) (v := ?_) rfl rfl (by kernel_rfl) (by kernel_rfl) (by kernel_rfl) (fun _ _ _ h => h) (Or.inl ⟨by rfl, ?_⟩) trivial ?_
  rotate_left
  · intro w hSw
    go_simp
    try (with_reducible rfl)
  try simp only [Act.put, List.setIfInBounds_toArray, List.set_cons_zero, List.set_cons_succ]
  refine takeD (i := 6) (d := some 11) (v := ?_) rfl rfl (by kernel_rfl) (by kernel_rfl) (by kernel_rfl) (fun _ _ _ h => h) (Or.inl ⟨by rfl, ?_⟩) trivial ?_
  rotate_left
  · intro w hSw
    go_simp
    try (with_reducible rfl)
  try simp only [Act.put, List.setIfInBounds_toArray, List.set_cons_zero, List.set_cons_succ]
  refine takeD (i := 7) (d := some 12) (v := ?_) rfl rfl (by kernel_rfl) (by kernel_rfl) (by kernel_rfl) (fun _ _ _ h => h) (Or.inl ⟨by rfl, ?_⟩) trivial ?_
  rotate_left
  · intro w hSw
    go_simp
    try (with_reducible rfl)
  try simp only [Act.put, List.setIfInBounds_toArray, List.set_cons_zero, List.set_cons_succ]
  refine takeD (i := 8) (d := some 13) (v := ?_) rfl rfl (by kernel_rfl) (by kernel_rfl) (by kernel_rfl) (fun _ _ _ h => h) (Or.inl ⟨by rfl, ?_⟩) trivial ?_
  rotate_left
  · intro w hSw
    go_simp
    try (with_reducible rfl)
  try simp only [Act.put, List.setIfInBounds_toArray, List.set_cons_zero, List.set_cons_succ]
  refine takeD (i := 9) (d := some 14) (v := ?_) rfl rfl (by kernel_rfl) (by kernel_rfl) (by kernel_rfl) (fun _ _ _ h => h) (Or.inl ⟨by rfl, ?_⟩) trivial ?_
  rotate_left
  · intro w hSw
    go_simp
    try (with_reducible rfl)
  try simp only [Act.put, List.setIfInBounds_toArray, List.set_cons_zero, List.set_cons_succ]
  refine wpAnyH_ready (rs := [5, 10]) (by kernel_rfl) (by simp) ?_
  refine AllReadyH.cons rfl (fun K hK => ?_) (AllReadyH.cons rfl (fun K hK => ?_) AllReadyH.nil)
  · go_simp
    go_wp2_with fail
    refine hK.out _ _ trivial (fun _ => ?_)
    clear hK K
    try simp only [Act.put, List.setIfInBounds_toArray, List.set_cons_zero, List.set_cons_succ]
    refine wpAnyH_ready (rs := [10]) (by kernel_rfl) (by simp) ?_
    refine AllReadyH.cons rfl (fun K hK => ?_) AllReadyH.nil
    go_simp
    go_wp2_with fail
    refine hK.out _ _ trivial (fun _ => ?_)
    clear hK K
    try simp only [Act.put, List.setIfInBounds_toArray, List.set_cons_zero, List.set_cons_succ]
    refine takeD (i := 11) (d := some 16) (v := ?_) rfl rfl (by kernel_rfl) (by kernel_rfl) (by kernel_rfl) (fun _ _ _ h => h) (Or.inl ⟨by rfl, ?_⟩) trivial ?_
    rotate_left
    · intro w hSw
      go_simp
      try (with_reducible rfl)
    try simp only [Act.put, List.setIfInBounds_toArray, List.set_cons_zero, List.set_cons_succ]
    refine wpAnyH_ready (rs := [12]) (by kernel_rfl) (by simp) ?_
    refine AllReadyH.cons rfl (fun K hK => ?_) AllReadyH.nil
    go_simp
    go_at_call 53
    with_reducible refine (N1 _).mono ?_
    (rintro e w1 ⟨rfl, hw1⟩)
    subst hw1
    exact ⟨rfl, rfl, HF.out.1, HF.out.2⟩
  · go_simp
    go_wp2_with fail
    refine hK.out _ _ trivial (fun _ => ?_)
    clear hK K
    try simp only [Act.put, List.setIfInBounds_toArray, List.set_cons_zero, List.set_cons_succ]
    refine wpAnyH_ready (rs := [5]) (by kernel_rfl) (by simp) ?_
    refine AllReadyH.cons rfl (fun K hK => ?_) AllReadyH.nil
    go_simp
    go_wp2_with fail
    refine hK.out _ _ trivial (fun _ => ?_)
    clear hK K
    try simp only [Act.put, List.setIfInBounds_toArray, List.set_cons_zero, List.set_cons_succ]
    refine takeD (i := 11) (d := some 16) (v := ?_) rfl rfl (by kernel_rfl) (by kernel_rfl) (by kernel_rfl) (fun _ _ _ h => h) (Or.inl ⟨by rfl, ?_⟩) trivial ?_
    rotate_left
    · intro w hSw
      go_simp
      try (with_reducible rfl)
    try simp only [Act.put, List.setIfInBounds_toArray, List.set_cons_zero, List.set_cons_succ]
    refine wpAnyH_ready (rs := [12]) (by kernel_rfl) (by simp) ?_
    refine AllReadyH.cons rfl (fun K hK => ?_) AllReadyH.nil
    go_simp
    go_at_call 53
    with_reducible refine (N1 _).mono ?_
    (rintro e w1 ⟨rfl, hw1⟩)
    subst hw1
    exact ⟨rfl, rfl, HF.out.1, HF.out.2⟩
end Go.Proofs.YtbpcibnomkfglaaGreatDoor
/- step: awaityes,awaitno. -/

namespace Go.Proofs.YtbpcibnomkfglaaGreatDoor
open Go.RowKit Go.ChangeShapes Go.WideShapes Go.ChangeAt Go.Deep

set_option linter.unusedVariables false in
set_option linter.unusedSimpArgs false in
set_option maxRecDepth 100000 in
set_option maxHeartbeats 2000000 in
theorem step_await_yes {B : Bd} {w w0 : World} {m : Nat} {M : Mc} {sk lo ar : List Int} {x : Int} {cs : List Value} {fs : List Fun} {args : List Int} {deep : Int} (h : Mach B w m M (x :: sk).reverse lo ar) (hJ : JobR w0 M.j cs fs args) (hB : B = w0.heap.size) (hb : Below B w0 w) (fn pc : Nat) (f : Fun) (n : Int)
    (hfn : M.fn = (fn : Int)) (hpc : M.pc = (pc : Int)) (hf : fs[fn]? = some f) (hi : f.code[pc]? = some (17, n)) (hfu : M.fu < M.j.fuel) (hfl : -1000000 ≤ M.fu ∧ M.fu ≤ 1000000) (hes : -1000000 ≤ M.es ∧ M.es ≤ 1000000) (hpcl : pc ≤ 1000000) 
    (hsk : sk.length ≤ 10000) (hkd : 0 ≤ M.kd ∧ M.kd ≤ 16) (hh : hasB M.kd x = true) :
    Calls Tryz.prog 75 #[.pointer (some ⟨m, 0, none⟩), .int .i64 deep] w fun e w' => e = .returned (.tuple #[]) ∧ Mach B w' m { M with fu := M.fu + 1, es := M.es + 1, wt := true, ek := 2, ei := x } (x :: sk).reverse lo ar ∧ Below B w w' := by
  have hlt := h.lt
  have hbm := h.bm
  have N1 := fun w => tneed_yes 21 w
  have c2 := h.cell 2 _ rfl
  have c10 := h.cell 10 _ rfl
  have hbs := hb.size
  go_enter Tryz.func75, Tryz.ntmps75
  go_wp2_with fail
  go_big_quiet (first | (go_at_call 53; with_reducible exact Calls.quiet_of_same (N1 _)))
  have hb1 : Below w.heap.size w (w.drewN nq) := below_drewN' (Below.refl _ _) nq
  have h1 := h.below hb1
  have hB1 : Below B w0 (w.drewN nq) := hb.trans (hb1.mono (by omega))
  generalize w.drewN nq = w1 at *
  clear c2 c10
  have c2 := h1.cell 2 _ rfl
  have f2 := h1.froz 2
  have h2 := h1.put (M' := { M with fu := M.fu + 1 }) 2 (.int .i64 (M.fu + 1)) rfl rfl rfl rfl
  have hB2 : Below B w0 (w1.setCell ⟨m, 2, none⟩ (.int .i64 (M.fu + 1))) := hB1.setCell (p := ⟨m, 2, none⟩) hbm _
  have hw2 : Below B w (w1.setCell ⟨m, 2, none⟩ (.int .i64 (M.fu + 1))) := (hb1.mono (by omega)).setCell (p := ⟨m, 2, none⟩) hbm _
  go_upto_region 2 with fail
  clear c2 f2
  generalize w1.setCell ⟨m, 2, none⟩ (.int .i64 (M.fu + 1)) = w2 at *
  have c15 := h2.cell 15 _ rfl
  have f15 := h2.froz 15
  have h3 := h2.put (M' := { M with fu := M.fu + 1, es := M.es + 1 }) 15 (.int .i64 (M.es + 1)) rfl rfl rfl rfl
  have hB3 : Below B w0 (w2.setCell ⟨m, 15, none⟩ (.int .i64 (M.es + 1))) := hB2.setCell (p := ⟨m, 15, none⟩) hbm _
  have hw3 : Below B w (w2.setCell ⟨m, 15, none⟩ (.int .i64 (M.es + 1))) := hw2.setCell (p := ⟨m, 15, none⟩) hbm _
  go_upto_region 3 with fail
  clear c15 f15
  generalize w2.setCell ⟨m, 15, none⟩ (.int .i64 (M.es + 1)) = w3 at *
  have hJ3 : JobR w3 M.j cs fs args := hJ.below (hB ▸ hB3)
  have hfl2 : fn < fs.length := (List.getElem?_eq_some_iff.1 hf).1
  have hpl : pc < f.code.length := (List.getElem?_eq_some_iff.1 hi).1
  obtain ⟨fb, off, ca, cc, ea, _, _, _, k3, hrc, _⟩ := hJ3.fun_at hfl2
  have efn : fs[fn] = f := (List.getElem?_eq_some_iff.1 hf).2
  rw [efn] at k3 hrc
  obtain ⟨cb, co, rfl, ki, kn⟩ := ins_cells hrc hi
  have c7 := h3.cell 7 _ rfl
  have c0 := h3.cell 0 _ rfl
  have c1 := h3.cell 1 _ rfl
  simp only [ea, hfn, hpc, hJ3.nf] at c7 c0 c1
  have hba := alloc_below w3 (.cells #[.int .i64 0, .int .i64 0] 40)
  have c7' := keep_cell c7 hba
  have c0' := keep_cell c0 hba
  have c1' := keep_cell c1 hba
  have k3' := keep_cell k3 hba
  have ki' := keep_cell ki hba
  have kn' := keep_cell kn hba
  have hfl3 : (fn : Int) < (fs.length : Int) := by omega
  have hpl3 : (pc : Int) < (f.code.length : Int) := by omega
  have H3 := hide h3
  have HW3 := hide hw3
  clear h h1 h2 h3 hw2 hw3 hJ3 hrc hB1 hB2 hB3 hJ hb hb1 hf hi efn
  go_big_region
  have hb4 : Below w3.heap.size w3 (w3.alloc (.cells #[.int .i64 17, .int .i64 n] 40)).drew := (alloc_below w3 _).drew
  have h4 := H3.out.below hb4
  have hw4 : Below B w (w3.alloc (.cells #[.int .i64 17, .int .i64 n] 40)).drew := HW3.out.trans (hb4.mono (by have := H3.out.lt; omega))
  have bx0 : (w3.alloc (.cells #[.int .i64 17, .int .i64 n] 40)).drew.cell? ⟨w3.heap.size, 0, none⟩ = some (.int .i64 17) := keep_cell (cell_row (cs := [.int .i64 17, .int .i64 n]) (i := 0) (heap_alloc_new w3 _) rfl) ((Below.refl _ _).drew)
  have bx1 : (w3.alloc (.cells #[.int .i64 17, .int .i64 n] 40)).drew.cell? ⟨w3.heap.size, 1, none⟩ = some (.int .i64 n) := keep_cell (cell_row (cs := [.int .i64 17, .int .i64 n]) (i := 1) (heap_alloc_new w3 _) rfl) ((Below.refl _ _).drew)
  clear c7 c0 c1 k3 ki kn c7' c0' c1' k3' ki' kn' H3 HW3 hba hfn
  generalize (w3.alloc (.cells #[.int .i64 17, .int .i64 n] 40)).drew = w4 at *
  have hD : ∀ n, Mach B (w4.drewN n) m { M with fu := M.fu + 1, es := M.es + 1 } (x :: sk).reverse lo ar := fun n => h4.below (below_drewN' (Below.refl _ _) n)
  have CL := fun n => last_any (st := sk.reverse) (x := x) (by simpa using hD n) (by simp; omega)
  have CH := fun w => thas_any M.kd x (by omega) w
  rw [hh] at CH
  have CN := fun w => tneed_yes 24 w
  have c5 := h4.cell 5 _ rfl
  have HD := hide hD
  have HW4 := hide hw4
  clear h4 hb4 hD hw4
  go_wp2_with fail
  go_big_quiet (first
    | (go_at_call 85; with_reducible exact Calls.quiet_of_same (CL _))
    | (go_at_call 54; with_reducible exact Calls.quiet_of_same (CH _))
    | (go_at_call 53; with_reducible exact Calls.quiet_of_same (CN _)))
  have CW := wait_any (HD.out nq) hsk
  clear c5 CL CH CN
  go_wp2_with (go_at_call 74; go_must (with_reducible refine CW.mono ?_; (rintro e w6 ⟨rfl, h6, hb6⟩)))
  go_end0
  exact ⟨rfl, h6, (below_drewN' HW4.out nq).trans hb6⟩
set_option linter.unusedVariables false in
set_option linter.unusedSimpArgs false in
set_option maxRecDepth 100000 in
set_option maxHeartbeats 2000000 in
theorem step_await_no {B : Bd} {w w0 : World} {m : Nat} {M : Mc} {sk lo ar : List Int} {x : Int} {cs : List Value} {fs : List Fun} {args : List Int} {deep : Int} (h : Mach B w m M (x :: sk).reverse lo ar) (hJ : JobR w0 M.j cs fs args) (hB : B = w0.heap.size) (hb : Below B w0 w) (fn pc : Nat) (f : Fun) (n : Int)
    (hfn : M.fn = (fn : Int)) (hpc : M.pc = (pc : Int)) (hf : fs[fn]? = some f) (hi : f.code[pc]? = some (17, n)) (hfu : M.fu < M.j.fuel) (hfl : -1000000 ≤ M.fu ∧ M.fu ≤ 1000000) (hes : -1000000 ≤ M.es ∧ M.es ≤ 1000000) (hpcl : pc ≤ 1000000) 
    (hsk : sk.length ≤ 10000) (hkd : 0 ≤ M.kd ∧ M.kd ≤ 16) (hh : hasB M.kd x = false) :
    Calls Tryz.prog 75 #[.pointer (some ⟨m, 0, none⟩), .int .i64 deep] w fun e w' => e = upF 24 0 ∧ Mach B w' m { M with fu := M.fu + 1, es := M.es + 1 } (x :: sk).reverse lo ar ∧ Below B w w' := by
  have hlt := h.lt
  have hbm := h.bm
  have N1 := fun w => tneed_yes 21 w
  have c2 := h.cell 2 _ rfl
  have c10 := h.cell 10 _ rfl
  have hbs := hb.size
  go_enter Tryz.func75, Tryz.ntmps75
  go_wp2_with fail
  go_big_quiet (first | (go_at_call 53; with_reducible exact Calls.quiet_of_same (N1 _)))
  have hb1 : Below w.heap.size w (w.drewN nq) := below_drewN' (Below.refl _ _) nq
  have h1 := h.below hb1
  have hB1 : Below B w0 (w.drewN nq) := hb.trans (hb1.mono (by omega))
  generalize w.drewN nq = w1 at *
  clear c2 c10
  have c2 := h1.cell 2 _ rfl
  have f2 := h1.froz 2
  have h2 := h1.put (M' := { M with fu := M.fu + 1 }) 2 (.int .i64 (M.fu + 1)) rfl rfl rfl rfl
  have hB2 : Below B w0 (w1.setCell ⟨m, 2, none⟩ (.int .i64 (M.fu + 1))) := hB1.setCell (p := ⟨m, 2, none⟩) hbm _
  have hw2 : Below B w (w1.setCell ⟨m, 2, none⟩ (.int .i64 (M.fu + 1))) := (hb1.mono (by omega)).setCell (p := ⟨m, 2, none⟩) hbm _
  go_upto_region 2 with fail
  clear c2 f2
  generalize w1.setCell ⟨m, 2, none⟩ (.int .i64 (M.fu + 1)) = w2 at *
  have c15 := h2.cell 15 _ rfl
  have f15 := h2.froz 15
  have h3 := h2.put (M' := { M with fu := M.fu + 1, es := M.es + 1 }) 15 (.int .i64 (M.es + 1)) rfl rfl rfl rfl
  have hB3 : Below B w0 (w2.setCell ⟨m, 15, none⟩ (.int .i64 (M.es + 1))) := hB2.setCell (p := ⟨m, 15, none⟩) hbm _
  have hw3 : Below B w (w2.setCell ⟨m, 15, none⟩ (.int .i64 (M.es + 1))) := hw2.setCell (p := ⟨m, 15, none⟩) hbm _
  go_upto_region 3 with fail
  clear c15 f15
  generalize w2.setCell ⟨m, 15, none⟩ (.int .i64 (M.es + 1)) = w3 at *
  have hJ3 : JobR w3 M.j cs fs args := hJ.below (hB ▸ hB3)
  have hfl2 : fn < fs.length := (List.getElem?_eq_some_iff.1 hf).1
  have hpl : pc < f.code.length := (List.getElem?_eq_some_iff.1 hi).1
  obtain ⟨fb, off, ca, cc, ea, _, _, _, k3, hrc, _⟩ := hJ3.fun_at hfl2
  have efn : fs[fn] = f := (List.getElem?_eq_some_iff.1 hf).2
  rw [efn] at k3 hrc
  obtain ⟨cb, co, rfl, ki, kn⟩ := ins_cells hrc hi
  have c7 := h3.cell 7 _ rfl
  have c0 := h3.cell 0 _ rfl
  have c1 := h3.cell 1 _ rfl
  simp only [ea, hfn, hpc, hJ3.nf] at c7 c0 c1
  have hba := alloc_below w3 (.cells #[.int .i64 0, .int .i64 0] 40)
  have c7' := keep_cell c7 hba
  have c0' := keep_cell c0 hba
  have c1' := keep_cell c1 hba
  have k3' := keep_cell k3 hba
  have ki' := keep_cell ki hba
  have kn' := keep_cell kn hba
  have hfl3 : (fn : Int) < (fs.length : Int) := by omega
  have hpl3 : (pc : Int) < (f.code.length : Int) := by omega
  have H3 := hide h3
  have HW3 := hide hw3
  clear h h1 h2 h3 hw2 hw3 hJ3 hrc hB1 hB2 hB3 hJ hb hb1 hf hi efn
  go_big_region
  have hb4 : Below w3.heap.size w3 (w3.alloc (.cells #[.int .i64 17, .int .i64 n] 40)).drew := (alloc_below w3 _).drew
  have h4 := H3.out.below hb4
  have hw4 : Below B w (w3.alloc (.cells #[.int .i64 17, .int .i64 n] 40)).drew := HW3.out.trans (hb4.mono (by have := H3.out.lt; omega))
  have bx0 : (w3.alloc (.cells #[.int .i64 17, .int .i64 n] 40)).drew.cell? ⟨w3.heap.size, 0, none⟩ = some (.int .i64 17) := keep_cell (cell_row (cs := [.int .i64 17, .int .i64 n]) (i := 0) (heap_alloc_new w3 _) rfl) ((Below.refl _ _).drew)
  have bx1 : (w3.alloc (.cells #[.int .i64 17, .int .i64 n] 40)).drew.cell? ⟨w3.heap.size, 1, none⟩ = some (.int .i64 n) := keep_cell (cell_row (cs := [.int .i64 17, .int .i64 n]) (i := 1) (heap_alloc_new w3 _) rfl) ((Below.refl _ _).drew)
  clear c7 c0 c1 k3 ki kn c7' c0' c1' k3' ki' kn' H3 HW3 hba hfn
  generalize (w3.alloc (.cells #[.int .i64 17, .int .i64 n] 40)).drew = w4 at *
  have hd := h4.below (show Below w4.heap.size w4 w4.drew from (Below.refl _ _).drew)
  have CL := last_any (st := sk.reverse) (x := x) (by simpa using hd) (by simp; omega)
  have CH := fun w => thas_any M.kd x (by omega) w
  rw [hh] at CH
  have CN := fun w => tneed_no 24 w
  unfold upF failV at CN
  have c5 := hd.cell 5 _ rfl
  have HF := hide (show Mach B w4.drew m { M with fu := M.fu + 1, es := M.es + 1 } (x :: sk).reverse lo ar ∧ Below B w w4.drew from ⟨hd, hw4.drew⟩)
  clear h4 hb4 hd hw4
  go_wp2_with fail
  refine wp_region_held_drew (S := fun _ => True) (by kernel_rfl) trivial (fun _ => ?_)
  refine takeD (i := 0) (d := some 100) (v := ?_) rfl rfl (by kernel_rfl) (by kernel_rfl) (by kernel_rfl) (fun _ _ _ h => h) (Or.inl ⟨by rfl, ?_⟩) trivial ?_
  rotate_left
  · intro w hSw
    go_simp
    try (with_reducible rfl)
  try simp only [Act.put, List.setIfInBounds_toArray, List.set_cons_zero, List.set_cons_succ]
  refine takeD (i := 1) (d := some 101) (v := ?_) rfl rfl (by kernel_rfl) (by kernel_rfl) (by kernel_rfl) (fun _ _ _ h => h) (Or.inl ⟨by rfl, ?_⟩) trivial ?_
  rotate_left
  · intro w hSw
    go_simp
    try (with_reducible rfl)
  try simp only [Act.put, List.setIfInBounds_toArray, List.set_cons_zero, List.set_cons_succ]
  refine takeD (i := 2) (d := some 102) (v := ?_) rfl rfl (by kernel_rfl) (by kernel_rfl) (by kernel_rfl) (fun _ _ _ h => h) (Or.inl ⟨by rfl, ?_⟩) trivial ?_
  rotate_left
  · intro w hSw
    go_simp
    try (with_reducible rfl)
  try simp only [Act.put, List.setIfInBounds_toArray, List.set_cons_zero, List.set_cons_succ]
  refine takeD (i := 3) (d := some 103) (v := ?_) rfl rfl (by kernel_rfl) (by kernel_rfl) (by kernel_rfl) (fun _ _ _ h => h) (Or.inl ⟨by rfl, ?_⟩) trivial ?_
  rotate_left
  · intro w hSw
    go_simp
    try (with_reducible rfl)
  try simp only [Act.put, List.setIfInBounds_toArray, List.set_cons_zero, List.set_cons_succ]
  refine takeD (i := 4) (d := some 104) (v := ?_) rfl rfl (by kernel_rfl) (by kernel_rfl) (by kernel_rfl) (fun _ _ _ h => h) (Or.inl ⟨by rfl, ?_⟩) trivial ?_
  rotate_left
  · intro w hSw
    go_simp
    try (with_reducible rfl)
  try simp only [Act.put, List.setIfInBounds_toArray, List.set_cons_zero, List.set_cons_succ]
  refine takeD (i := 6) (d := some 106) (v := ?_) rfl rfl (by kernel_rfl) (by kernel_rfl) (by kernel_rfl) (fun _ _ _ h => h) (Or.inl ⟨by rfl, ?_⟩) trivial ?_
  rotate_left
  · intro w hSw
    go_simp
    try (with_reducible rfl)
  try simp only [Act.put, List.setIfInBounds_toArray, List.set_cons_zero, List.set_cons_succ]
  refine takeD (i := 7) (d := some 107) (v := ?_) rfl rfl (by kernel_rfl) (by kernel_rfl) (by kernel_rfl) (fun _ _ _ h => h) (Or.inl ⟨by rfl, ?_⟩) trivial ?_
  rotate_left
  · intro w hSw
    go_simp
    try (with_reducible rfl)
  try simp only [Act.put, List.setIfInBounds_toArray, List.set_cons_zero, List.set_cons_succ]
  refine takeD (i := 8) (d := some 108) (v := ?_) rfl rfl (by kernel_rfl) (by kernel_rfl) (by kernel_rfl) (fun _ _ _ h => h) (Or.inl ⟨by rfl, ?_⟩) trivial ?_
  rotate_left
  · intro w hSw
    go_simp
    try (with_reducible rfl)
  try simp only [Act.put, List.setIfInBounds_toArray, List.set_cons_zero, List.set_cons_succ]
  refine wpAnyH_ready (rs := [5, 9]) (by kernel_rfl) (by simp) ?_
  refine AllReadyH.cons rfl (fun K hK => ?_) (AllReadyH.cons rfl (fun K hK => ?_) AllReadyH.nil)
  · go_simp
    go_wp2_with fail
    refine hK.out _ _ trivial (fun _ => ?_)
    clear hK K
    try simp only [Act.put, List.setIfInBounds_toArray, List.set_cons_zero, List.set_cons_succ]
    refine wpAnyH_ready (rs := [9]) (by kernel_rfl) (by simp) ?_
    refine AllReadyH.cons rfl (fun K hK => ?_) AllReadyH.nil
    go_simp
    go_at_call 85
    with_reducible refine CL.mono ?_
    (rintro e w54 ⟨rfl, hw54⟩)
    subst hw54
    go_wp2_with fail
    refine hK.out _ _ trivial (fun _ => ?_)
    clear hK K
    try simp only [Act.put, List.setIfInBounds_toArray, List.set_cons_zero, List.set_cons_succ]
    refine wpAnyH_ready (rs := [10]) (by kernel_rfl) (by simp) ?_
    refine AllReadyH.cons rfl (fun K hK => ?_) AllReadyH.nil
    go_simp
    go_at_call 54
    with_reducible refine (CH _).mono ?_
    (rintro e w21 ⟨rfl, hw21⟩)
    subst hw21
    go_wp2_with fail
    refine hK.out _ _ trivial (fun _ => ?_)
    clear hK K
    try simp only [Act.put, List.setIfInBounds_toArray, List.set_cons_zero, List.set_cons_succ]
    refine wpAnyH_ready (rs := [11]) (by kernel_rfl) (by simp) ?_
    refine AllReadyH.cons rfl (fun K hK => ?_) AllReadyH.nil
    go_simp
    go_at_call 53
    with_reducible refine (CN _).mono ?_
    (rintro e w20 ⟨rfl, hw20⟩)
    subst hw20
    exact ⟨rfl, rfl, HF.out.1, HF.out.2⟩
  · skip
    go_simp
    go_at_call 85
    with_reducible refine CL.mono ?_
    (rintro e w54 ⟨rfl, hw54⟩)
    subst hw54
    go_wp2_with fail
    refine hK.out _ _ trivial (fun _ => ?_)
    clear hK K
    try simp only [Act.put, List.setIfInBounds_toArray, List.set_cons_zero, List.set_cons_succ]
    refine wpAnyH_ready (rs := [5]) (by kernel_rfl) (by simp) ?_
    refine AllReadyH.cons rfl (fun K hK => ?_) AllReadyH.nil
    go_simp
    go_wp2_with fail
    refine hK.out _ _ trivial (fun _ => ?_)
    clear hK K
    try simp only [Act.put, List.setIfInBounds_toArray, List.set_cons_zero, List.set_cons_succ]
    refine wpAnyH_ready (rs := [10]) (by kernel_rfl) (by simp) ?_
    refine AllReadyH.cons rfl (fun K hK => ?_) AllReadyH.nil
    go_simp
    go_at_call 54
    with_reducible refine (CH _).mono ?_
    (rintro e w21 ⟨rfl, hw21⟩)
    subst hw21
    go_wp2_with fail
    refine hK.out _ _ trivial (fun _ => ?_)
    clear hK K
    try simp only [Act.put, List.setIfInBounds_toArray, List.set_cons_zero, List.set_cons_succ]
    refine wpAnyH_ready (rs := [11]) (by kernel_rfl) (by simp) ?_
    refine AllReadyH.cons rfl (fun K hK => ?_) AllReadyH.nil
    go_simp
    go_at_call 53
    with_reducible refine (CN _).mono ?_
    (rintro e w20 ⟨rfl, hw20⟩)
    subst hw20
    exact ⟨rfl, rfl, HF.out.1, HF.out.2⟩
end Go.Proofs.YtbpcibnomkfglaaGreatDoor
/- step and run, whatever they come to. -/

namespace Go.Proofs.YtbpcibnomkfglaaGreatDoor
open Go.RowKit Go.ChangeShapes Go.WideShapes Go.ChangeAt Go.Deep

theorem step_M {B : Bd} {w w0 : World} {m : Nat} {j : JV} {s : PM} {q : PM × Option (Int × Int)} {cs : List Value} {fs : List Fun} {args : List Int} {deep : Int} (h : MachP B w m j s) (hJ : JobR w0 j cs fs args) (hB : B = w0.heap.size) (hb : Below B w0 w) (hs : stepM fs j.fuel deep s = some q) :
    Calls Tryz.prog 75 #[.pointer (some ⟨m, 0, none⟩), .int .i64 deep] w (UpPost B w m j q) := by
  obtain ⟨sv, lv, av, hM⟩ := h
  unfold stepM at hs
  by_cases hfu : (s.fu : Int) < j.fuel
  case neg =>
    rw [if_neg hfu] at hs
    simp only [Option.some.injEq] at hs
    subst hs
    refine (step_fuel (deep := deep) hM hfu).mono ?_
    rintro e w' ⟨rfl, h1, h2⟩
    exact ⟨rfl, ⟨sv, lv, av, h1⟩, h2⟩
  rw [if_pos hfu] at hs
  by_cases hsm : s.small
  case neg => rw [if_neg hsm] at hs; cases hs
  rw [if_pos hsm] at hs
  obtain ⟨h1, h2, h3, h4, h5, h6, h7⟩ := hsm
  cases hf : fs[s.fn]? with
  | none => rw [hf] at hs; simp at hs
  | some f =>
  rw [hf] at hs
  cases hi : f.code[s.pc]? with
  | none => simp [hi] at hs
  | some on =>
  obtain ⟨op, n⟩ := on
  simp only [hi] at hs
  have a1 : -1000000 ≤ (s.fu : Int) ∧ (s.fu : Int) ≤ 1000000 := by omega
  have a2 : -1000000 ≤ (s.es : Int) ∧ (s.es : Int) ≤ 1000000 := by omega
  have a3 : s.pc ≤ 1000000 := by omega
  unfold doM at hs
  simp only at hs
  by_cases o14 : op = 14
  · subst o14
    rw [if_pos rfl] at hs
    split at hs
    · rename_i hn
      simp only [Option.some.injEq] at hs
      subst hs
      obtain ⟨k, rfl⟩ : ∃ k : Nat, n = (k : Int) := ⟨n.toNat, by omega⟩
      refine (step_jump (deep := deep) hM hJ hB hb s.fn s.pc f k rfl rfl hf hi hfu a1 a2 a3 trivial).mono ?_
      rintro e w' ⟨rfl, g1, g2⟩
      exact ⟨rfl, ⟨sv, lv, av, by simpa [PM.mc] using g1⟩, g2⟩
    · cases hs
  rw [if_neg o14] at hs
  by_cases o15 : op = 15
  · subst o15
    rw [if_pos rfl] at hs
    cases hsk : s.sk with
    | nil => rw [hsk] at hs; cases hs
    | cons x r =>
    rw [hsk] at hs hM h4
    simp only at hs
    have C := step_zero (deep := deep) hM hJ hB hb s.fn s.pc f n rfl rfl hf hi hfu a1 a2 a3 (by simp at h4; omega)
    by_cases hx : x = 0
    · rw [if_pos hx] at hs
      split at hs
      · rename_i hn
        simp only [Option.some.injEq] at hs
        subst hs
        refine C.mono ?_
        rintro e w' ⟨rfl, sv', g1, g2⟩
        rw [if_pos hx] at g1
        refine ⟨rfl, ⟨sv', lv, av, ?_⟩, g2⟩
        have : ((n.toNat : Nat) : Int) = n := by omega
        simpa [PM.mc, this] using g1
      · cases hs
    · rw [if_neg hx] at hs
      simp only [Option.some.injEq] at hs
      subst hs
      refine C.mono ?_
      rintro e w' ⟨rfl, sv', g1, g2⟩
      rw [if_neg hx] at g1
      exact ⟨rfl, ⟨sv', lv, av, g1⟩, g2⟩
  rw [if_neg o15] at hs
  by_cases o16 : op = 16
  · subst o16
    rw [if_pos rfl] at hs
    by_cases hd : deep < 12
    · rw [if_pos hd] at hs
      by_cases hk : s.kd < 16
      · rw [if_pos hk] at hs
        split at hs
        · rename_i hn
          cases hg : fs[n.toNat]? with
          | none => rw [hg] at hs; cases hs
          | some g =>
          rw [hg] at hs
          simp only at hs
          split at hs
          · rename_i hgk
            simp only [Option.some.injEq] at hs
            subst hs
            obtain ⟨k, rfl⟩ : ∃ k : Nat, n = (k : Int) := ⟨n.toNat, by omega⟩
            simp only [Int.toNat_natCast] at hg
            refine (step_spawn (deep := deep) hM hJ hB hb s.fn s.pc f k rfl rfl hf hi hfu a1 a2 a3 g hg g.args.toNat (by omega) hgk.2 h4 hd ⟨h5, hk⟩).mono ?_
            rintro e w' ⟨rfl, sv', av', g1, g2⟩
            exact ⟨rfl, ⟨sv', lv, av', g1⟩, g2⟩
          · cases hs
        · cases hs
      · rw [if_neg hk] at hs
        simp only [Option.some.injEq] at hs
        subst hs
        refine (step_spawn_kids (deep := deep) hM hJ hB hb s.fn s.pc f n rfl rfl hf hi hfu a1 a2 a3 hd hk).mono ?_
        rintro e w' ⟨rfl, g1, g2⟩
        exact ⟨rfl, ⟨sv, lv, av, g1⟩, g2⟩
    · rw [if_neg hd] at hs
      simp only [Option.some.injEq] at hs
      subst hs
      refine (step_spawn_deep (deep := deep) hM hJ hB hb s.fn s.pc f n rfl rfl hf hi hfu a1 a2 a3 hd).mono ?_
      rintro e w' ⟨rfl, g1, g2⟩
      exact ⟨rfl, ⟨sv, lv, av, g1⟩, g2⟩
  rw [if_neg o16] at hs
  by_cases o17 : op = 17
  · subst o17
    rw [if_pos rfl] at hs
    cases hsk : s.sk with
    | nil => rw [hsk] at hs; cases hs
    | cons x r =>
    rw [hsk] at hs hM h4
    simp only at hs
    by_cases hh : hasB s.kd x = true
    · rw [if_pos hh] at hs
      simp only [Option.some.injEq] at hs
      subst hs
      refine (step_await_yes (deep := deep) hM hJ hB hb s.fn s.pc f n rfl rfl hf hi hfu a1 a2 a3 (by simp at h4; omega) ⟨h5, h6⟩ hh).mono ?_
      rintro e w' ⟨rfl, g1, g2⟩
      exact ⟨rfl, ⟨sv, lv, av, g1⟩, g2⟩
    · rw [if_neg hh] at hs
      simp only [Option.some.injEq] at hs
      subst hs
      refine (step_await_no (deep := deep) hM hJ hB hb s.fn s.pc f n rfl rfl hf hi hfu a1 a2 a3 (by simp at h4; omega) ⟨h5, h6⟩ (by show hasB s.kd x = false; simpa using hh)).mono ?_
      rintro e w' ⟨rfl, g1, g2⟩
      exact ⟨rfl, ⟨sv, lv, av, g1⟩, g2⟩
  rw [if_neg o17] at hs
  by_cases o18 : op = 18
  · subst o18
    rw [if_pos rfl] at hs
    cases hsk : s.sk with
    | nil => rw [hsk] at hs; cases hs
    | cons x r =>
    rw [hsk] at hs hM h4
    simp only [Option.some.injEq] at hs
    subst hs
    refine (step_ret (deep := deep) hM hJ hB hb s.fn s.pc f n rfl rfl hf hi hfu a1 a2 a3 (by simp at h4; omega)).mono ?_
    rintro e w' ⟨rfl, g1, g2⟩
    exact ⟨rfl, ⟨sv, lv, av, g1⟩, g2⟩
  rw [if_neg o18] at hs
  by_cases o19 : op = 19
  · subst o19
    rw [if_pos rfl] at hs
    cases hsk : s.sk with
    | nil => rw [hsk] at hs; cases hs
    | cons x r =>
    rw [hsk] at hs hM h4
    simp only [Option.some.injEq] at hs
    subst hs
    refine (step_fail (deep := deep) hM hJ hB hb s.fn s.pc f n rfl rfl hf hi hfu a1 a2 a3 (by simp at h4; omega)).mono ?_
    rintro e w' ⟨rfl, g1, g2⟩
    exact ⟨rfl, ⟨sv, lv, av, g1⟩, g2⟩
  rw [if_neg o19] at hs
  have hop : ¬ (14 ≤ op ∧ op ≤ 19) := by omega
  by_cases o5 : op = 5
  · subst o5
    rw [if_pos rfl] at hs
    split at hs
    · rename_i hn
      cases hl : s.lo[n.toNat]? with
      | none => rw [hl] at hs; cases hs
      | some v =>
      rw [hl] at hs
      simp only [Option.some.injEq] at hs
      subst hs
      obtain ⟨k, rfl⟩ : ∃ k : Nat, n = (k : Int) := ⟨n.toNat, by omega⟩
      refine (step_plain (deep := deep) hM hJ hB hb s.fn s.pc f 5 k rfl rfl hf hi hfu a1 a2 a3 hop (fun W hW => plain_load hW k v (by simpa using hl) h4)).mono ?_
      rintro e w' ⟨rfl, sv', g1, g2⟩
      exact ⟨rfl, ⟨sv', lv, av, g1⟩, g2⟩
    · cases hs
  rw [if_neg o5] at hs
  by_cases o6 : op = 6
  · subst o6
    rw [if_pos rfl] at hs
    split at hs
    · rename_i hn
      cases hsk : s.sk with
      | nil => rw [hsk] at hs; cases hs
      | cons x r =>
      rw [hsk] at hs hM h4
      simp only [Option.some.injEq] at hs
      subst hs
      obtain ⟨k, rfl⟩ : ∃ k : Nat, n = (k : Int) := ⟨n.toNat, by omega⟩
      simp only [Int.toNat_natCast] at hn ⊢
      refine (step_plain_lo (deep := deep) hM hJ hB hb s.fn s.pc f 6 k rfl rfl hf hi hfu a1 a2 a3 hop (fun W hW => plain_store hW k hn.2 (by simp at h4; omega))).mono ?_
      rintro e w' ⟨rfl, sv', g1, g2⟩
      exact ⟨rfl, ⟨sv', lv, av, g1⟩, g2⟩
    · cases hs
  rw [if_neg o6] at hs
  cases hp : plL op n s.sk with
  | none => rw [hp] at hs; cases hs
  | some qq =>
  rw [hp] at hs
  cases qq with
  | none =>
    simp only [Option.some.injEq] at hs
    subst hs
    refine (step_plain_no (deep := deep) hM hJ hB hb s.fn s.pc f op n rfl rfl hf hi hfu a1 a2 a3 hop (fun W hW => plain_no hW op n hp h4)).mono ?_
    rintro e w' ⟨rfl, g1, g2⟩
    exact ⟨rfl, ⟨sv, lv, av, g1⟩, g2⟩
  | some sk' =>
    simp only [Option.some.injEq] at hs
    subst hs
    refine (step_plain (deep := deep) hM hJ hB hb s.fn s.pc f op n rfl rfl hf hi hfu a1 a2 a3 hop (fun W hW => tplain_any hW op n hp h4)).mono ?_
    rintro e w' ⟨rfl, sv', g1, g2⟩
    exact ⟨rfl, ⟨sv', lv, av, g1⟩, g2⟩

/-- A task that waits tells so at once. -/
def begM (s : PM) : Option PM := if s.wt = true then (match s.sk with | x :: _ => some { s with ek := 2, ei := x } | [] => none) else some s
def runW (fs : List Fun) (jf deep steps : Int) (n : Nat) (s : PM) : Option (PM × Option (Int × Int)) := (begM s).bind (runM fs jf deep steps n)

set_option linter.unusedSimpArgs false in
set_option maxRecDepth 100000 in
set_option maxHeartbeats 2000000 in
theorem run_L {B : Bd} {w w0 : World} {m : Nat} {j : JV} {s : PM} {q : PM × Option (Int × Int)} {cs : List Value} {fs : List Fun} {args : List Int} {deep steps : Int} (h : MachP B w m j s) (hJ : JobR w0 j cs fs args) (hB : B = w0.heap.size) (hb : Below B w0 w) (n : Nat) (hwt : s.wt = false) (hs : runM fs j.fuel deep steps n s = some q) :
    Calls Tryz.prog 59 #[.pointer (some ⟨m, 0, none⟩), .int .i64 deep, .int .i64 steps] w (UpPost B w m j q) := by
  have c6 : w.cell? ⟨m, 6, none⟩ = some (.bool false) := by
    obtain ⟨sv, lv, av, hM⟩ := h
    have := hM.cell 6 _ rfl
    rw [show (s.mc j sv lv av).wt = false from hwt] at this
    exact this
  have HS := hide (fun (w : World) (s : PM) (q : PM × Option (Int × Int)) (h : MachP B w m j s) (hb : Below B w0 w) (hs : stepM fs j.fuel deep s = some q) => step_M (deep := deep) h hJ hB hb hs)
  have H0 := hide h
  have HR := hide hs
  have HBw := hide hb
  clear h hs hb hJ hB
  go_enter Tryz.func59, Tryz.ntmps59
  go_wp2_with fail
  go_loopg [] n (fun g wr => Below B w wr ∧ Hid (∃ b, MachP B wr m j b ∧ runM fs j.fuel deep steps g b = some q))
  case atStart => exact ⟨Below.refl _ _, ⟨s, H0.out, HR.out⟩⟩
  case round =>
    obtain ⟨hbw, hx⟩ := hrel
    obtain ⟨b, hM, hr⟩ := hx.out
    obtain ⟨sv, lv, av, hMM⟩ := hM
    have c12 : wr.cell? ⟨m, 12, none⟩ = some (.int .i64 b.ek) := hMM.cell 12 _ rfl
    have c15 : wr.cell? ⟨m, 15, none⟩ = some (.int .i64 (b.es : Int)) := hMM.cell 15 _ rfl
    have HM := hide (show MachP B wr m j b from ⟨sv, lv, av, hMM⟩)
    have HBB := hide hbw
    clear hMM hx hbw
    by_cases hk : b.ek = 0
    · by_cases hst : (b.es : Int) < steps
      · cases gk with
        | zero => unfold runM at hr; rw [if_pos ⟨hk, hst⟩] at hr; cases hr
        | succ g =>
          unfold runM at hr
          rw [if_pos ⟨hk, hst⟩] at hr
          have hk' : (b.ek == 0) = true := by rw [beq_iff_eq]; exact hk
          cases hq : stepM fs j.fuel deep b with
          | none => rw [hq] at hr; cases hr
          | some tu =>
            obtain ⟨t, u⟩ := tu
            have C := HS.out wr b (t, u) HM.out (HBw.out.trans HBB.out) hq
            unfold UpPost at C
            rw [hq] at hr
            cases u with
            | none =>
              simp only [upM] at C
              have HR2 := hide (show runM fs j.fuel deep steps g t = some q from hr)
              clear hr hq
              go_wp2_with (go_at_call 75; go_must (with_reducible refine C.mono ?_; (rintro e w2 ⟨rfl, h2, hb2⟩)))
              go_roundg g
              case measure => omega
              case rel => exact ⟨HBB.out.trans hb2, ⟨t, h2, HR2.out⟩⟩
            | some ev =>
              obtain ⟨xe, xv⟩ := ev
              simp only [upM, upF, failV] at C
              have HR2 := hide (show q = (t, some (xe, xv)) from (Option.some.inj hr).symm)
              clear hr hq
              go_wp2_with (go_at_call 75; go_must (with_reducible refine C.mono ?_; (rintro e w2 ⟨rfl, h2, hb2⟩)))
              refine ⟨rfl, ?_⟩
              rw [HR2.out]
              exact ⟨rfl, h2, HBB.out.trans hb2⟩
      · have hba : q = (b, none) := by
          cases gk with
          | zero => unfold runM at hr; rw [if_neg (fun q => hst q.2)] at hr; exact (Option.some.inj hr).symm
          | succ g => unfold runM at hr; rw [if_neg (fun q => hst q.2)] at hr; exact (Option.some.inj hr).symm
        have HBA := hide hba
        have hk' : (b.ek == 0) = true := by rw [beq_iff_eq]; exact hk
        clear hr hba
        go_wp2_with fail
        go_end0
        rw [HBA.out]
        exact ⟨rfl, HM.out, HBB.out⟩
    · have hba : q = (b, none) := by
        cases gk with
        | zero => unfold runM at hr; rw [if_neg (fun q => hk q.1)] at hr; exact (Option.some.inj hr).symm
        | succ g => unfold runM at hr; rw [if_neg (fun q => hk q.1)] at hr; exact (Option.some.inj hr).symm
      have HBA := hide hba
      have hk' : (b.ek == 0) = false := by rw [beq_eq_false_iff_ne]; exact hk
      clear hr hba
      go_wp2_with fail
      go_end0
      rw [HBA.out]
      exact ⟨rfl, HM.out, HBB.out⟩

set_option linter.unusedSimpArgs false in
set_option maxRecDepth 100000 in
set_option maxHeartbeats 2000000 in
theorem run_Wt {B : Bd} {w : World} {m : Nat} {j : JV} {s : PM} {x : Int} {r : List Int} {deep steps : Int} (h : MachP B w m j s) (hwt : s.wt = true) (hsk : s.sk = x :: r) (hn : r.length ≤ 10000) :
    Calls Tryz.prog 59 #[.pointer (some ⟨m, 0, none⟩), .int .i64 deep, .int .i64 steps] w (UpPost B w m j ({ s with ek := 2, ei := x }, none)) := by
  obtain ⟨sv, lv, av, hM⟩ := h
  have c6 : w.cell? ⟨m, 6, none⟩ = some (.bool true) := by
    have := hM.cell 6 _ rfl
    rw [show (s.mc j sv lv av).wt = true from hwt] at this
    exact this
  rw [hsk] at hM
  have CW := wait_any hM hn
  have HSK := hide hsk
  have HWT := hide hwt
  clear hM hsk hwt
  go_enter Tryz.func59, Tryz.ntmps59
  go_wp2_with (go_at_call 74; go_must (with_reducible refine CW.mono ?_; (rintro e w1 ⟨rfl, h1, hb1⟩); refine Hid.out ?_))
  refine Lib.hid ?_
  have H1 := hide (show MachP B w1 m j { s with ek := 2, ei := x } from ⟨sv, lv, av, by
    have := h1
    rw [← HSK.out] at this
    have e : (s.mc j sv lv av).wt = true := HWT.out
    simpa [PM.mc, HWT.out] using this⟩)
  have c12 : w1.cell? ⟨m, 12, none⟩ = some (.int .i64 2) := h1.cell 12 _ rfl
  have HB1 := hide hb1
  clear h1 CW c6 hb1
  go_wp2_with fail
  go_loopg [] 0 (fun _ wr => wr = w1)
  case atStart => rfl
  case round =>
    subst hrel
    go_wp2_with fail
    go_end0
    exact ⟨rfl, H1.out, HB1.out⟩
theorem run_M {B : Bd} {w w0 : World} {m : Nat} {j : JV} {s : PM} {q : PM × Option (Int × Int)} {cs : List Value} {fs : List Fun} {args : List Int} {deep steps : Int} (h : MachP B w m j s) (hJ : JobR w0 j cs fs args) (hB : B = w0.heap.size) (hb : Below B w0 w) (n : Nat) (hn : s.sk.length ≤ 10000) (hs : runW fs j.fuel deep steps n s = some q) :
    Calls Tryz.prog 59 #[.pointer (some ⟨m, 0, none⟩), .int .i64 deep, .int .i64 steps] w (UpPost B w m j q) := by
  unfold runW begM at hs
  by_cases hwt : s.wt = true
  · rw [if_pos hwt] at hs
    cases hsk : s.sk with
    | nil => rw [hsk] at hs; cases hs
    | cons x r =>
      rw [hsk] at hs
      simp only [Option.bind_some] at hs
      have hq : q = ({ s with ek := 2, ei := x }, none) := by
        cases n with
        | zero => unfold runM at hs; rw [if_neg (fun q => by simp at q)] at hs; rw [hsk]; exact (Option.some.inj hs).symm
        | succ n => unfold runM at hs; rw [if_neg (fun q => by simp at q)] at hs; rw [hsk]; exact (Option.some.inj hs).symm
      rw [hq]
      exact run_Wt h hwt hsk (by rw [hsk] at hn; simp at hn; omega)
  · rw [if_neg hwt] at hs
    exact run_L h hJ hB hb n (by simpa using hwt) hs
end Go.Proofs.YtbpcibnomkfglaaGreatDoor
