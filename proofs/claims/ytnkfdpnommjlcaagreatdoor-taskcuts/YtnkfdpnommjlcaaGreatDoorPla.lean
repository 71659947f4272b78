/- plain: an instruction that turns values alone (no locals yet). -/
import Derived.Test.YtnkfdpnommjlcaaGreatDoorRek
namespace Go.Proofs.YtnkfdpnommjlcaaGreatDoor
open Go.RowKit Go.ChangeShapes Go.WideShapes Go.ChangeAt Go.Deep

/-- What an instruction that turns values alone makes of the stack (its last value first); none: it cannot be done; some none: there is no such value. -/
def plL (op n : Int) : List Int → Option (Option (List Int))
  | sk =>
    if op = 1 then some (some (n :: sk))
    else if op = 2 then (match sk with | _ :: r => some (some r) | [] => none)
    else if op = 3 then (match sk with | x :: r => some (some (x :: x :: r)) | [] => none)
    else if op = 4 then (match sk with | y :: x :: r => some (some (x :: y :: r)) | _ => none)
    else if 7 ≤ op ∧ op ≤ 13 then (match sk with | y :: x :: r => some ((rekL op x y).map (· :: r)) | _ => none)
    else none
def PlainPost (B : Bd) (w : World) (m : Nat) (M : Mc) (sk lo ar : List Int) (op n : Int) (e : Ending) (w' : World) : Prop :=
  match plL op n sk with
  | some (some sk') => e = .returned (.tuple #[]) ∧ ∃ sv, Mach B w' m { M with sv := sv } sk'.reverse lo ar ∧ Below B w w'
  | some none => e = upF 20 0 ∧ Mach B w' m M sk.reverse lo ar ∧ Below B w w'
  | none => True
theorem reads_next (w : World) (o : Obj) (xs : List Value) (t : TypeId) : Reads ((w.alloc o).alloc (.cells xs.toArray t)) (some ⟨w.heap.size + 1, 0, none⟩) xs := by
  have := reads_new (w.alloc o) xs t
  simpa using this
theorem reads_new1 (w : World) (x : Int) : Reads (w.alloc (.cells #[.int .i64 x] 3)) (some ⟨w.heap.size, 0, none⟩) (iV [x]) := reads_new w _ _
theorem reads_new2 (w : World) (x y : Int) : Reads (w.alloc (.cells #[.int .i64 x, .int .i64 y] 3)) (some ⟨w.heap.size, 0, none⟩) (iV [x, y]) := reads_new w _ _
theorem rev_take (sk : List Int) (k : Nat) (hk : k ≤ sk.length) : sk.reverse.take (sk.length - k) = (sk.drop k).reverse := by
  rw [List.take_reverse]
  congr 2
  omega
/-- put, the stack's last value first. -/
theorem put_rev {B : Bd} {w : World} {m : Nat} {M : Mc} {sk lo ar : List Int} (h : Mach B w m M sk.reverse lo ar) (k : Nat) (hk : k ≤ sk.length) (hn : sk.length ≤ 100000) (va : Option Addr) (nv cv : Nat) (ys sk' : List Int) (hr : Reads w va (iV ys)) (hy : ys.length = nv) (hnil : va = none → nv = 0 ∧ cv = 0) (hnv : nv ≤ 100000) (hs : (sk.drop k).reverse ++ ys = sk'.reverse) :
    Calls Tryz.prog 78 #[.pointer (some ⟨m, 0, none⟩), .int .i64 (k : Int), .slice va nv cv] w (PutPost B w m M sk'.reverse lo ar) := by
  have := put_any h k (by simpa using hk) (by simpa using hn) va nv cv ys hr hy hnil hnv
  rw [List.length_reverse, rev_take sk k hk, hs] at this
  exact this
set_option linter.unusedSimpArgs false in
set_option maxRecDepth 100000 in
set_option maxHeartbeats 2000000 in
theorem plain_push {B : Bd} {w : World} {m : Nat} {M : Mc} {sk lo ar : List Int} (h : Mach B w m M sk.reverse lo ar) (n : Int) (hn : sk.length ≤ 10000) : Calls Tryz.prog 89 #[.pointer (some ⟨m, 0, none⟩), .agg #[.int .i64 1, .int .i64 n]] w fun e w' => e = .returned (.tuple #[]) ∧ ∃ sv, Mach B w' m { M with sv := sv } (n :: sk).reverse lo ar ∧ Below B w w' := by
  have hlt := h.lt
  have hbm := h.bm
  have hb0 : Below w.heap.size w ((w.alloc (.cells #[.int .i64 1, .int .i64 n] 55)).alloc (.cells #[.int .i64 n] 3)).drew := (((Below.refl _ _).alloc (Nat.le_refl _) _).alloc (by simp) _).drew
  have h1 := h.below hb0
  have C : Calls Tryz.prog 78 #[.pointer (some ⟨m, 0, none⟩), .int .i64 0, .slice (some ⟨w.heap.size + 1, 0, none⟩) 1 1] ((w.alloc (.cells #[.int .i64 1, .int .i64 n] 55)).alloc (.cells #[.int .i64 n] 3)).drew (PutPost B _ m M (n :: sk).reverse lo ar) := put_rev h1 0 (by omega) (by omega) (some ⟨w.heap.size + 1, 0, none⟩) 1 1 [n] (n :: sk) (Reads.drew (reads_next w _ [.int .i64 n] 3)) rfl (fun h => by cases h) (by omega) (by simp)
  have HB0 := hide (hb0.mono (show B ≤ w.heap.size by omega))
  unfold PutPost at C
  clear h h1
  go_enter Tryz.func89, Tryz.ntmps89
  go_wp2_with fail
  refine wp_region_noPanic ?_
  refine wp_region_held_drew (S := fun _ => True) (by kernel_rfl) trivial (fun _ => ?_)
  refine takeD (i := 0) (d := some 29) (v := ?_) rfl rfl (by kernel_rfl) (by kernel_rfl) (by kernel_rfl) (fun _ _ _ h => h) (Or.inl ⟨by rfl, ?_⟩) trivial ?_
  rotate_left
  · intro w hSw
    go_simp
    try (with_reducible rfl)
  try simp only [Act.put, List.setIfInBounds_toArray, List.set_cons_zero, List.set_cons_succ]
  refine takeD (i := 1) (d := some 30) (v := ?_) rfl rfl (by kernel_rfl) (by kernel_rfl) (by kernel_rfl) (fun _ _ _ h => h) (Or.inl ⟨by rfl, ?_⟩) trivial ?_
  rotate_left
  · intro w hSw
    go_simp
    try (with_reducible rfl)
  try simp only [Act.put, List.setIfInBounds_toArray, List.set_cons_zero, List.set_cons_succ]
  refine takeD (i := 2) (d := some 31) (v := ?_) rfl rfl (by kernel_rfl) (by kernel_rfl) (by kernel_rfl) (fun _ _ _ h => h) (Or.inl ⟨by rfl, ?_⟩) trivial ?_
  rotate_left
  · intro w hSw
    go_simp
    try (with_reducible rfl)
  try simp only [Act.put, List.setIfInBounds_toArray, List.set_cons_zero, List.set_cons_succ]
  refine takeD (i := 3) (d := some 32) (v := ?_) rfl rfl (by kernel_rfl) (by kernel_rfl) (by kernel_rfl) (fun _ _ _ h => h) (Or.inl ⟨by rfl, ?_⟩) trivial ?_
  rotate_left
  · intro w hSw
    go_simp
    try (with_reducible rfl)
  try simp only [Act.put, List.setIfInBounds_toArray, List.set_cons_zero, List.set_cons_succ]
  refine wpAnyH_ready (rs := [4]) (by kernel_rfl) (by simp) ?_
  refine AllReadyH.cons rfl (fun K hK => ?_) AllReadyH.nil
  go_simp
  go_wp2_with fail
  refine hK.out _ _ trivial (fun _ => ?_)
  clear hK K
  try simp only [Act.put, List.setIfInBounds_toArray, List.set_cons_zero, List.set_cons_succ]
  refine wpAnyH_ready (rs := [5]) (by kernel_rfl) (by simp) ?_
  refine AllReadyH.cons rfl (fun K hK => ?_) AllReadyH.nil
  go_simp
  go_wp2_with fail
  refine hK.out _ _ trivial (fun _ => ?_)
  clear hK K
  try simp only [Act.put, List.setIfInBounds_toArray, List.set_cons_zero, List.set_cons_succ]
  refine wpAnyH_ready (rs := [6]) (by kernel_rfl) (by simp) ?_
  refine AllReadyH.cons rfl (fun K hK => ?_) AllReadyH.nil
  go_simp
  go_at_call 78
  with_reducible refine C.mono ?_
  (rintro e w2 ⟨rfl, sv2, hM2, hb2⟩)
  go_wp2_with fail
  refine hK.out _ _ trivial (fun _ => ?_)
  clear hK K
  try simp only [Act.put, List.setIfInBounds_toArray, List.set_cons_zero, List.set_cons_succ]
  refine wpAnyH_done (by kernel_rfl) ?_ _
  refine NoPanic.normal ?_
  go_wp2_with fail
  go_end0
  exact ⟨rfl, sv2, hM2, HB0.out.trans hb2⟩
set_option linter.unusedSimpArgs false in
set_option maxRecDepth 100000 in
set_option maxHeartbeats 2000000 in
theorem plain_pop {B : Bd} {w : World} {m : Nat} {M : Mc} {sk lo ar : List Int} {x : Int} (h : Mach B w m M (x :: sk).reverse lo ar) (n : Int) (hn : sk.length ≤ 10000) : Calls Tryz.prog 89 #[.pointer (some ⟨m, 0, none⟩), .agg #[.int .i64 2, .int .i64 n]] w fun e w' => e = .returned (.tuple #[]) ∧ ∃ sv, Mach B w' m { M with sv := sv } (sk).reverse lo ar ∧ Below B w w' := by
  have hlt := h.lt
  have hbm := h.bm
  have hb0 : Below w.heap.size w (w.alloc (.cells #[.int .i64 2, .int .i64 n] 55)) := ((Below.refl _ _).alloc (Nat.le_refl _) _)
  have h1 := h.below hb0
  have C : Calls Tryz.prog 78 #[.pointer (some ⟨m, 0, none⟩), .int .i64 1, .slice none 0 0] (w.alloc (.cells #[.int .i64 2, .int .i64 n] 55)) (PutPost B _ m M sk.reverse lo ar) := put_rev h1 1 (by simp) (by simp; omega) none 0 0 [] sk (.inl rfl) rfl (fun _ => ⟨rfl, rfl⟩) (by omega) (by simp)
  have HB0 := hide (show Below B w (w.alloc (.cells #[.int .i64 2, .int .i64 n] 55)) from hb0.mono (by omega))
  unfold PutPost at C
  clear h h1
  go_enter Tryz.func89, Tryz.ntmps89
  go_wp2_with (go_at_call 78; go_must (with_reducible refine C.mono ?_; (rintro e w2 ⟨rfl, sv2, hM2, hb2⟩)))
  go_end0
  exact ⟨rfl, sv2, hM2, HB0.out.trans hb2⟩
set_option linter.unusedSimpArgs false in
set_option maxRecDepth 100000 in
set_option maxHeartbeats 2000000 in
theorem plain_dup {B : Bd} {w : World} {m : Nat} {M : Mc} {sk lo ar : List Int} {x : Int} (h : Mach B w m M (x :: sk).reverse lo ar) (n : Int) (hn : sk.length ≤ 10000) : Calls Tryz.prog 89 #[.pointer (some ⟨m, 0, none⟩), .agg #[.int .i64 3, .int .i64 n]] w fun e w' => e = .returned (.tuple #[]) ∧ ∃ sv, Mach B w' m { M with sv := sv } (x :: x :: sk).reverse lo ar ∧ Below B w w' := by
  have hlt := h.lt
  have hbm := h.bm
  have hL : Mach B (w.alloc (.cells #[.int .i64 3, .int .i64 n] 55)).drew m M (sk.reverse ++ [x]) lo ar := by
    have := h.below (show Below w.heap.size w (w.alloc (.cells #[.int .i64 3, .int .i64 n] 55)).drew from ((Below.refl _ _).alloc (Nat.le_refl _) _).drew)
    simpa using this
  have CL := last_any hL (by simp; omega)
  have hb0 : Below w.heap.size w ((w.alloc (.cells #[.int .i64 3, .int .i64 n] 55)).alloc (.cells #[.int .i64 x] 3)).drew := (((Below.refl _ _).alloc (Nat.le_refl _) _).alloc (by simp) _).drew
  have h1 := h.below hb0
  have C : Calls Tryz.prog 78 #[.pointer (some ⟨m, 0, none⟩), .int .i64 0, .slice (some ⟨w.heap.size + 1, 0, none⟩) 1 1] ((w.alloc (.cells #[.int .i64 3, .int .i64 n] 55)).alloc (.cells #[.int .i64 x] 3)).drew (PutPost B _ m M (x :: x :: sk).reverse lo ar) := put_rev h1 0 (by omega) (by simp; omega) (some ⟨w.heap.size + 1, 0, none⟩) 1 1 [x] (x :: x :: sk) (Reads.drew (reads_next w _ [.int .i64 x] 3)) rfl (fun h => by cases h) (by omega) (by simp)
  have HB0 := hide (hb0.mono (show B ≤ w.heap.size by omega))
  unfold PutPost at C
  clear h h1 hL
  go_enter Tryz.func89, Tryz.ntmps89
  go_wp2_with fail
  refine wp_region_noPanic ?_
  refine wp_region_held_drew (S := fun _ => True) (by kernel_rfl) trivial (fun _ => ?_)
  refine takeD (i := 0) (d := some 44) (v := ?_) rfl rfl (by kernel_rfl) (by kernel_rfl) (by kernel_rfl) (fun _ _ _ h => h) (Or.inl ⟨by rfl, ?_⟩) trivial ?_
  rotate_left
  · intro w hSw
    go_simp
    try (with_reducible rfl)
  try simp only [Act.put, List.setIfInBounds_toArray, List.set_cons_zero, List.set_cons_succ]
  refine takeD (i := 1) (d := some 45) (v := ?_) rfl rfl (by kernel_rfl) (by kernel_rfl) (by kernel_rfl) (fun _ _ _ h => h) (Or.inl ⟨by rfl, ?_⟩) trivial ?_
  rotate_left
  · intro w hSw
    go_simp
    try (with_reducible rfl)
  try simp only [Act.put, List.setIfInBounds_toArray, List.set_cons_zero, List.set_cons_succ]
  refine takeD (i := 2) (d := some 46) (v := ?_) rfl rfl (by kernel_rfl) (by kernel_rfl) (by kernel_rfl) (fun _ _ _ h => h) (Or.inl ⟨by rfl, ?_⟩) trivial ?_
  rotate_left
  · intro w hSw
    go_simp
    try (with_reducible rfl)
  try simp only [Act.put, List.setIfInBounds_toArray, List.set_cons_zero, List.set_cons_succ]
  refine takeD (i := 3) (d := some 47) (v := ?_) rfl rfl (by kernel_rfl) (by kernel_rfl) (by kernel_rfl) (fun _ _ _ h => h) (Or.inl ⟨by rfl, ?_⟩) trivial ?_
  rotate_left
  · intro w hSw
    go_simp
    try (with_reducible rfl)
  try simp only [Act.put, List.setIfInBounds_toArray, List.set_cons_zero, List.set_cons_succ]
  refine takeD (i := 4) (d := some 48) (v := ?_) rfl rfl (by kernel_rfl) (by kernel_rfl) (by kernel_rfl) (fun _ _ _ h => h) (Or.inl ⟨by rfl, ?_⟩) trivial ?_
  rotate_left
  · intro w hSw
    go_simp
    try (with_reducible rfl)
  try simp only [Act.put, List.setIfInBounds_toArray, List.set_cons_zero, List.set_cons_succ]
  refine takeD (i := 5) (d := some 49) (v := ?_) rfl rfl (by kernel_rfl) (by kernel_rfl) (by kernel_rfl) (fun _ _ _ h => h) (Or.inl ⟨by rfl, ?_⟩) trivial ?_
  rotate_left
  · intro w hSw
    go_simp
    try (with_reducible rfl)
  try simp only [Act.put, List.setIfInBounds_toArray, List.set_cons_zero, List.set_cons_succ]
  refine wpAnyH_ready (rs := [6]) (by kernel_rfl) (by simp) ?_
  refine AllReadyH.cons rfl (fun K hK => ?_) AllReadyH.nil
  go_simp
  go_at_call 86
  with_reducible refine CL.mono ?_
  (rintro e w9 ⟨rfl, hw9⟩)
  subst hw9
  go_wp2_with fail
  refine hK.out _ _ trivial (fun _ => ?_)
  clear hK K
  try simp only [Act.put, List.setIfInBounds_toArray, List.set_cons_zero, List.set_cons_succ]
  refine wpAnyH_ready (rs := [7]) (by kernel_rfl) (by simp) ?_
  refine AllReadyH.cons rfl (fun K hK => ?_) AllReadyH.nil
  go_simp
  go_wp2_with fail
  refine hK.out _ _ trivial (fun _ => ?_)
  clear hK K
  try simp only [Act.put, List.setIfInBounds_toArray, List.set_cons_zero, List.set_cons_succ]
  refine wpAnyH_ready (rs := [8]) (by kernel_rfl) (by simp) ?_
  refine AllReadyH.cons rfl (fun K hK => ?_) AllReadyH.nil
  go_simp
  go_at_call 78
  with_reducible refine C.mono ?_
  (rintro e w2 ⟨rfl, sv2, hM2, hb2⟩)
  go_wp2_with fail
  refine hK.out _ _ trivial (fun _ => ?_)
  clear hK K
  try simp only [Act.put, List.setIfInBounds_toArray, List.set_cons_zero, List.set_cons_succ]
  refine wpAnyH_done (by kernel_rfl) ?_ _
  refine NoPanic.normal ?_
  go_wp2_with fail
  go_end0
  exact ⟨rfl, sv2, hM2, HB0.out.trans hb2⟩
set_option linter.unusedSimpArgs false in
set_option maxRecDepth 100000 in
set_option maxHeartbeats 2000000 in
theorem plain_swap {B : Bd} {w : World} {m : Nat} {M : Mc} {sk lo ar : List Int} {x y : Int} (h : Mach B w m M (y :: x :: sk).reverse lo ar) (n : Int) (hn : sk.length ≤ 10000) : Calls Tryz.prog 89 #[.pointer (some ⟨m, 0, none⟩), .agg #[.int .i64 4, .int .i64 n]] w fun e w' => e = .returned (.tuple #[]) ∧ ∃ sv, Mach B w' m { M with sv := sv } (x :: y :: sk).reverse lo ar ∧ Below B w w' := by
  have hlt := h.lt
  have hbm := h.bm
  have hb0 : Below w.heap.size w (w.alloc (.cells #[.int .i64 4, .int .i64 n] 55)) := ((Below.refl _ _).alloc (Nat.le_refl _) _)
  have hL : Mach B (w.alloc (.cells #[.int .i64 4, .int .i64 n] 55)) m M (sk.reverse ++ [x, y]) lo ar := by have := h.below hb0; simpa using this
  have CL := lastTwo_any hL (by simp; omega)
  have H0 := hide (h.below hb0)
  clear h hL
  go_enter Tryz.func89, Tryz.ntmps89
  go_wp2_with (go_at_call 102; go_must (with_reducible refine CL.mono ?_; (rintro e w9 ⟨rfl, hb9⟩); refine Hid.out ?_))
  refine Lib.hid ?_
  have h1 := H0.out.below (hb9.trans ((Below.refl _ _).alloc hb9.size (.cells #[.int .i64 y, .int .i64 x] 3)))
  have C : Calls Tryz.prog 78 #[.pointer (some ⟨m, 0, none⟩), .int .i64 2, .slice (some ⟨w9.heap.size, 0, none⟩) 2 2] (w9.alloc (.cells #[.int .i64 y, .int .i64 x] 3)) (PutPost B _ m M (x :: y :: sk).reverse lo ar) := put_rev h1 2 (by simp) (by simp; omega) (some ⟨w9.heap.size, 0, none⟩) 2 2 [y, x] (x :: y :: sk) (reads_new2 _ y x) rfl (fun h => by cases h) (by omega) (by simp)
  have HB0 := hide (show Below B w (w9.alloc (.cells #[.int .i64 y, .int .i64 x] 3)) from ((hb0.trans (hb9.mono (by simp))).mono (by omega)).alloc (by have := hb9.size; simp at this; omega) _)
  unfold PutPost at C
  clear h1 CL
  go_wp2_with (go_at_call 78; go_must (with_reducible refine C.mono ?_; (rintro e w2 ⟨rfl, sv2, hM2, hb2⟩)))
  go_end0
  exact ⟨rfl, sv2, hM2, HB0.out.trans hb2⟩
set_option linter.unusedSimpArgs false in
set_option maxRecDepth 100000 in
set_option maxHeartbeats 2000000 in
theorem plain_two {B : Bd} {w : World} {m : Nat} {M : Mc} {sk lo ar : List Int} {x y v : Int} (h : Mach B w m M (y :: x :: sk).reverse lo ar) (op n : Int) (hop : 7 ≤ op ∧ op ≤ 13) (hv : rekL op x y = some v) (hn : sk.length ≤ 10000) : Calls Tryz.prog 89 #[.pointer (some ⟨m, 0, none⟩), .agg #[.int .i64 op, .int .i64 n]] w fun e w' => e = .returned (.tuple #[]) ∧ ∃ sv, Mach B w' m { M with sv := sv } (v :: sk).reverse lo ar ∧ Below B w w' := by
  have hlt := h.lt
  have hbm := h.bm
  have g1 : (op == 1) = false := by rw [beq_eq_false_iff_ne]; omega
  have g2 : (op == 2) = false := by rw [beq_eq_false_iff_ne]; omega
  have g3 : (op == 3) = false := by rw [beq_eq_false_iff_ne]; omega
  have g4 : (op == 4) = false := by rw [beq_eq_false_iff_ne]; omega
  have g5 : (op == 5) = false := by rw [beq_eq_false_iff_ne]; omega
  have g6 : (op == 6) = false := by rw [beq_eq_false_iff_ne]; omega
  have hb0 : Below w.heap.size w (w.alloc (.cells #[.int .i64 op, .int .i64 n] 55)) := ((Below.refl _ _).alloc (Nat.le_refl _) _)
  have hL : Mach B (w.alloc (.cells #[.int .i64 op, .int .i64 n] 55)) m M (sk.reverse ++ [x, y]) lo ar := by have := h.below hb0; simpa using this
  have CL := lastTwo_any hL (by simp; omega)
  have H0 := hide (h.below hb0)
  have CR := fun w => reckon_any op x y w
  unfold RekPost at CR
  rw [hv] at CR
  have hcb : (w.alloc (.cells #[.int .i64 op, .int .i64 n] 55)).cell? ⟨w.heap.size, 0, none⟩ = some (.int .i64 op) := cell_row (cs := [.int .i64 op, .int .i64 n]) (heap_alloc_new w _) rfl
  clear h hL
  go_enter Tryz.func89, Tryz.ntmps89
  go_wp2_with (go_at_call 102; go_must (with_reducible refine CL.mono ?_; (rintro e w9 ⟨rfl, hb9⟩); refine Hid.out ?_))
  refine Lib.hid ?_
  have cb9 : w9.drew.cell? ⟨w.heap.size, 0, none⟩ = some (.int .i64 op) := keep_cell hcb (hb9.drew)
  have hbn : Below (w.alloc (.cells #[.int .i64 op, .int .i64 n] 55)).heap.size (w.alloc (.cells #[.int .i64 op, .int .i64 n] 55)) (w9.alloc (.cells #[.int .i64 v] 3)).drew := (hb9.alloc hb9.size _).drew
  have h1 := H0.out.below hbn
  have C : Calls Tryz.prog 78 #[.pointer (some ⟨m, 0, none⟩), .int .i64 2, .slice (some ⟨w9.heap.size, 0, none⟩) 1 1] (w9.alloc (.cells #[.int .i64 v] 3)).drew (PutPost B _ m M (v :: sk).reverse lo ar) := put_rev h1 2 (by simp) (by simp; omega) (some ⟨w9.heap.size, 0, none⟩) 1 1 [v] (v :: sk) (Reads.drew (reads_new1 _ v)) rfl (fun h => by cases h) (by omega) (by simp)
  have HB0 := hide (show Below B w (w9.alloc (.cells #[.int .i64 v] 3)).drew from (hb0.trans (hbn.mono (by simp))).mono (by omega))
  unfold PutPost at C
  clear h1 CL hcb
  go_wp2_with fail
  refine wp_region_noPanic ?_
  refine wp_region_held_drew (S := fun _ => True) (by kernel_rfl) trivial (fun _ => ?_)
  refine takeD (i := 0) (d := some 17) (v := ?_) rfl rfl (by kernel_rfl) (by kernel_rfl) (by kernel_rfl) (fun _ _ _ h => h) (Or.inl ⟨by rfl, ?_⟩) trivial ?_
  rotate_left
  · intro w hSw
    go_simp
    try (with_reducible rfl)
  try simp only [Act.put, List.setIfInBounds_toArray, List.set_cons_zero, List.set_cons_succ]
  refine takeD (i := 1) (d := some 18) (v := ?_) rfl rfl (by kernel_rfl) (by kernel_rfl) (by kernel_rfl) (fun _ _ _ h => h) (Or.inl ⟨by rfl, ?_⟩) trivial ?_
  rotate_left
  · intro w hSw
    go_simp
    try (with_reducible rfl)
  try simp only [Act.put, List.setIfInBounds_toArray, List.set_cons_zero, List.set_cons_succ]
  refine takeD (i := 2) (d := some 19) (v := ?_) rfl rfl (by kernel_rfl) (by kernel_rfl) (by kernel_rfl) (fun _ _ _ h => h) (Or.inl ⟨by rfl, ?_⟩) trivial ?_
  rotate_left
  · intro w hSw
    go_simp
    try (with_reducible rfl)
  try simp only [Act.put, List.setIfInBounds_toArray, List.set_cons_zero, List.set_cons_succ]
  refine takeD (i := 3) (d := some 20) (v := ?_) rfl rfl (by kernel_rfl) (by kernel_rfl) (by kernel_rfl) (fun _ _ _ h => h) (Or.inl ⟨by rfl, ?_⟩) trivial ?_
  rotate_left
  · intro w hSw
    go_simp
    try (with_reducible rfl)
  try simp only [Act.put, List.setIfInBounds_toArray, List.set_cons_zero, List.set_cons_succ]
  refine takeD (i := 5) (d := some 22) (v := ?_) rfl rfl (by kernel_rfl) (by kernel_rfl) (by kernel_rfl) (fun _ _ _ h => h) (Or.inl ⟨by rfl, ?_⟩) trivial ?_
  rotate_left
  · intro w hSw
    go_simp
    try (with_reducible rfl)
  try simp only [Act.put, List.setIfInBounds_toArray, List.set_cons_zero, List.set_cons_succ]
  refine takeD (i := 6) (d := some 23) (v := ?_) rfl rfl (by kernel_rfl) (by kernel_rfl) (by kernel_rfl) (fun _ _ _ h => h) (Or.inl ⟨by rfl, ?_⟩) trivial ?_
  rotate_left
  · intro w hSw
    go_simp
    try (with_reducible rfl)
  try simp only [Act.put, List.setIfInBounds_toArray, List.set_cons_zero, List.set_cons_succ]
  refine wpAnyH_ready (rs := [4]) (by kernel_rfl) (by simp) ?_
  refine AllReadyH.cons rfl (fun K hK => ?_) AllReadyH.nil
  go_simp
  go_wp2_with fail
  refine hK.out _ _ trivial (fun _ => ?_)
  clear hK K
  try simp only [Act.put, List.setIfInBounds_toArray, List.set_cons_zero, List.set_cons_succ]
  refine wpAnyH_ready (rs := [7]) (by kernel_rfl) (by simp) ?_
  refine AllReadyH.cons rfl (fun K hK => ?_) AllReadyH.nil
  go_simp
  go_at_call 103
  with_reducible refine (CR _).mono ?_
  (rintro e w8 ⟨rfl, hw8⟩)
  subst hw8
  go_wp2_with fail
  refine hK.out _ _ trivial (fun _ => ?_)
  clear hK K
  try simp only [Act.put, List.setIfInBounds_toArray, List.set_cons_zero, List.set_cons_succ]
  refine wpAnyH_ready (rs := [8]) (by kernel_rfl) (by simp) ?_
  refine AllReadyH.cons rfl (fun K hK => ?_) AllReadyH.nil
  go_simp
  go_wp2_with fail
  refine hK.out _ _ trivial (fun _ => ?_)
  clear hK K
  try simp only [Act.put, List.setIfInBounds_toArray, List.set_cons_zero, List.set_cons_succ]
  refine wpAnyH_ready (rs := [9]) (by kernel_rfl) (by simp) ?_
  refine AllReadyH.cons rfl (fun K hK => ?_) AllReadyH.nil
  go_simp
  go_at_call 78
  with_reducible refine C.mono ?_
  (rintro e w2 ⟨rfl, sv2, hM2, hb2⟩)
  go_wp2_with fail
  refine hK.out _ _ trivial (fun _ => ?_)
  clear hK K
  try simp only [Act.put, List.setIfInBounds_toArray, List.set_cons_zero, List.set_cons_succ]
  refine wpAnyH_done (by kernel_rfl) ?_ _
  refine NoPanic.normal ?_
  go_wp2_with fail
  go_end0
  exact ⟨rfl, sv2, hM2, HB0.out.trans hb2⟩
end Go.Proofs.YtnkfdpnommjlcaaGreatDoor
