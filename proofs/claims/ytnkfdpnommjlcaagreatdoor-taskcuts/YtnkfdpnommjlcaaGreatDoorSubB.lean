/- put of nothing, wait, zero, take, spawn. -/
import Derived.Test.YtnkfdpnommjlcaaGreatDoorOwn
import Derived.Test.YtnkfdpnommjlcaaGreatDoorPm
namespace Go.Proofs.YtnkfdpnommjlcaaGreatDoor
open Go.RowKit Go.ChangeShapes Go.WideShapes Go.ChangeAt Go.Deep

/-- What is cut off the end of a slice of numbers. -/
theorem slice_low (w : World) (a : Option Addr) (n cap l : Nat) (hl : l ≤ n) (hc : n ≤ cap) (xs : List Int) (hx : xs.length = n) (hr : Reads w a (iV xs)) (hnil : a = none → n = 0 ∧ cap = 0) : ∃ a', (∀ w', (Instr.slice 23 (.slice a n cap) (some (.int .i64 (l : Int))) none none).run Tryz.prog w' = .ok (.slice a' (n - l) (cap - l)) w') ∧ Reads w a' (iV (xs.drop l)) ∧ (a' = none → n - l = 0 ∧ cap - l = 0) := by
  have hel : Tryz.prog.underlying 23 = some (.slice (Tryz.prog.elem 23)) := by kernel_rfl
  refine ⟨if cap = l then a else a.map (·.add (l * 1)), fun w' => ?_, ?_, ?_⟩
  · rw [run_slice_l w' 23 a n cap hel .i64 (l : Int) (by omega) (by omega)]
    rw [show Tryz.prog.elem 23 = 3 by kernel_rfl, Tryz.sizeOf3]
    simp only [Result.andThen, sliced, Int.toNat_natCast]
  · by_cases h : l = n
    · left
      have : xs.drop l = [] := List.drop_eq_nil_of_le (by omega)
      rw [this]; rfl
    · rw [if_neg (by omega)]
      rcases hr with hr | ⟨b, off, rfl, hr⟩
      · have : xs = [] := by simpa [iV] using hr
        subst this
        simp at hx
        omega
      · refine .inr ⟨b, off + l, by simp [add_none], fun j u hu => ?_⟩
        rw [Nat.add_assoc]
        refine hr (l + j) u ?_
        have : iV (xs.drop l) = (iV xs).drop l := by simp [iV, List.map_drop]
        rw [this, List.getElem?_drop] at hu
        exact hu
  · intro h
    split at h
    · subst h
      have := hnil rfl
      omega
    · cases a with
      | none => have := hnil rfl; omega
      | some x => simp at h

set_option linter.unusedSimpArgs false in
set_option maxRecDepth 100000 in
set_option maxHeartbeats 1000000 in
/-- put of nothing: the stack is cut, nothing else turns. -/
theorem put_none {B : Bd} {w : World} {m : Nat} {M : Mc} {st lo ar : List Int} (h : Mach B w m M st lo ar) (k : Nat) (hk : k ≤ st.length) (hn : st.length ≤ 100000) (a : Option Addr) (cap : Nat) (e : M.sv = .slice a st.length cap) :
    Calls Tryz.prog 78 #[.pointer (some ⟨m, 0, none⟩), .int .i64 (k : Int), .slice none 0 0] w fun e w' => e = .returned (.tuple #[]) ∧ w' = w.drew.setCell ⟨m, 3, none⟩ (.slice a (st.length - k) cap) := by
  obtain ⟨a0, cap0, e0, h1, h2, h3⟩ := slice_form (n := st.length) h.own rfl
  rw [e] at e0
  simp only [Value.slice.injEq] at e0
  obtain ⟨rfl, _, rfl⟩ := e0
  have c3 := h.cell 3 _ rfl
  have ho := h.own
  rw [e] at c3 ho
  have ho2 : w.drew.ownsRow B 3 1 (.slice a (st.length - k) cap) (st.length - k) (iV (st.take (st.length - k))) := own_belowI (own_cutI ho (by omega)) ((Below.refl _ _).drew)
  have hlt := h.lt
  have hbm := h.bm
  obtain ⟨i0, hi, hz0, hz1, hz2⟩ := info_parts Tryz.info3
  have hrun := run_append_owned_none (P := Tryz.prog) (w := w.drew) B 23 23 3 i0 1 Tryz.underlying23 hi (.slice a (st.length - k) cap) (st.length - k) (iV (st.take (st.length - k))) ho2
  have ks : ∀ w, (Instr.slice 23 (.slice a st.length cap) none (some (.int .i64 ((st.length : Int) - (k : Int)))) none).run Tryz.prog w = .ok (.slice a (st.length - k) cap) w := fun w => by
    rw [show ((st.length : Int) - (k : Int)) = ((st.length - k : Nat) : Int) by omega]
    exact slice_cut w a _ cap _ (by omega)
  have fz : w.frozen? ⟨m, 3, none⟩ = false := h.froz 3
  have wq : IntKind.i64.wrap ((st.length : Int) - (k : Int)) = (st.length : Int) - (k : Int) := wrapi (by omega)
  have c3d : w.drew.cell? ⟨m, 3, none⟩ = some (.slice a st.length cap) := c3
  have fzd : w.drew.frozen? ⟨m, 3, none⟩ = false := fz
  clear ho ho2 h3 h2
  go_enter Tryz.func78, Tryz.ntmps78
  go_wp2_with fail
  refine wp_region_noPanic ?_
  refine wp_region_held_drew (S := fun _ => True) (by kernel_rfl) trivial (fun _ => ?_)
  refine takeD (i := 0) (d := some 6) (v := ?_) rfl rfl (by kernel_rfl) (by kernel_rfl) (by kernel_rfl) (fun _ _ _ h => h) (Or.inl ⟨by rfl, ?_⟩) trivial ?_
  rotate_left
  · intro w hSw
    go_simp
    try (with_reducible rfl)
  try simp only [Act.put, List.setIfInBounds_toArray, List.set_cons_zero, List.set_cons_succ]
  refine takeD (i := 1) (d := some 7) (v := ?_) rfl rfl (by kernel_rfl) (by kernel_rfl) (by kernel_rfl) (fun _ _ _ h => h) (Or.inl ⟨by rfl, ?_⟩) trivial ?_
  rotate_left
  · intro w hSw
    go_simp
    try (with_reducible rfl)
  try simp only [Act.put, List.setIfInBounds_toArray, List.set_cons_zero, List.set_cons_succ]
  refine takeD (i := 2) (d := some 8) (v := ?_) rfl rfl (by kernel_rfl) (by kernel_rfl) (by kernel_rfl) (fun _ _ _ h => h) (Or.inl ⟨by rfl, ?_⟩) trivial ?_
  rotate_left
  · intro w hSw
    go_simp
    try (with_reducible rfl)
  try simp only [Act.put, List.setIfInBounds_toArray, List.set_cons_zero, List.set_cons_succ]
  refine takeD (i := 3) (d := some 9) (v := ?_) rfl rfl (by kernel_rfl) (by kernel_rfl) (by kernel_rfl) (fun _ _ _ h => h) (Or.inl ⟨by rfl, ?_⟩) trivial ?_
  rotate_left
  · intro w hSw
    go_simp
    try (with_reducible rfl)
  try simp only [Act.put, List.setIfInBounds_toArray, List.set_cons_zero, List.set_cons_succ]
  refine takeD (i := 4) (d := some 10) (v := ?_) rfl rfl (by kernel_rfl) (by kernel_rfl) (by kernel_rfl) (fun _ _ _ h => h) (Or.inl ⟨by rfl, ?_⟩) trivial ?_
  rotate_left
  · intro w hSw
    go_simp
    try (with_reducible rfl)
  try simp only [Act.put, List.setIfInBounds_toArray, List.set_cons_zero, List.set_cons_succ]
  refine takeD (i := 6) (d := some 12) (v := ?_) rfl rfl (by kernel_rfl) (by kernel_rfl) (by kernel_rfl) (fun _ _ _ h => h) (Or.inl ⟨by rfl, ?_⟩) trivial ?_
  rotate_left
  · intro w hSw
    go_simp
    try (with_reducible rfl)
  try simp only [Act.put, List.setIfInBounds_toArray, List.set_cons_zero, List.set_cons_succ]
  refine takeD (i := 7) (d := some 13) (v := ?_) rfl rfl (by kernel_rfl) (by kernel_rfl) (by kernel_rfl) (fun _ _ _ h => h) (Or.inl ⟨by rfl, ?_⟩) trivial ?_
  rotate_left
  · intro w hSw
    go_simp
    try (with_reducible rfl)
  try simp only [Act.put, List.setIfInBounds_toArray, List.set_cons_zero, List.set_cons_succ]
  refine takeD (i := 8) (d := some 14) (v := ?_) rfl rfl (by kernel_rfl) (by kernel_rfl) (by kernel_rfl) (fun _ _ _ h => h) (Or.inl ⟨by rfl, ?_⟩) trivial ?_
  rotate_left
  · intro w hSw
    go_simp
    try (with_reducible rfl)
  try simp only [Act.put, List.setIfInBounds_toArray, List.set_cons_zero, List.set_cons_succ]
  refine takeD (i := 9) (d := some 15) (v := ?_) rfl rfl (by kernel_rfl) (by kernel_rfl) (by kernel_rfl) (fun _ _ _ h => h) (Or.inl ⟨by rfl, ?_⟩) trivial ?_
  rotate_left
  · intro w hSw
    go_simp
    try (with_reducible rfl)
  try simp only [Act.put, List.setIfInBounds_toArray, List.set_cons_zero, List.set_cons_succ]
  refine takeD (i := 12) (d := some 18) (v := ?_) rfl rfl (by kernel_rfl) (by kernel_rfl) (by kernel_rfl) (fun _ _ _ h => h) (Or.inl ⟨by rfl, ?_⟩) trivial ?_
  rotate_left
  · intro w hSw
    go_simp
    try (with_reducible rfl)
  try simp only [Act.put, List.setIfInBounds_toArray, List.set_cons_zero, List.set_cons_succ]
  refine takeD (i := 15) (d := some 21) (v := ?_) rfl rfl (by kernel_rfl) (by kernel_rfl) (by kernel_rfl) (fun _ _ _ h => h) (Or.inl ⟨by rfl, ?_⟩) trivial ?_
  rotate_left
  · intro w hSw
    go_simp
    try (with_reducible rfl)
  try simp only [Act.put, List.setIfInBounds_toArray, List.set_cons_zero, List.set_cons_succ]
  refine wpAnyH_ready (rs := [5, 10]) (by kernel_rfl) (by simp) ?_
  refine AllReadyH.cons rfl (fun K hK => ?_) (AllReadyH.cons rfl (fun K hK => ?_) AllReadyH.nil)
  · go_simp
    go_wp2_with fail
    refine hK.out _ _ trivial (fun _ => ?_)
    clear hK K
    try simp only [Act.put, List.setIfInBounds_toArray, List.set_cons_zero, List.set_cons_succ]
    refine wpAnyH_ready (rs := [10]) (by kernel_rfl) (by simp) ?_
    refine AllReadyH.cons rfl (fun K hK => ?_) AllReadyH.nil
    go_simp
    go_wp2_with fail
    refine hK.out _ _ trivial (fun _ => ?_)
    clear hK K
    try simp only [Act.put, List.setIfInBounds_toArray, List.set_cons_zero, List.set_cons_succ]
    refine takeD (i := 11) (d := some 17) (v := ?_) rfl rfl (by kernel_rfl) (by kernel_rfl) (by kernel_rfl) (fun _ _ _ h => h) (Or.inl ⟨by rfl, ?_⟩) trivial ?_
    rotate_left
    · intro w hSw
      go_simp
      try (with_reducible rfl)
    try simp only [Act.put, List.setIfInBounds_toArray, List.set_cons_zero, List.set_cons_succ]
    refine takeD (i := 13) (d := some 19) (v := ?_) rfl rfl (by kernel_rfl) (by kernel_rfl) (by kernel_rfl) (fun _ _ _ h => h) (Or.inl ⟨by rfl, ?_⟩) trivial ?_
    rotate_left
    · intro w hSw
      go_simp
      try (with_reducible rfl)
    try simp only [Act.put, List.setIfInBounds_toArray, List.set_cons_zero, List.set_cons_succ]
    refine takeD (i := 14) (d := some 20) (v := ?_) rfl rfl (by kernel_rfl) (by kernel_rfl) (by kernel_rfl) (fun _ _ _ h => h) (Or.inl ⟨by rfl, ?_⟩) trivial ?_
    rotate_left
    · intro w hSw
      go_simp
      try (with_reducible rfl)
    try simp only [Act.put, List.setIfInBounds_toArray, List.set_cons_zero, List.set_cons_succ]
    refine wpAnyH_ready (rs := [16]) (by kernel_rfl) (by simp) ?_
    refine AllReadyH.cons rfl (fun K hK => ?_) AllReadyH.nil
    refine wp_append_run (.tmp 20) (.tmp 21) rfl rfl rfl hrun ?_
    refine hK.out _ _ trivial (fun _ => ?_)
    clear hK K
    try simp only [Act.put, List.setIfInBounds_toArray, List.set_cons_zero, List.set_cons_succ]
    refine takeD (i := 17) (d := some 23) (v := ?_) rfl rfl (by kernel_rfl) (by kernel_rfl) (by kernel_rfl) (fun _ _ _ h => h) (Or.inl ⟨by rfl, ?_⟩) trivial ?_
    rotate_left
    · intro w hSw
      go_simp
      try (with_reducible rfl)
    try simp only [Act.put, List.setIfInBounds_toArray, List.set_cons_zero, List.set_cons_succ]
    refine takeD (i := 18) (d := some 24) (v := ?_) rfl rfl (by kernel_rfl) (by kernel_rfl) (by kernel_rfl) (fun _ _ _ h => h) (Or.inl ⟨by rfl, ?_⟩) trivial ?_
    rotate_left
    · intro w hSw
      go_simp
      try (with_reducible rfl)
    try simp only [Act.put, List.setIfInBounds_toArray, List.set_cons_zero, List.set_cons_succ]
    refine takeD (i := 19) (d := some 25) (v := ?_) rfl rfl (by kernel_rfl) (by kernel_rfl) (by kernel_rfl) (fun _ _ _ h => h) (Or.inl ⟨by rfl, ?_⟩) trivial ?_
    rotate_left
    · intro w hSw
      go_simp
      try (with_reducible rfl)
    try simp only [Act.put, List.setIfInBounds_toArray, List.set_cons_zero, List.set_cons_succ]
    refine wpAnyH_ready (rs := [20]) (by kernel_rfl) (by simp) ?_
    refine AllReadyH.cons rfl (fun K hK => ?_) AllReadyH.nil
    go_simp
    go_wp2_with fail
    refine hK.out _ _ trivial (fun _ => ?_)
    clear hK K
    try simp only [Act.put, List.setIfInBounds_toArray, List.set_cons_zero, List.set_cons_succ]
    refine wpAnyH_done (by kernel_rfl) ?_ _
    refine NoPanic.normal ?_
    go_wp2_with fail
    go_end0
    exact ⟨rfl, rfl⟩
  · go_simp
    go_wp2_with fail
    refine hK.out _ _ trivial (fun _ => ?_)
    clear hK K
    try simp only [Act.put, List.setIfInBounds_toArray, List.set_cons_zero, List.set_cons_succ]
    refine takeD (i := 11) (d := some 17) (v := ?_) rfl rfl (by kernel_rfl) (by kernel_rfl) (by kernel_rfl) (fun _ _ _ h => h) (Or.inl ⟨by rfl, ?_⟩) trivial ?_
    rotate_left
    · intro w hSw
      go_simp
      try (with_reducible rfl)
    try simp only [Act.put, List.setIfInBounds_toArray, List.set_cons_zero, List.set_cons_succ]
    refine takeD (i := 13) (d := some 19) (v := ?_) rfl rfl (by kernel_rfl) (by kernel_rfl) (by kernel_rfl) (fun _ _ _ h => h) (Or.inl ⟨by rfl, ?_⟩) trivial ?_
    rotate_left
    · intro w hSw
      go_simp
      try (with_reducible rfl)
    try simp only [Act.put, List.setIfInBounds_toArray, List.set_cons_zero, List.set_cons_succ]
    refine wpAnyH_ready (rs := [5]) (by kernel_rfl) (by simp) ?_
    refine AllReadyH.cons rfl (fun K hK => ?_) AllReadyH.nil
    go_simp
    go_wp2_with fail
    refine hK.out _ _ trivial (fun _ => ?_)
    clear hK K
    try simp only [Act.put, List.setIfInBounds_toArray, List.set_cons_zero, List.set_cons_succ]
    refine takeD (i := 14) (d := some 20) (v := ?_) rfl rfl (by kernel_rfl) (by kernel_rfl) (by kernel_rfl) (fun _ _ _ h => h) (Or.inl ⟨by rfl, ?_⟩) trivial ?_
    rotate_left
    · intro w hSw
      go_simp
      try (with_reducible rfl)
    try simp only [Act.put, List.setIfInBounds_toArray, List.set_cons_zero, List.set_cons_succ]
    refine wpAnyH_ready (rs := [16]) (by kernel_rfl) (by simp) ?_
    refine AllReadyH.cons rfl (fun K hK => ?_) AllReadyH.nil
    refine wp_append_run (.tmp 20) (.tmp 21) rfl rfl rfl hrun ?_
    refine hK.out _ _ trivial (fun _ => ?_)
    clear hK K
    try simp only [Act.put, List.setIfInBounds_toArray, List.set_cons_zero, List.set_cons_succ]
    refine takeD (i := 17) (d := some 23) (v := ?_) rfl rfl (by kernel_rfl) (by kernel_rfl) (by kernel_rfl) (fun _ _ _ h => h) (Or.inl ⟨by rfl, ?_⟩) trivial ?_
    rotate_left
    · intro w hSw
      go_simp
      try (with_reducible rfl)
    try simp only [Act.put, List.setIfInBounds_toArray, List.set_cons_zero, List.set_cons_succ]
    refine takeD (i := 18) (d := some 24) (v := ?_) rfl rfl (by kernel_rfl) (by kernel_rfl) (by kernel_rfl) (fun _ _ _ h => h) (Or.inl ⟨by rfl, ?_⟩) trivial ?_
    rotate_left
    · intro w hSw
      go_simp
      try (with_reducible rfl)
    try simp only [Act.put, List.setIfInBounds_toArray, List.set_cons_zero, List.set_cons_succ]
    refine takeD (i := 19) (d := some 25) (v := ?_) rfl rfl (by kernel_rfl) (by kernel_rfl) (by kernel_rfl) (fun _ _ _ h => h) (Or.inl ⟨by rfl, ?_⟩) trivial ?_
    rotate_left
    · intro w hSw
      go_simp
      try (with_reducible rfl)
    try simp only [Act.put, List.setIfInBounds_toArray, List.set_cons_zero, List.set_cons_succ]
    refine wpAnyH_ready (rs := [20]) (by kernel_rfl) (by simp) ?_
    refine AllReadyH.cons rfl (fun K hK => ?_) AllReadyH.nil
    go_simp
    go_wp2_with fail
    refine hK.out _ _ trivial (fun _ => ?_)
    clear hK K
    try simp only [Act.put, List.setIfInBounds_toArray, List.set_cons_zero, List.set_cons_succ]
    refine wpAnyH_done (by kernel_rfl) ?_ _
    refine NoPanic.normal ?_
    go_wp2_with fail
    go_end0
    exact ⟨rfl, rfl⟩
set_option linter.unusedSimpArgs false in
set_option maxRecDepth 100000 in
set_option maxHeartbeats 2000000 in
theorem wait_any {B : Bd} {w : World} {m : Nat} {M : Mc} {sk lo ar : List Int} {x : Int} (h : Mach B w m M (x :: sk).reverse lo ar) (hn : sk.length ≤ 10000) : Calls Tryz.prog 71 #[.pointer (some ⟨m, 0, none⟩)] w fun e w' => e = .returned (.tuple #[]) ∧ Mach B w' m { M with wt := true, ek := 2, ei := x } (x :: sk).reverse lo ar ∧ Below B w w' := by
  have hlt := h.lt
  have hbm := h.bm
  have c6 := h.cell 6 _ rfl
  have f6 := h.froz 6
  have h1 := h.put (M' := { M with wt := true }) 6 (.bool true) rfl rfl rfl rfl
  have hb1 : Below B w (w.setCell ⟨m, 6, none⟩ (.bool true)) := (Below.refl _ _).setCell (p := ⟨m, 6, none⟩) hbm _
  go_enter Tryz.func71, Tryz.ntmps71
  go_upto_region 2 with fail
  clear c6 f6
  generalize w.setCell ⟨m, 6, none⟩ (.bool true) = w1 at *
  have hd := h1.below (show Below w1.heap.size w1 w1 from (Below.refl _ _))
  have hL : Mach B w1 m { M with wt := true } (sk.reverse ++ [x]) lo ar := by simpa using hd
  have CL := last_any hL (by simp; omega)
  have c12 := hd.cell 12 _ rfl
  have f12 := hd.froz 12
  have c14 := hd.cell 14 _ rfl
  have f14 := hd.froz 14
  have h2 := hd.put (M' := { M with wt := true, ek := 2 }) 12 (.int .i64 2) rfl rfl rfl rfl
  have c14' := h2.cell 14 _ rfl
  have f14' := h2.froz 14
  have H3 := hide (h2.put (M' := { M with wt := true, ek := 2, ei := x }) 14 (.int .i64 x) rfl rfl rfl rfl)
  have HB3 := hide (show Below B w ((w1.setCell ⟨m, 12, none⟩ (.int .i64 2)).setCell ⟨m, 14, none⟩ (.int .i64 x)) from (hb1.setCell (p := ⟨m, 12, none⟩) hbm _).setCell (p := ⟨m, 14, none⟩) hbm _)
  clear h h1 hd hL h2
  go_wp2_with (go_at_call 86; go_must (with_reducible refine CL.mono ?_; (rintro e w5 ⟨rfl, hw5⟩); subst hw5))
  go_end0
  exact ⟨rfl, H3.out, HB3.out⟩
set_option linter.unusedSimpArgs false in
set_option maxRecDepth 100000 in
set_option maxHeartbeats 2000000 in
theorem zero_any {B : Bd} {w : World} {m : Nat} {M : Mc} {sk lo ar : List Int} {x : Int} (h : Mach B w m M (x :: sk).reverse lo ar) (tt : Int) (pc : Nat) (hpc : M.pc = (pc : Int)) (hpl : pc ≤ 1000000) (hn : sk.length ≤ 10000) : Calls Tryz.prog 87 #[.pointer (some ⟨m, 0, none⟩), .int .i64 tt] w fun e w' => e = .returned (.tuple #[]) ∧ ∃ sv, Mach B w' m { M with sv := sv, pc := if x = 0 then tt else (pc : Int) + 1 } sk.reverse lo ar ∧ Below B w w' := by
  have hlt := h.lt
  have hbm := h.bm
  have c1 := h.cell 1 _ rfl
  simp only [hpc] at c1
  have f1 := h.froz 1
  have h1 := h.put (M' := { M with pc := (pc : Int) + 1 }) 1 (.int .i64 ((pc : Int) + 1)) rfl rfl rfl rfl
  have hb1 : Below B w (w.setCell ⟨m, 1, none⟩ (.int .i64 ((pc : Int) + 1))) := (Below.refl _ _).setCell (p := ⟨m, 1, none⟩) hbm _
  go_enter Tryz.func87, Tryz.ntmps87
  go_upto_region 1 with fail
  clear c1 f1
  generalize w.setCell ⟨m, 1, none⟩ (.int .i64 ((pc : Int) + 1)) = w1 at *
  have hL : Mach B w1 m { M with pc := (pc : Int) + 1 } (sk.reverse ++ [x]) lo ar := by simpa using h1
  have CL := last_any hL (by simp; omega)
  by_cases hx : x = 0
  · subst hx
    have c1 := h1.cell 1 _ rfl
    have f1 := h1.froz 1
    have h2 := h1.put (M' := { M with pc := tt }) 1 (.int .i64 tt) rfl rfl rfl rfl
    have C : Calls Tryz.prog 78 #[.pointer (some ⟨m, 0, none⟩), .int .i64 1, .slice none 0 0] (w1.setCell ⟨m, 1, none⟩ (.int .i64 tt)) (PutPost B _ m { M with pc := tt } sk.reverse lo ar) := put_rev h2 1 (by simp) (by simp; omega) none 0 0 [] sk (.inl rfl) rfl (fun _ => ⟨rfl, rfl⟩) (by omega) (by simp)
    unfold PutPost at C
    have HB2 := hide (show Below B w (w1.setCell ⟨m, 1, none⟩ (.int .i64 tt)) from hb1.setCell (p := ⟨m, 1, none⟩) hbm _)
    clear h h1 hL h2 hb1
    go_wp2_with (first
      | (go_at_call 86; go_must (with_reducible refine CL.mono ?_; (rintro e w5 ⟨rfl, hw5⟩); subst hw5))
      | (go_at_call 78; go_must (with_reducible refine C.mono ?_; (rintro e w6 ⟨rfl, sv6, h6, hb6⟩))))
    go_end0
    exact ⟨rfl, ⟨sv6, h6⟩, HB2.out.trans hb6⟩
  · have hxb : (x == 0) = false := by simp [hx]
    have C : Calls Tryz.prog 78 #[.pointer (some ⟨m, 0, none⟩), .int .i64 1, .slice none 0 0] w1 (PutPost B _ m { M with pc := (pc : Int) + 1 } sk.reverse lo ar) := put_rev h1 1 (by simp) (by simp; omega) none 0 0 [] sk (.inl rfl) rfl (fun _ => ⟨rfl, rfl⟩) (by omega) (by simp)
    unfold PutPost at C
    clear h h1 hL
    go_wp2_with (first
      | (go_at_call 86; go_must (with_reducible refine CL.mono ?_; (rintro e w5 ⟨rfl, hw5⟩); subst hw5))
      | (go_at_call 78; go_must (with_reducible refine C.mono ?_; (rintro e w6 ⟨rfl, sv6, h6, hb6⟩))))
    go_end0
    exact ⟨rfl, ⟨sv6, h6⟩, hb1.trans hb6⟩
def ZeroQ (B : Bd) (w : World) (m : Nat) (M : Mc) (sk lo ar : List Int) (x n : Int) (pc : Nat) (w' : World) : Prop := ∃ sv, Mach B w' m { M with sv := sv, pc := if x = 0 then n else (pc : Int) + 1 } sk.reverse lo ar ∧ Below B w w'
theorem zero_Q {B : Bd} {w : World} {m : Nat} {M : Mc} {sk lo ar : List Int} {x : Int} (h : Mach B w m M (x :: sk).reverse lo ar) (n : Int) (pc : Nat) (hpc : M.pc = (pc : Int)) (hpl : pc ≤ 1000000) (hn : sk.length ≤ 10000) : Calls Tryz.prog 87 #[.pointer (some ⟨m, 0, none⟩), .int .i64 n] w fun e w' => e = .returned (.tuple #[]) ∧ ZeroQ B w m M sk lo ar x n pc w' := zero_any h n pc hpc hpl hn
/-- The stack is cut. -/
theorem Mach.cut {B : Bd} {w : World} {m : Nat} {M : Mc} {st lo ar : List Int} (h : Mach B w m M st lo ar) (a : Option Addr) (cap k : Nat) (e : M.sv = .slice a st.length cap) : Mach B (w.setCell ⟨m, 3, none⟩ (.slice a (st.length - k) cap)) m { M with sv := .slice a (st.length - k) cap } (st.take (st.length - k)) lo ar := by
  have hk : ∀ g, g ≠ m → (w.setCell ⟨m, 3, none⟩ (.slice a (st.length - k) cap)).heap[g]? = w.heap[g]? := fun g hg => heap_setCell_other _ _ _ _ hg
  have ho := h.own
  rw [e] at ho
  have ho2 := own_cutI ho (show st.length - k ≤ st.length by omega)
  have eb : (Value.slice a (st.length - k) cap).ownBlock = M.sv.ownBlock := by rw [e]; cases a <;> rfl
  refine ⟨?_, h.bm, ?_, ?_, ?_, fun g hg => h.sl g (eb ▸ hg), fun g hg => h.sa g (eb ▸ hg), h.la, ?_⟩
  · rw [heap_setCell_same w m 3 _ 104 _ h.at_]
    simp [Mc.row]
  · have hl2 : (st.take (st.length - k)).length = st.length - k := by simp
    rw [hl2]
    exact own_keepI ho2 (fun g hg => hk g (row_ne ho2 h.at_ g hg))
  · exact own_keepI h.loc (fun g hg => hk g (row_ne h.loc h.at_ g hg))
  · exact own_keepI h.arg (fun g hg => hk g (row_ne h.arg h.at_ g hg))
  · intro k' u hku
    have hq := h.kept k' u hku
    rw [hk k' (fun e => by subst e; rw [h.at_] at hq; simp at hq)]
    exact hq
/-- New arguments are laid. -/
theorem Mach.args {B : Bd} {w : World} {m : Nat} {M : Mc} {st lo ar : List Int} (h : Mach B w m M st lo ar) (v : Value) (xs : List Int) (ho : w.ownsRow B 3 1 v xs.length (iV xs)) (h1 : ∀ g, v.ownBlock = some g → M.sv.ownBlock ≠ some g) (h2 : ∀ g, v.ownBlock = some g → M.lv.ownBlock ≠ some g) : Mach B (w.setCell ⟨m, 16, none⟩ v) m { M with av := v } st lo xs := by
  have hk : ∀ g, g ≠ m → (w.setCell ⟨m, 16, none⟩ v).heap[g]? = w.heap[g]? := fun g hg => heap_setCell_other _ _ _ _ hg
  refine ⟨?_, h.bm, ?_, ?_, ?_, h.sl, fun g hg hv => h1 g hv hg, fun g hg hv => h2 g hv hg, ?_⟩
  · rw [heap_setCell_same w m 16 _ 104 _ h.at_]
    simp [Mc.row]
  · exact own_keepI h.own (fun g hg => hk g (row_ne h.own h.at_ g hg))
  · exact own_keepI h.loc (fun g hg => hk g (row_ne h.loc h.at_ g hg))
  · exact own_keepI ho (fun g hg => hk g (row_ne ho h.at_ g hg))
  · intro k' u hku
    have hq := h.kept k' u hku
    rw [hk k' (fun e => by subst e; rw [h.at_] at hq; simp at hq)]
    exact hq
/-- What take leaves. -/
def TakePost (B : Bd) (w : World) (m : Nat) (M : Mc) (sk lo ar : List Int) (k : Nat) (e : Ending) (w' : World) : Prop := ∃ v sv, e = .returned v ∧ w'.ownsRow B 3 1 v k (iV (sk.take k).reverse) ∧ (∀ g, v.ownBlock = some g → w.heap.size ≤ g) ∧ Mach B w' m { M with sv := sv } (sk.drop k).reverse lo ar ∧ sv.ownBlock = M.sv.ownBlock ∧ Below B w w'
set_option linter.unusedSimpArgs false in
set_option maxRecDepth 100000 in
set_option maxHeartbeats 2000000 in
theorem take_any {B : Bd} {w : World} {m : Nat} {M : Mc} {sk lo ar : List Int} (h : Mach B w m M sk.reverse lo ar) (k : Nat) (hk : k ≤ sk.length) (hn : sk.length ≤ 10000) : Calls Tryz.prog 101 #[.pointer (some ⟨m, 0, none⟩), .int .i64 (k : Int)] w (TakePost B w m M sk lo ar k) := by
  have hlt := h.lt
  have hbm := h.bm
  obtain ⟨a, cap, e, h1, h2, h3⟩ := slice_form (n := sk.length) h.own (by simp)
  have c3 := h.cell 3 _ rfl
  rw [e] at c3
  obtain ⟨a', ks, hr', hnil'⟩ := slice_low w a sk.length cap (sk.length - k) (by omega) h1 sk.reverse (by simp) h3 h2
  have hdr : sk.reverse.drop (sk.length - k) = (sk.take k).reverse := by
    rw [List.drop_reverse]
    congr 2
    omega
  rw [hdr] at hr'
  rw [show sk.length - (sk.length - k) = k by omega] at ks hnil'
  have ks' : ∀ w', (Instr.slice 23 (.slice a sk.length cap) (some (.int .i64 ((sk.length : Int) - (k : Int)))) none none).run Tryz.prog w' = .ok (.slice a' k (cap - (sk.length - k))) w' := fun w' => by
    rw [show ((sk.length : Int) - (k : Int)) = ((sk.length - k : Nat) : Int) by omega]
    exact ks w'
  have hl : (sk.take k).reverse.length = k := by simp; omega
  have C1 := town_any a' (cap - (sk.length - k)) (sk.take k).reverse w.drew hr'.drew (by rw [hl]; exact hnil') (by rw [hl]; omega)
  rw [hl] at C1
  have wq : IntKind.i64.wrap ((sk.length : Int) - (k : Int)) = (sk.length : Int) - (k : Int) := wrapi (by omega)
  have c3d : w.drew.cell? ⟨m, 3, none⟩ = some (.slice a sk.length cap) := c3
  have HFIN := hide (fun (v : Value) (w1 : World) (ho1 : w1.ownsRow w.drew.heap.size 3 1 v k (iV (sk.take k).reverse)) (hb1 : Below w.drew.heap.size w.drew w1) => (show (∀ (k' : Nat), k' = k → Calls Tryz.prog 78 #[.pointer (some ⟨m, 0, none⟩), .int .i64 (k' : Int), .slice none 0 0] w1 fun e w' => e = .returned (.tuple #[]) ∧ TakePost B w m M sk lo ar k (.returned v) w') from by
    intro k' hk'
    subst hk'
    have hb1' : Below w.heap.size w w1 := ⟨hb1.os, hb1.tape, hb1.output, hb1.size, hb1.block⟩
    have hM1 := h.below hb1'
    refine (put_none hM1 k' (by simpa using hk) (by simp; omega) a cap (by simpa using e)).mono ?_
    rintro e' w2 ⟨rfl, rfl⟩
    have hM2 := (hM1.below (show Below w1.heap.size w1 w1.drew from (Below.refl _ _).drew)).cut a cap k' (by simpa using e)
    refine ⟨rfl, v, .slice a (sk.length - k') cap, rfl, ?_, fun g hg => (ho1.lt g hg).1, ?_, ?_, ?_⟩
    · have ho3 : w1.drew.ownsRow B 3 1 v k' (iV (sk.take k').reverse) := own_belowI (own_monoI ho1 (show B.n ≤ w.drew.heap.size by simp; omega)) ((Below.refl _ _).drew)
      exact own_keepI ho3 (fun g hg => heap_setCell_other _ _ _ _ (fun e => by
        have := (ho1.lt g hg).1
        simp at this
        have e' : g = m := e
        omega))
    · simp only [List.length_reverse] at hM2
      rw [rev_take sk k' hk] at hM2
      simpa using hM2
    · rw [e]; cases a <;> rfl
    · simp only [List.length_reverse]
      exact ((hb1'.mono (by omega)).drew).setCell (p := ⟨m, 3, none⟩) hbm _))
  clear h h3 h2 hr' ks hnil'
  go_enter Tryz.func101, Tryz.ntmps101
  go_wp2_with fail
  refine wp_region_noPanic ?_
  refine wp_region_held_drew (S := fun _ => True) (by kernel_rfl) trivial (fun _ => ?_)
  refine takeD (i := 0) (d := some 6) (v := ?_) rfl rfl (by kernel_rfl) (by kernel_rfl) (by kernel_rfl) (fun _ _ _ h => h) (Or.inl ⟨by rfl, ?_⟩) trivial ?_
  rotate_left
  · intro w hSw
    go_simp
    try (with_reducible rfl)
  try simp only [Act.put, List.setIfInBounds_toArray, List.set_cons_zero, List.set_cons_succ]
  refine takeD (i := 1) (d := some 7) (v := ?_) rfl rfl (by kernel_rfl) (by kernel_rfl) (by kernel_rfl) (fun _ _ _ h => h) (Or.inl ⟨by rfl, ?_⟩) trivial ?_
  rotate_left
  · intro w hSw
    go_simp
    try (with_reducible rfl)
  try simp only [Act.put, List.setIfInBounds_toArray, List.set_cons_zero, List.set_cons_succ]
  refine takeD (i := 2) (d := some 8) (v := ?_) rfl rfl (by kernel_rfl) (by kernel_rfl) (by kernel_rfl) (fun _ _ _ h => h) (Or.inl ⟨by rfl, ?_⟩) trivial ?_
  rotate_left
  · intro w hSw
    go_simp
    try (with_reducible rfl)
  try simp only [Act.put, List.setIfInBounds_toArray, List.set_cons_zero, List.set_cons_succ]
  refine takeD (i := 3) (d := some 9) (v := ?_) rfl rfl (by kernel_rfl) (by kernel_rfl) (by kernel_rfl) (fun _ _ _ h => h) (Or.inl ⟨by rfl, ?_⟩) trivial ?_
  rotate_left
  · intro w hSw
    go_simp
    try (with_reducible rfl)
  try simp only [Act.put, List.setIfInBounds_toArray, List.set_cons_zero, List.set_cons_succ]
  refine takeD (i := 5) (d := some 11) (v := ?_) rfl rfl (by kernel_rfl) (by kernel_rfl) (by kernel_rfl) (fun _ _ _ h => h) (Or.inl ⟨by rfl, ?_⟩) trivial ?_
  rotate_left
  · intro w hSw
    go_simp
    try (with_reducible rfl)
  try simp only [Act.put, List.setIfInBounds_toArray, List.set_cons_zero, List.set_cons_succ]
  refine takeD (i := 6) (d := some 12) (v := ?_) rfl rfl (by kernel_rfl) (by kernel_rfl) (by kernel_rfl) (fun _ _ _ h => h) (Or.inl ⟨by rfl, ?_⟩) trivial ?_
  rotate_left
  · intro w hSw
    go_simp
    try (with_reducible rfl)
  try simp only [Act.put, List.setIfInBounds_toArray, List.set_cons_zero, List.set_cons_succ]
  refine takeD (i := 7) (d := some 13) (v := ?_) rfl rfl (by kernel_rfl) (by kernel_rfl) (by kernel_rfl) (fun _ _ _ h => h) (Or.inl ⟨by rfl, ?_⟩) trivial ?_
  rotate_left
  · intro w hSw
    go_simp
    try (with_reducible rfl)
  try simp only [Act.put, List.setIfInBounds_toArray, List.set_cons_zero, List.set_cons_succ]
  refine takeD (i := 8) (d := some 14) (v := ?_) rfl rfl (by kernel_rfl) (by kernel_rfl) (by kernel_rfl) (fun _ _ _ h => h) (Or.inl ⟨by rfl, ?_⟩) trivial ?_
  rotate_left
  · intro w hSw
    go_simp
    try (with_reducible rfl)
  try simp only [Act.put, List.setIfInBounds_toArray, List.set_cons_zero, List.set_cons_succ]
  refine takeD (i := 11) (d := some 17) (v := ?_) rfl rfl (by kernel_rfl) (by kernel_rfl) (by kernel_rfl) (fun _ _ _ h => h) (Or.inl ⟨by rfl, ?_⟩) trivial ?_
  rotate_left
  · intro w hSw
    go_simp
    try (with_reducible rfl)
  try simp only [Act.put, List.setIfInBounds_toArray, List.set_cons_zero, List.set_cons_succ]
  refine wpAnyH_ready (rs := [4, 9]) (by kernel_rfl) (by simp) ?_
  refine AllReadyH.cons rfl (fun K hK => ?_) (AllReadyH.cons rfl (fun K hK => ?_) AllReadyH.nil)
  · go_simp
    go_wp2_with fail
    refine hK.out _ _ trivial (fun _ => ?_)
    clear hK K
    try simp only [Act.put, List.setIfInBounds_toArray, List.set_cons_zero, List.set_cons_succ]
    refine wpAnyH_ready (rs := [9]) (by kernel_rfl) (by simp) ?_
    refine AllReadyH.cons rfl (fun K hK => ?_) AllReadyH.nil
    go_simp
    go_wp2_with fail
    refine hK.out _ _ trivial (fun _ => ?_)
    clear hK K
    try simp only [Act.put, List.setIfInBounds_toArray, List.set_cons_zero, List.set_cons_succ]
    refine takeD (i := 10) (d := some 16) (v := ?_) rfl rfl (by kernel_rfl) (by kernel_rfl) (by kernel_rfl) (fun _ _ _ h => h) (Or.inl ⟨by rfl, ?_⟩) trivial ?_
    rotate_left
    · intro w hSw
      go_simp
      try (with_reducible rfl)
    try simp only [Act.put, List.setIfInBounds_toArray, List.set_cons_zero, List.set_cons_succ]
    refine takeD (i := 12) (d := some 18) (v := ?_) rfl rfl (by kernel_rfl) (by kernel_rfl) (by kernel_rfl) (fun _ _ _ h => h) (Or.inl ⟨by rfl, ?_⟩) trivial ?_
    rotate_left
    · intro w hSw
      go_simp
      try (with_reducible rfl)
    try simp only [Act.put, List.setIfInBounds_toArray, List.set_cons_zero, List.set_cons_succ]
    refine takeD (i := 13) (d := some 19) (v := ?_) rfl rfl (by kernel_rfl) (by kernel_rfl) (by kernel_rfl) (fun _ _ _ h => h) (Or.inl ⟨by rfl, ?_⟩) trivial ?_
    rotate_left
    · intro w hSw
      go_simp
      try (with_reducible rfl)
    try simp only [Act.put, List.setIfInBounds_toArray, List.set_cons_zero, List.set_cons_succ]
    refine wpAnyH_ready (rs := [14]) (by kernel_rfl) (by simp) ?_
    refine AllReadyH.cons rfl (fun K hK => ?_) AllReadyH.nil
    go_simp
    go_at_call 70
    with_reducible refine C1.mono ?_
    (rintro e w1 ⟨v, rfl, ho1, hb1⟩)
    go_wp2_with fail
    refine hK.out _ _ trivial (fun _ => ?_)
    clear hK K
    try simp only [Act.put, List.setIfInBounds_toArray, List.set_cons_zero, List.set_cons_succ]
    refine takeD (i := 15) (d := some 5) (v := ?_) rfl rfl (by kernel_rfl) (by kernel_rfl) (by kernel_rfl) (fun _ _ _ h => h) (Or.inl ⟨by rfl, ?_⟩) trivial ?_
    rotate_left
    · intro w hSw
      go_simp
      try (with_reducible rfl)
    try simp only [Act.put, List.setIfInBounds_toArray, List.set_cons_zero, List.set_cons_succ]
    refine wpAnyH_done (by kernel_rfl) ?_ _
    refine NoPanic.normal ?_
    have CP := HFIN.out v w1 ho1 hb1 k rfl
    clear HFIN C1 ho1 hb1
    go_wp2_with (go_at_call 78; go_must (with_reducible refine CP.mono ?_; (rintro e w6 ⟨rfl, h6⟩)))
    go_ret
    exact h6
  · go_simp
    go_wp2_with fail
    refine hK.out _ _ trivial (fun _ => ?_)
    clear hK K
    try simp only [Act.put, List.setIfInBounds_toArray, List.set_cons_zero, List.set_cons_succ]
    refine takeD (i := 10) (d := some 16) (v := ?_) rfl rfl (by kernel_rfl) (by kernel_rfl) (by kernel_rfl) (fun _ _ _ h => h) (Or.inl ⟨by rfl, ?_⟩) trivial ?_
    rotate_left
    · intro w hSw
      go_simp
      try (with_reducible rfl)
    try simp only [Act.put, List.setIfInBounds_toArray, List.set_cons_zero, List.set_cons_succ]
    refine takeD (i := 12) (d := some 18) (v := ?_) rfl rfl (by kernel_rfl) (by kernel_rfl) (by kernel_rfl) (fun _ _ _ h => h) (Or.inl ⟨by rfl, ?_⟩) trivial ?_
    rotate_left
    · intro w hSw
      go_simp
      try (with_reducible rfl)
    try simp only [Act.put, List.setIfInBounds_toArray, List.set_cons_zero, List.set_cons_succ]
    refine wpAnyH_ready (rs := [4]) (by kernel_rfl) (by simp) ?_
    refine AllReadyH.cons rfl (fun K hK => ?_) AllReadyH.nil
    go_simp
    go_wp2_with fail
    refine hK.out _ _ trivial (fun _ => ?_)
    clear hK K
    try simp only [Act.put, List.setIfInBounds_toArray, List.set_cons_zero, List.set_cons_succ]
    refine takeD (i := 13) (d := some 19) (v := ?_) rfl rfl (by kernel_rfl) (by kernel_rfl) (by kernel_rfl) (fun _ _ _ h => h) (Or.inl ⟨by rfl, ?_⟩) trivial ?_
    rotate_left
    · intro w hSw
      go_simp
      try (with_reducible rfl)
    try simp only [Act.put, List.setIfInBounds_toArray, List.set_cons_zero, List.set_cons_succ]
    refine wpAnyH_ready (rs := [14]) (by kernel_rfl) (by simp) ?_
    refine AllReadyH.cons rfl (fun K hK => ?_) AllReadyH.nil
    go_simp
    go_at_call 70
    with_reducible refine C1.mono ?_
    (rintro e w1 ⟨v, rfl, ho1, hb1⟩)
    go_wp2_with fail
    refine hK.out _ _ trivial (fun _ => ?_)
    clear hK K
    try simp only [Act.put, List.setIfInBounds_toArray, List.set_cons_zero, List.set_cons_succ]
    refine takeD (i := 15) (d := some 5) (v := ?_) rfl rfl (by kernel_rfl) (by kernel_rfl) (by kernel_rfl) (fun _ _ _ h => h) (Or.inl ⟨by rfl, ?_⟩) trivial ?_
    rotate_left
    · intro w hSw
      go_simp
      try (with_reducible rfl)
    try simp only [Act.put, List.setIfInBounds_toArray, List.set_cons_zero, List.set_cons_succ]
    refine wpAnyH_done (by kernel_rfl) ?_ _
    refine NoPanic.normal ?_
    have CP := HFIN.out v w1 ho1 hb1 k rfl
    clear HFIN C1 ho1 hb1
    go_wp2_with (go_at_call 78; go_must (with_reducible refine CP.mono ?_; (rintro e w6 ⟨rfl, h6⟩)))
    go_ret
    exact h6
end Go.Proofs.YtnkfdpnommjlcaaGreatDoor
/- spawn. -/

namespace Go.Proofs.YtnkfdpnommjlcaaGreatDoor
open Go.RowKit Go.ChangeShapes Go.WideShapes Go.ChangeAt Go.Deep

set_option linter.unusedSimpArgs false in
set_option maxRecDepth 100000 in
set_option maxHeartbeats 2000000 in
theorem spawn_deep {B : Bd} {w : World} {m : Nat} {M : Mc} {st lo ar : List Int} (h : Mach B w m M st lo ar) (n deep : Int) (hd : ¬ deep < 12) : Calls Tryz.prog 88 #[.pointer (some ⟨m, 0, none⟩), .int .i64 n, .int .i64 deep] w fun e w' => e = upF 22 0 ∧ Mach B w' m M st lo ar ∧ Below B w w' := by
  have N0 := fun w => tneed_no 22 w
  unfold upF failV at N0
  have hdb : decide (deep < 12) = false := by simpa using hd
  go_enter Tryz.func88, Tryz.ntmps88
  go_wp2_with (go_at_call 24; go_must (with_reducible refine (N0 _).mono ?_; (rintro e w1 ⟨rfl, hw1⟩); subst hw1))
  exact ⟨rfl, rfl, h, Below.refl _ _⟩
set_option linter.unusedSimpArgs false in
set_option maxRecDepth 100000 in
set_option maxHeartbeats 2000000 in
theorem spawn_kids {B : Bd} {w : World} {m : Nat} {M : Mc} {st lo ar : List Int} (h : Mach B w m M st lo ar) (n deep : Int) (hd : deep < 12) (hk : ¬ M.kd < 16) : Calls Tryz.prog 88 #[.pointer (some ⟨m, 0, none⟩), .int .i64 n, .int .i64 deep] w fun e w' => e = upF 23 0 ∧ Mach B w' m M st lo ar ∧ Below B w w' := by
  have N1 := fun w => tneed_yes 22 w
  have N0 := fun w => tneed_no 23 w
  unfold upF failV at N0
  have hkb : decide (M.kd < 16) = false := by simpa using hk
  have c5 := h.cell 5 _ rfl
  go_enter Tryz.func88, Tryz.ntmps88
  go_wp2_with (go_at_call 24; first
    | (with_reducible refine (N1 _).mono ?_; (rintro e w1 ⟨rfl, hw1⟩); subst hw1)
    | (with_reducible refine (N0 _).mono ?_; (rintro e w1 ⟨rfl, hw1⟩); subst hw1))
  exact ⟨rfl, rfl, h, Below.refl _ _⟩
set_option linter.unusedSimpArgs false in
set_option maxRecDepth 100000 in
set_option maxHeartbeats 2000000 in
theorem spawn_any {B : Bd} {w : World} {m : Nat} {M : Mc} {sk lo ar : List Int} {cs : List Value} {fs : List Fun} {args : List Int} {deep : Int} (h : Mach B w m M sk.reverse lo ar) (n0 : Nat) (g : Fun) (hg : fs[n0]? = some g) (k : Nat) (hk : g.args = (k : Int)) (hkl : k ≤ sk.length) (hsk : sk.length ≤ 10000) (hd : deep < 12) (hkd : 0 ≤ M.kd ∧ M.kd < 16) (pc : Nat) (hpc : M.pc = (pc : Int)) (hpl : pc ≤ 1000000) (hbJ : ∃ w0 : World, B.n = w0.heap.size ∧ Below B w0 w ∧ JobR w0 M.j cs fs args) :
    Calls Tryz.prog 88 #[.pointer (some ⟨m, 0, none⟩), .int .i64 (n0 : Int), .int .i64 deep] w fun e w' => e = .returned (.tuple #[]) ∧ ∃ sv av, Mach B w' m { M with ek := 1, ef := (n0 : Int), ei := M.kd, av := av, sv := sv, kd := M.kd + 1, pc := (pc : Int) + 1 } (M.kd :: sk.drop k).reverse lo (sk.take k).reverse ∧ Below B w w' := by
  obtain ⟨w0, hB0, hbw0, hJ0⟩ := hbJ
  have hlt := h.lt
  have hbm := h.bm
  have N1 := fun w => tneed_yes 22 w
  have N2 := fun w => tneed_yes 23 w
  have c5 := h.cell 5 _ rfl
  go_enter Tryz.func88, Tryz.ntmps88
  go_upto_region 2 with (go_at_call 24; first
    | (with_reducible refine (N1 _).mono ?_; (rintro e w1 ⟨rfl, hw1⟩); have hw2 := hw1.symm; subst hw2)
    | (with_reducible refine (N2 _).mono ?_; (rintro e w1 ⟨rfl, hw1⟩); have hw2 := hw1.symm; subst hw2))
  have c12 := h.cell 12 _ rfl
  have f12 := h.froz 12
  have h1 := h.put (M' := { M with ek := 1 }) 12 (.int .i64 1) rfl rfl rfl rfl
  have c13 := h1.cell 13 _ rfl
  have f13 := h1.froz 13
  have h2 := h1.put (M' := { M with ek := 1, ef := (n0 : Int) }) 13 (.int .i64 (n0 : Int)) rfl rfl rfl rfl
  have c14 := h2.cell 14 _ rfl
  have f14 := h2.froz 14
  have h3 := h2.put (M' := { M with ek := 1, ef := (n0 : Int), ei := M.kd }) 14 (.int .i64 M.kd) rfl rfl rfl rfl
  have hb3 : Below B w (((w.setCell ⟨m, 12, none⟩ (.int .i64 1)).setCell ⟨m, 13, none⟩ (.int .i64 (n0 : Int))).setCell ⟨m, 14, none⟩ (.int .i64 M.kd)) := (((Below.refl _ _).setCell (p := ⟨m, 12, none⟩) hbm _).setCell (p := ⟨m, 13, none⟩) hbm _).setCell (p := ⟨m, 14, none⟩) hbm _
  clear h1 h2
  go_upto_region 3 with fail
  clear c5 c12 f12 c13 f13 c14 f14
  generalize (((w.setCell ⟨m, 12, none⟩ (.int .i64 1)).setCell ⟨m, 13, none⟩ (.int .i64 (n0 : Int))).setCell ⟨m, 14, none⟩ (.int .i64 M.kd)) = w3 at *
  have hJ3 : JobR w3 M.j cs fs args := hJ0.below (hB0 ▸ (hbw0.trans hb3))
  have hfl2 : n0 < fs.length := (List.getElem?_eq_some_iff.1 hg).1
  obtain ⟨fb, off, ca, cc, ea, _, k1, _, k3, hrc, _⟩ := hJ3.fun_at hfl2
  have efn : fs[n0] = g := (List.getElem?_eq_some_iff.1 hg).2
  rw [efn, hk] at k1
  have c7 := h3.cell 7 _ rfl
  simp only [ea, hJ3.nf] at c7
  have hfl3 : (n0 : Int) < (fs.length : Int) := by omega
  have c7d : w3.drew.cell? ⟨m, 7, none⟩ = some (.slice (some ⟨fb, off, none⟩) fs.length M.j.fc) := c7
  have k1d : w3.drew.cell? ⟨fb, off + n0 * 4 + 1, none⟩ = some (.int .i64 (k : Int)) := k1
  have h3d := h3.below (show Below w3.heap.size w3 w3.drew from (Below.refl _ _).drew)
  have CT := take_any h3d k hkl hsk
  unfold TakePost at CT
  have HB3 := hide hb3
  have SVLT := hide (fun (g : Nat) (hg : M.sv.ownBlock = some g) => (h3d.own.lt g hg).2)
  have LVLT := hide (fun (g : Nat) (hg : M.lv.ownBlock = some g) => (h3d.loc.lt g hg).2)
  have hs3 := hb3.size
  clear h h3 hJ3 hrc hJ0 hbw0 hb3 h3d hB0
  go_wp2_with fail
  refine wp_region_noPanic ?_
  refine wp_region_held_drew (S := fun _ => True) (by kernel_rfl) trivial (fun _ => ?_)
  refine takeD (i := 0) (d := some 36) (v := ?_) rfl rfl (by kernel_rfl) (by kernel_rfl) (by kernel_rfl) (fun _ _ _ h => h) (Or.inl ⟨by rfl, ?_⟩) trivial ?_
  rotate_left
  · intro w hSw
    go_simp
    try (with_reducible rfl)
  try simp only [Act.put, List.setIfInBounds_toArray, List.set_cons_zero, List.set_cons_succ]
  refine takeD (i := 1) (d := some 37) (v := ?_) rfl rfl (by kernel_rfl) (by kernel_rfl) (by kernel_rfl) (fun _ _ _ h => h) (Or.inl ⟨by rfl, ?_⟩) trivial ?_
  rotate_left
  · intro w hSw
    go_simp
    try (with_reducible rfl)
  try simp only [Act.put, List.setIfInBounds_toArray, List.set_cons_zero, List.set_cons_succ]
  refine takeD (i := 2) (d := some 38) (v := ?_) rfl rfl (by kernel_rfl) (by kernel_rfl) (by kernel_rfl) (fun _ _ _ h => h) (Or.inl ⟨by rfl, ?_⟩) trivial ?_
  rotate_left
  · intro w hSw
    go_simp
    try (with_reducible rfl)
  try simp only [Act.put, List.setIfInBounds_toArray, List.set_cons_zero, List.set_cons_succ]
  refine takeD (i := 3) (d := some 39) (v := ?_) rfl rfl (by kernel_rfl) (by kernel_rfl) (by kernel_rfl) (fun _ _ _ h => h) (Or.inl ⟨by rfl, ?_⟩) trivial ?_
  rotate_left
  · intro w hSw
    go_simp
    try (with_reducible rfl)
  try simp only [Act.put, List.setIfInBounds_toArray, List.set_cons_zero, List.set_cons_succ]
  refine takeD (i := 4) (d := some 40) (v := ?_) rfl rfl (by kernel_rfl) (by kernel_rfl) (by kernel_rfl) (fun _ _ _ h => h) (Or.inl ⟨by rfl, ?_⟩) trivial ?_
  rotate_left
  · intro w hSw
    go_simp
    try (with_reducible rfl)
  try simp only [Act.put, List.setIfInBounds_toArray, List.set_cons_zero, List.set_cons_succ]
  refine takeD (i := 5) (d := some 41) (v := ?_) rfl rfl (by kernel_rfl) (by kernel_rfl) (by kernel_rfl) (fun _ _ _ h => h) (Or.inl ⟨by rfl, ?_⟩) trivial ?_
  rotate_left
  · intro w hSw
    go_simp
    try (with_reducible rfl)
  try simp only [Act.put, List.setIfInBounds_toArray, List.set_cons_zero, List.set_cons_succ]
  refine takeD (i := 6) (d := some 42) (v := ?_) rfl rfl (by kernel_rfl) (by kernel_rfl) (by kernel_rfl) (fun _ _ _ h => h) (Or.inl ⟨by rfl, ?_⟩) trivial ?_
  rotate_left
  · intro w hSw
    go_simp
    try (with_reducible rfl)
  try simp only [Act.put, List.setIfInBounds_toArray, List.set_cons_zero, List.set_cons_succ]
  refine takeD (i := 7) (d := some 43) (v := ?_) rfl rfl (by kernel_rfl) (by kernel_rfl) (by kernel_rfl) (fun _ _ _ h => h) (Or.inl ⟨by rfl, ?_⟩) trivial ?_
  rotate_left
  · intro w hSw
    go_simp
    try (with_reducible rfl)
  try simp only [Act.put, List.setIfInBounds_toArray, List.set_cons_zero, List.set_cons_succ]
  refine takeD (i := 9) (d := some 45) (v := ?_) rfl rfl (by kernel_rfl) (by kernel_rfl) (by kernel_rfl) (fun _ _ _ h => h) (Or.inl ⟨by rfl, ?_⟩) trivial ?_
  rotate_left
  · intro w hSw
    go_simp
    try (with_reducible rfl)
  try simp only [Act.put, List.setIfInBounds_toArray, List.set_cons_zero, List.set_cons_succ]
  refine wpAnyH_ready (rs := [8]) (by kernel_rfl) (by simp) ?_
  refine AllReadyH.cons rfl (fun K hK => ?_) AllReadyH.nil
  go_simp
  go_wp2_with fail
  refine hK.out _ _ trivial (fun _ => ?_)
  clear hK K
  try simp only [Act.put, List.setIfInBounds_toArray, List.set_cons_zero, List.set_cons_succ]
  refine takeD (i := 10) (d := some 46) (v := ?_) rfl rfl (by kernel_rfl) (by kernel_rfl) (by kernel_rfl) (fun _ _ _ h => h) (Or.inl ⟨by rfl, ?_⟩) trivial ?_
  rotate_left
  · intro w hSw
    go_simp
    try (with_reducible rfl)
  try simp only [Act.put, List.setIfInBounds_toArray, List.set_cons_zero, List.set_cons_succ]
  refine takeD (i := 11) (d := some 47) (v := ?_) rfl rfl (by kernel_rfl) (by kernel_rfl) (by kernel_rfl) (fun _ _ _ h => h) (Or.inl ⟨by rfl, ?_⟩) trivial ?_
  rotate_left
  · intro w hSw
    go_simp
    try (with_reducible rfl)
  try simp only [Act.put, List.setIfInBounds_toArray, List.set_cons_zero, List.set_cons_succ]
  refine wpAnyH_ready (rs := [12]) (by kernel_rfl) (by simp) ?_
  refine AllReadyH.cons rfl (fun K hK => ?_) AllReadyH.nil
  go_simp
  go_wp2_with fail
  refine hK.out _ _ trivial (fun _ => ?_)
  clear hK K
  try simp only [Act.put, List.setIfInBounds_toArray, List.set_cons_zero, List.set_cons_succ]
  refine wpAnyH_ready (rs := [13]) (by kernel_rfl) (by simp) ?_
  refine AllReadyH.cons rfl (fun K hK => ?_) AllReadyH.nil
  go_simp
  go_at_call 101
  with_reducible refine CT.mono ?_
  (rintro e w4 ⟨v, sv4, rfl, ho4, hn4, hM4, hs4, hb4⟩)
  refine Hid.out ?_
  refine Lib.hid ?_
  obtain ⟨va, vc, rfl, _⟩ := slice_form (st := (sk.take k).reverse) (n := k) (B := B.n) (w := w4) (by rw [show (sk.take k).reverse.length = k by simp; omega]; exact ho4) (by simp; omega)
  have c16 := hM4.cell 16 _ rfl
  have f16 := hM4.froz 16
  go_wp2_with fail
  refine hK.out _ _ trivial (fun _ => ?_)
  clear hK K
  try simp only [Act.put, List.setIfInBounds_toArray, List.set_cons_zero, List.set_cons_succ]
  refine takeD (i := 14) (d := some 50) (v := ?_) rfl rfl (by kernel_rfl) (by kernel_rfl) (by kernel_rfl) (fun _ _ _ h => h) (Or.inl ⟨by rfl, ?_⟩) trivial ?_
  rotate_left
  · intro w hSw
    go_simp
    try (with_reducible rfl)
  try simp only [Act.put, List.setIfInBounds_toArray, List.set_cons_zero, List.set_cons_succ]
  refine takeD (i := 15) (d := some 51) (v := ?_) rfl rfl (by kernel_rfl) (by kernel_rfl) (by kernel_rfl) (fun _ _ _ h => h) (Or.inl ⟨by rfl, ?_⟩) trivial ?_
  rotate_left
  · intro w hSw
    go_simp
    try (with_reducible rfl)
  try simp only [Act.put, List.setIfInBounds_toArray, List.set_cons_zero, List.set_cons_succ]
  refine takeD (i := 16) (d := some 52) (v := ?_) rfl rfl (by kernel_rfl) (by kernel_rfl) (by kernel_rfl) (fun _ _ _ h => h) (Or.inl ⟨by rfl, ?_⟩) trivial ?_
  rotate_left
  · intro w hSw
    go_simp
    try (with_reducible rfl)
  try simp only [Act.put, List.setIfInBounds_toArray, List.set_cons_zero, List.set_cons_succ]
  refine wpAnyH_ready (rs := [17]) (by kernel_rfl) (by simp) ?_
  refine AllReadyH.cons rfl (fun K hK => ?_) AllReadyH.nil
  go_simp
  go_wp2_with fail
  refine hK.out _ _ trivial (fun _ => ?_)
  clear hK K
  try simp only [Act.put, List.setIfInBounds_toArray, List.set_cons_zero, List.set_cons_succ]
  refine wpAnyH_done (by kernel_rfl) ?_ _
  refine NoPanic.normal ?_
  have h5 := hM4.args (.slice va k vc) (sk.take k).reverse (by rw [show (sk.take k).reverse.length = k by simp; omega]; exact ho4) (fun g hg hh => by have q1 := hn4 g hg; rw [show ({ M with ek := 1, ef := (n0 : Int), ei := M.kd, sv := sv4 } : Mc).sv.ownBlock = M.sv.ownBlock from hs4] at hh; have q2 := (SVLT.out g hh); simp at q1 q2; omega) (fun g hg hh => by have q1 := hn4 g hg; have q2 := (LVLT.out g hh); simp at q1 q2; omega)
  have hb5 : Below B w (w4.setCell ⟨m, 16, none⟩ (.slice va k vc)) := ((HB3.out.drew).trans hb4).setCell (p := ⟨m, 16, none⟩) hbm _
  clear CT c16 f16 hM4 ho4 hn4 hs4 hb4 c7 c7d k1 k1d SVLT LVLT HB3
  generalize w4.setCell ⟨m, 16, none⟩ (.slice va k vc) = w5 at *
  have hlt5 := h5.lt
  have hb6 : Below w5.heap.size w5 (w5.alloc (.cells #[.int .i64 M.kd] 3)).drew := ((Below.refl _ _).alloc (Nat.le_refl _) _).drew
  have C5 : Calls Tryz.prog 78 #[.pointer (some ⟨m, 0, none⟩), .int .i64 0, .slice (some ⟨w5.heap.size, 0, none⟩) 1 1] (w5.alloc (.cells #[.int .i64 M.kd] 3)).drew (PutPost B _ m _ (M.kd :: sk.drop k).reverse lo (sk.take k).reverse) := put_rev (h5.below hb6) 0 (by omega) (by simp; omega) (some ⟨w5.heap.size, 0, none⟩) 1 1 [M.kd] (M.kd :: sk.drop k) (Reads.drew (reads_new1 _ M.kd)) rfl (fun h => by cases h) (by omega) (by simp)
  unfold PutPost at C5
  have c5 := h5.cell 5 _ rfl
  have c5d : w5.drew.cell? ⟨m, 5, none⟩ = some (.int .i64 M.kd) := c5
  have HB5 := hide (hb5.trans (hb6.mono (by omega)))
  clear h5 hb6 hb5
  go_wp2_with fail
  refine wp_region_noPanic ?_
  refine wp_region_held_drew (S := fun _ => True) (by kernel_rfl) trivial (fun _ => ?_)
  refine takeD (i := 0) (d := some 53) (v := ?_) rfl rfl (by kernel_rfl) (by kernel_rfl) (by kernel_rfl) (fun _ _ _ h => h) (Or.inl ⟨by rfl, ?_⟩) trivial ?_
  rotate_left
  · intro w hSw
    go_simp
    try (with_reducible rfl)
  try simp only [Act.put, List.setIfInBounds_toArray, List.set_cons_zero, List.set_cons_succ]
  refine takeD (i := 1) (d := some 54) (v := ?_) rfl rfl (by kernel_rfl) (by kernel_rfl) (by kernel_rfl) (fun _ _ _ h => h) (Or.inl ⟨by rfl, ?_⟩) trivial ?_
  rotate_left
  · intro w hSw
    go_simp
    try (with_reducible rfl)
  try simp only [Act.put, List.setIfInBounds_toArray, List.set_cons_zero, List.set_cons_succ]
  refine takeD (i := 2) (d := some 55) (v := ?_) rfl rfl (by kernel_rfl) (by kernel_rfl) (by kernel_rfl) (fun _ _ _ h => h) (Or.inl ⟨by rfl, ?_⟩) trivial ?_
  rotate_left
  · intro w hSw
    go_simp
    try (with_reducible rfl)
  try simp only [Act.put, List.setIfInBounds_toArray, List.set_cons_zero, List.set_cons_succ]
  refine takeD (i := 3) (d := some 56) (v := ?_) rfl rfl (by kernel_rfl) (by kernel_rfl) (by kernel_rfl) (fun _ _ _ h => h) (Or.inl ⟨by rfl, ?_⟩) trivial ?_
  rotate_left
  · intro w hSw
    go_simp
    try (with_reducible rfl)
  try simp only [Act.put, List.setIfInBounds_toArray, List.set_cons_zero, List.set_cons_succ]
  refine takeD (i := 4) (d := some 57) (v := ?_) rfl rfl (by kernel_rfl) (by kernel_rfl) (by kernel_rfl) (fun _ _ _ h => h) (Or.inl ⟨by rfl, ?_⟩) trivial ?_
  rotate_left
  · intro w hSw
    go_simp
    try (with_reducible rfl)
  try simp only [Act.put, List.setIfInBounds_toArray, List.set_cons_zero, List.set_cons_succ]
  refine takeD (i := 5) (d := some 58) (v := ?_) rfl rfl (by kernel_rfl) (by kernel_rfl) (by kernel_rfl) (fun _ _ _ h => h) (Or.inl ⟨by rfl, ?_⟩) trivial ?_
  rotate_left
  · intro w hSw
    go_simp
    try (with_reducible rfl)
  try simp only [Act.put, List.setIfInBounds_toArray, List.set_cons_zero, List.set_cons_succ]
  refine takeD (i := 6) (d := some 59) (v := ?_) rfl rfl (by kernel_rfl) (by kernel_rfl) (by kernel_rfl) (fun _ _ _ h => h) (Or.inl ⟨by rfl, ?_⟩) trivial ?_
  rotate_left
  · intro w hSw
    go_simp
    try (with_reducible rfl)
  try simp only [Act.put, List.setIfInBounds_toArray, List.set_cons_zero, List.set_cons_succ]
  refine takeD (i := 7) (d := some 60) (v := ?_) rfl rfl (by kernel_rfl) (by kernel_rfl) (by kernel_rfl) (fun _ _ _ h => h) (Or.inl ⟨by rfl, ?_⟩) trivial ?_
  rotate_left
  · intro w hSw
    go_simp
    try (with_reducible rfl)
  try simp only [Act.put, List.setIfInBounds_toArray, List.set_cons_zero, List.set_cons_succ]
  refine wpAnyH_ready (rs := [8]) (by kernel_rfl) (by simp) ?_
  refine AllReadyH.cons rfl (fun K hK => ?_) AllReadyH.nil
  go_simp
  go_wp2_with fail
  refine hK.out _ _ trivial (fun _ => ?_)
  clear hK K
  try simp only [Act.put, List.setIfInBounds_toArray, List.set_cons_zero, List.set_cons_succ]
  refine wpAnyH_ready (rs := [9]) (by kernel_rfl) (by simp) ?_
  refine AllReadyH.cons rfl (fun K hK => ?_) AllReadyH.nil
  go_simp
  go_wp2_with fail
  refine hK.out _ _ trivial (fun _ => ?_)
  clear hK K
  try simp only [Act.put, List.setIfInBounds_toArray, List.set_cons_zero, List.set_cons_succ]
  refine wpAnyH_ready (rs := [10]) (by kernel_rfl) (by simp) ?_
  refine AllReadyH.cons rfl (fun K hK => ?_) AllReadyH.nil
  go_simp
  go_at_call 78
  with_reducible refine C5.mono ?_
  (rintro e w6 ⟨rfl, sv6, h6, hb6⟩)
  go_wp2_with fail
  refine hK.out _ _ trivial (fun _ => ?_)
  clear hK K
  try simp only [Act.put, List.setIfInBounds_toArray, List.set_cons_zero, List.set_cons_succ]
  refine wpAnyH_done (by kernel_rfl) ?_ _
  refine NoPanic.normal ?_
  have c5 := h6.cell 5 _ rfl
  have f5 := h6.froz 5
  have h7 := h6.put (M' := { M with ek := 1, ef := (n0 : Int), ei := M.kd, sv := sv6, av := .slice va k vc, kd := M.kd + 1 }) 5 (.int .i64 (M.kd + 1)) rfl rfl rfl rfl
  have c1 := h7.cell 1 _ rfl
  simp only [hpc] at c1
  have f1 := h7.froz 1
  have h8 := h7.put (M' := { M with ek := 1, ef := (n0 : Int), ei := M.kd, sv := sv6, av := .slice va k vc, kd := M.kd + 1, pc := (pc : Int) + 1 }) 1 (.int .i64 ((pc : Int) + 1)) rfl rfl rfl rfl
  have HB8 := hide (show Below B w ((w6.setCell ⟨m, 5, none⟩ (.int .i64 (M.kd + 1))).setCell ⟨m, 1, none⟩ (.int .i64 ((pc : Int) + 1))) from ((HB5.out.trans hb6).setCell (p := ⟨m, 5, none⟩) hbm _).setCell (p := ⟨m, 1, none⟩) hbm _)
  have H8 := hide h8
  clear h6 h7 h8 C5 hb6
  go_wp2_with fail
  go_end0
  exact ⟨rfl, ⟨sv6, .slice va k vc, by simpa using H8.out⟩, HB8.out⟩
end Go.Proofs.YtnkfdpnommjlcaaGreatDoor
