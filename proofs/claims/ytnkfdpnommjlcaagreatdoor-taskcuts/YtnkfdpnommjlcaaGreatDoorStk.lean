/- top, last, lastTwo, put, own, take. -/
import Derived.Test.YtnkfdpnommjlcaaGreatDoorMach
namespace Go.Proofs.YtnkfdpnommjlcaaGreatDoor
open Go.RowKit Go.ChangeShapes Go.WideShapes Go.ChangeAt Go.Deep

theorem wrapi {n : Int} (h : -9223372036854775808 ≤ n ∧ n ≤ 9223372036854775807) : IntKind.i64.wrap n = n := by
  unfold IntKind.wrap
  simp [IntKind.signed, IntKind.bits]
  omega
theorem below_drewN' {B : Nat} {w w' : World} (h : Below B w w') (n : Nat) : Below B w (w'.drewN n) := ⟨h.os, h.tape, h.output, h.size, h.block⟩
theorem reads_iV {w : World} {a : Option Addr} {l : List Int} {k : Nat} {x : Int} (h : Reads w a (iV l)) (hk : l[k]? = some x) : ∃ b off, a = some ⟨b, off, none⟩ ∧ w.cell? ⟨b, off + k, none⟩ = some (.int .i64 x) := by
  rcases h with h | ⟨b, off, e, h⟩
  · have : l = [] := by simpa [iV] using h
    subst this; simp at hk
  · exact ⟨b, off, e, h k _ (by simp [iV, hk])⟩

set_option maxRecDepth 100000 in
set_option maxHeartbeats 1000000 in
theorem top_any (a : Option Addr) (cap : Nat) (st : List Int) (x : Int) (w : World) (hr : Reads w a (iV (st ++ [x]))) (hn : st.length ≤ 1000000) : Calls Tryz.prog 33 #[.slice a (st.length + 1) cap] w fun e w' => e = .returned (.int .i64 x) ∧ w' = w := by
  obtain ⟨b, off, rfl, c⟩ := reads_iV (k := st.length) (x := x) hr (by simp)
  go_enter Tryz.func33, Tryz.ntmps33
  go_wp2
  go_ret
  exact ⟨rfl, rfl⟩

theorem slice_form {w : World} {B : Nat} {v : Value} {st : List Int} {n : Nat} (ho : w.ownsRow B 3 1 v st.length (iV st)) (hn : st.length = n) : ∃ a cap, v = .slice a n cap ∧ n ≤ cap ∧ (a = none → n = 0 ∧ cap = 0) ∧ Reads w a (iV st) := by
  subst hn
  obtain ⟨a, cap, e, h1, h2, h3, _⟩ := own_formI ho
  exact ⟨a, cap, e, h1, h2, h3⟩

set_option maxRecDepth 100000 in
set_option maxHeartbeats 1000000 in
theorem last_any {B : Bd} {w : World} {m : Nat} {M : Mc} {st lo ar : List Int} {x : Int} (h : Mach B w m M (st ++ [x]) lo ar) (hn : st.length ≤ 1000000) : Calls Tryz.prog 86 #[.pointer (some ⟨m, 0, none⟩)] w fun e w' => e = .returned (.int .i64 x) ∧ w' = w := by
  obtain ⟨a, cap, e, h1, h2, h3⟩ := slice_form (n := st.length + 1) h.own (by simp)
  have c3 := h.cell 3 _ rfl
  rw [e] at c3
  have C := top_any a cap st x w h3 hn
  go_enter Tryz.func86, Tryz.ntmps86
  go_wp2_with (go_at_call 33; go_must (with_reducible refine C.mono ?_; (rintro e w1 ⟨rfl, hw1⟩); subst hw1))
  go_ret
  exact ⟨rfl, rfl⟩

set_option maxRecDepth 100000 in
set_option maxHeartbeats 1000000 in
theorem lastTwo_any {B : Bd} {w : World} {m : Nat} {M : Mc} {st lo ar : List Int} {x y : Int} (h : Mach B w m M (st ++ [x, y]) lo ar) (hn : st.length ≤ 100000) : Calls Tryz.prog 102 #[.pointer (some ⟨m, 0, none⟩)] w fun e w' => e = .returned (.tuple #[.int .i64 x, .int .i64 y]) ∧ Below w.heap.size w w' := by
  obtain ⟨a, cap, e, h1, h2, h3⟩ := slice_form (n := st.length + 2) h.own (by simp)
  have c3 := h.cell 3 _ rfl
  rw [e] at c3
  obtain ⟨b, off, rfl, cx⟩ := reads_iV (k := st.length) (x := x) h3 (by simp)
  have hd : ∀ n, Mach B (w.drewN n) m M ((st ++ [x]) ++ [y]) lo ar := fun n => by
    have h' : Mach B w m M ((st ++ [x]) ++ [y]) lo ar := by simpa using h
    exact h'.below (below_drewN' (Below.refl _ _) n)
  have C := fun n => last_any (hd n) (by simp; omega)
  have wq : IntKind.i64.wrap (((st.length : Int) + 2) - 2) = (st.length : Int) := by rw [wrapi (by omega)]; omega
  clear h hd
  go_enter Tryz.func102, Tryz.ntmps102
  go_wp2_with fail
  go_big_quiet (first | (go_at_call 86; with_reducible exact Calls.quiet_of_same (C _)))
  go_wp2_with fail
  exact bodyPost_ret (v := .tuple #[.int .i64 x, .int .i64 y]) (by simp [results, Tryz.results102, go_sem]) rfl ⟨rfl, below_drewN' (Below.refl _ _) _⟩

theorem slice_cut (w : World) (a : Option Addr) (n cap k : Nat) (hk : k ≤ cap) : (Instr.slice 23 (.slice a n cap) none (some (.int .i64 (k : Int))) none).run Tryz.prog w = .ok (.slice a k cap) w := by
  have hel : Tryz.prog.underlying 23 = some (.slice (Tryz.prog.elem 23)) := by kernel_rfl
  rw [run_slice_h w 23 a n cap hel .i64 (k : Int) (by omega) (by omega)]
  rw [show Tryz.prog.elem 23 = 3 by kernel_rfl, Tryz.sizeOf3]
  simp only [Result.andThen, sliced, Int.toNat_natCast, Nat.zero_mul, Nat.sub_zero]
  rw [show (a.map fun x => x.add 0) = a by cases a <;> simp [Addr.add_zero']]
  split <;> rfl
theorem wp_append_run {w w' : World} {o : Oper} {a : Act} {K : Act → World → Prop} {Q : Exit → Act → World → Prop} {v vx v' : Value} (s x : Operand)
    (ho : o.op = .call { callee := .builtin .append, args := #[s, x], argTypes := #[23, 23] }) (hs : a.eval s = v) (hx : a.eval x = vx)
    (hrun : (Builtin.append_ #[23, 23] o.type #[v, vx]).run Tryz.prog w = .ok v' w') (h : K (a.put o.dst v') w') : Oper.wp Tryz.prog o a w K Q := by
  unfold Oper.wp
  simp [execOp, ho, resolve, invoke, builtin, hs, hx, hrun, Result.andThen]
  exact h
/-- What put leaves. -/
def PutPost (B : Bd) (w : World) (m : Nat) (M : Mc) (st lo ar : List Int) (e : Ending) (w' : World) : Prop := e = .returned (.tuple #[]) ∧ ∃ sv, Mach B w' m { M with sv := sv } st lo ar ∧ Below B w w'

set_option linter.unusedSimpArgs false in
set_option maxRecDepth 100000 in
set_option maxHeartbeats 1000000 in
theorem put_any {B : Bd} {w : World} {m : Nat} {M : Mc} {st lo ar : List Int} (h : Mach B w m M st lo ar) (k : Nat) (hk : k ≤ st.length) (hn : st.length ≤ 100000) (va : Option Addr) (nv cv : Nat) (ys : List Int) (hr : Reads w va (iV ys)) (hy : ys.length = nv) (hnil : va = none → nv = 0 ∧ cv = 0) (hnv : nv ≤ 100000) :
    Calls Tryz.prog 78 #[.pointer (some ⟨m, 0, none⟩), .int .i64 (k : Int), .slice va nv cv] w (PutPost B w m M (st.take (st.length - k) ++ ys) lo ar) := by
  obtain ⟨a, cap, e, h1, h2, h3⟩ := slice_form (n := st.length) h.own rfl
  have c3 := h.cell 3 _ rfl
  have ho := h.own
  rw [e] at c3 ho
  have ho2 : w.drew.ownsRow B 3 1 (.slice a (st.length - k) cap) (st.length - k) (iV (st.take (st.length - k))) := own_belowI (own_cutI ho (by omega)) ((Below.refl _ _).drew)
  have hlt := h.lt
  have hbm := h.bm
  obtain ⟨v', w', hrun, hown', hg, hwh⟩ := run_append_where w.drew B _ _ _ ys va nv cv ho2 hnil hy hr.drew (by omega) (by simp; omega)
  have ks : ∀ w, (Instr.slice 23 (.slice a st.length cap) none (some (.int .i64 ((st.length : Int) - (k : Int)))) none).run Tryz.prog w = .ok (.slice a (st.length - k) cap) w := fun w => by
    rw [show ((st.length : Int) - (k : Int)) = ((st.length - k : Nat) : Int) by omega]
    exact slice_cut w a _ cap _ (by omega)
  -- THE WALK
  have hat' : w'.heap[m]? = some (.cells M.row.toArray 104 (0, 0)) := by
    rw [hg.block m (by simpa using hlt) (fun e => row_ne ho2 (w := w.drew) h.at_ m e.symm rfl)]
    exact h.at_
  have c3' : w'.cell? ⟨m, 3, none⟩ = some (.slice a st.length cap) := by
    have := cell_row hat' (i := 3) (v := M.sv) rfl
    rw [e] at this
    exact this
  have fz' : w'.frozen? ⟨m, 3, none⟩ = false := by simp [World.frozen?, hat']
  obtain ⟨a', cap', ev', hc', hn', _⟩ := slice_form (n := st.length - k + nv) (st := st.take (st.length - k) ++ ys) (by
    have : (st.take (st.length - k) ++ ys).length = st.length - k + nv := by simp; omega
    rw [this]; exact hown') (by simp; omega)
  subst ev'
  have HFIN := hide (show PutPost B w m M (st.take (st.length - k) ++ ys) lo ar (.returned (.tuple #[])) (w'.setCell ⟨m, 3, none⟩ (.slice a' (st.length - k + nv) cap')) from by
    have hlocw : w.drew.ownsRow B 3 1 M.lv lo.length (iV lo) := own_belowI h.loc ((Below.refl _ _).drew)
    have hargw : w.drew.ownsRow B 3 1 M.av ar.length (iV ar) := own_belowI h.arg ((Below.refl _ _).drew)
    have eb : (Value.slice a (st.length - k) cap).ownBlock = M.sv.ownBlock := by rw [e]; cases a <;> rfl
    rw [eb] at hwh hg
    have keepL : ∀ g, M.lv.ownBlock = some g → (w'.setCell ⟨m, 3, none⟩ (.slice a' (st.length - k + nv) cap')).heap[g]? = w.drew.heap[g]? := fun g hgg => by
      rw [heap_setCell_other _ _ _ _ (row_ne hlocw (w := w.drew) h.at_ g hgg), hg.block g (hlocw.lt g hgg).2 (fun q => h.sl g q.symm hgg)]
    have keepA : ∀ g, M.av.ownBlock = some g → (w'.setCell ⟨m, 3, none⟩ (.slice a' (st.length - k + nv) cap')).heap[g]? = w.drew.heap[g]? := fun g hgg => by
      rw [heap_setCell_other _ _ _ _ (row_ne hargw (w := w.drew) h.at_ g hgg), hg.block g (hargw.lt g hgg).2 (fun q => h.sa g q.symm hgg)]
    refine ⟨rfl, .slice a' (st.length - k + nv) cap', ⟨?_, hbm, ?_, own_keepI hlocw keepL, own_keepI hargw keepA, ?_, ?_, h.la, ?_⟩, ?_⟩
    · rw [heap_setCell_same w' m 3 _ 104 _ hat']
      simp [Mc.row]
    · have hl2 : (st.take (st.length - k) ++ ys).length = st.length - k + nv := by simp; omega
      rw [hl2]
      exact own_keepI hown' (fun g hgg => heap_setCell_other _ _ _ _ (row_ne hown' hat' g hgg))
    · intro g hgg hl
      rcases hwh with q | q
      · rw [q] at hgg; exact h.sl g hgg hl
      · have h1 := q g hgg
        have h2 := (hlocw.lt g hl).2
        omega
    · intro g hgg hl
      rcases hwh with q | q
      · rw [q] at hgg; exact h.sa g hgg hl
      · have h1 := q g hgg
        have h2 := (hargw.lt g hl).2
        omega
    · intro k' u hku
      have hq := h.kept k' u hku
      rw [heap_setCell_other _ _ _ _ (fun e => by subst e; rw [h.at_] at hq; simp at hq), hg.block k' (by simpa using lt_row hq) (fun q => row_ne59 h.own hq k' q.symm rfl)]
      exact hq
    · have hb1 : Below B w w' := ((Below.refl B w).drew).grown hg (by simp; omega) (fun q hq => (h.own.lt q hq).1)
      exact hb1.setCell (p := ⟨m, 3, none⟩) hbm _)
  have wq : IntKind.i64.wrap ((st.length : Int) - (k : Int)) = (st.length : Int) - (k : Int) := wrapi (by omega)
  have c3d : w.drew.cell? ⟨m, 3, none⟩ = some (.slice a st.length cap) := c3
  clear hown' hwh ho ho2 h3 h2 hr
  go_enter Tryz.func78, Tryz.ntmps78
  go_wp2_with fail
  refine wp_region_noPanic ?_
  refine wp_region_held_drew (S := fun _ => True) (by kernel_rfl) trivial (fun _ => ?_)
  refine takeD (i := 0) (d := some 6) (v := ?_) rfl rfl (by kernel_rfl) (by kernel_rfl) (by kernel_rfl) (fun _ _ _ h => h) (Or.inl ⟨by rfl, ?_⟩) trivial ?_
  rotate_left
  · intro w hSw
    go_simp
    try (with_reducible rfl)
  try simp only [Act.put, List.setIfInBounds_toArray, List.set_cons_zero, List.set_cons_succ]
  refine takeD (i := 1) (d := some 7) (v := ?_) rfl rfl (by kernel_rfl) (by kernel_rfl) (by kernel_rfl) (fun _ _ _ h => h) (Or.inl ⟨by rfl, ?_⟩) trivial ?_
  rotate_left
  · intro w hSw
    go_simp
    try (with_reducible rfl)
  try simp only [Act.put, List.setIfInBounds_toArray, List.set_cons_zero, List.set_cons_succ]
  refine takeD (i := 2) (d := some 8) (v := ?_) rfl rfl (by kernel_rfl) (by kernel_rfl) (by kernel_rfl) (fun _ _ _ h => h) (Or.inl ⟨by rfl, ?_⟩) trivial ?_
  rotate_left
  · intro w hSw
    go_simp
    try (with_reducible rfl)
  try simp only [Act.put, List.setIfInBounds_toArray, List.set_cons_zero, List.set_cons_succ]
  refine takeD (i := 3) (d := some 9) (v := ?_) rfl rfl (by kernel_rfl) (by kernel_rfl) (by kernel_rfl) (fun _ _ _ h => h) (Or.inl ⟨by rfl, ?_⟩) trivial ?_
  rotate_left
  · intro w hSw
    go_simp
    try (with_reducible rfl)
  try simp only [Act.put, List.setIfInBounds_toArray, List.set_cons_zero, List.set_cons_succ]
  refine takeD (i := 4) (d := some 10) (v := ?_) rfl rfl (by kernel_rfl) (by kernel_rfl) (by kernel_rfl) (fun _ _ _ h => h) (Or.inl ⟨by rfl, ?_⟩) trivial ?_
  rotate_left
  · intro w hSw
    go_simp
    try (with_reducible rfl)
  try simp only [Act.put, List.setIfInBounds_toArray, List.set_cons_zero, List.set_cons_succ]
  refine takeD (i := 6) (d := some 12) (v := ?_) rfl rfl (by kernel_rfl) (by kernel_rfl) (by kernel_rfl) (fun _ _ _ h => h) (Or.inl ⟨by rfl, ?_⟩) trivial ?_
  rotate_left
  · intro w hSw
    go_simp
    try (with_reducible rfl)
  try simp only [Act.put, List.setIfInBounds_toArray, List.set_cons_zero, List.set_cons_succ]
  refine takeD (i := 7) (d := some 13) (v := ?_) rfl rfl (by kernel_rfl) (by kernel_rfl) (by kernel_rfl) (fun _ _ _ h => h) (Or.inl ⟨by rfl, ?_⟩) trivial ?_
  rotate_left
  · intro w hSw
    go_simp
    try (with_reducible rfl)
  try simp only [Act.put, List.setIfInBounds_toArray, List.set_cons_zero, List.set_cons_succ]
  refine takeD (i := 8) (d := some 14) (v := ?_) rfl rfl (by kernel_rfl) (by kernel_rfl) (by kernel_rfl) (fun _ _ _ h => h) (Or.inl ⟨by rfl, ?_⟩) trivial ?_
  rotate_left
  · intro w hSw
    go_simp
    try (with_reducible rfl)
  try simp only [Act.put, List.setIfInBounds_toArray, List.set_cons_zero, List.set_cons_succ]
  refine takeD (i := 9) (d := some 15) (v := ?_) rfl rfl (by kernel_rfl) (by kernel_rfl) (by kernel_rfl) (fun _ _ _ h => h) (Or.inl ⟨by rfl, ?_⟩) trivial ?_
  rotate_left
  · intro w hSw
    go_simp
    try (with_reducible rfl)
  try simp only [Act.put, List.setIfInBounds_toArray, List.set_cons_zero, List.set_cons_succ]
  refine takeD (i := 12) (d := some 18) (v := ?_) rfl rfl (by kernel_rfl) (by kernel_rfl) (by kernel_rfl) (fun _ _ _ h => h) (Or.inl ⟨by rfl, ?_⟩) trivial ?_
  rotate_left
  · intro w hSw
    go_simp
    try (with_reducible rfl)
  try simp only [Act.put, List.setIfInBounds_toArray, List.set_cons_zero, List.set_cons_succ]
  refine takeD (i := 15) (d := some 21) (v := ?_) rfl rfl (by kernel_rfl) (by kernel_rfl) (by kernel_rfl) (fun _ _ _ h => h) (Or.inl ⟨by rfl, ?_⟩) trivial ?_
  rotate_left
  · intro w hSw
    go_simp
    try (with_reducible rfl)
  try simp only [Act.put, List.setIfInBounds_toArray, List.set_cons_zero, List.set_cons_succ]
  refine wpAnyH_ready (rs := [5, 10]) (by kernel_rfl) (by simp) ?_
  refine AllReadyH.cons rfl (fun K hK => ?_) (AllReadyH.cons rfl (fun K hK => ?_) AllReadyH.nil)
  · go_simp
    go_wp2_with fail
    refine hK.out _ _ trivial (fun _ => ?_)
    clear hK K
    try simp only [Act.put, List.setIfInBounds_toArray, List.set_cons_zero, List.set_cons_succ]
    refine wpAnyH_ready (rs := [10]) (by kernel_rfl) (by simp) ?_
    refine AllReadyH.cons rfl (fun K hK => ?_) AllReadyH.nil
    go_simp
    go_wp2_with fail
    refine hK.out _ _ trivial (fun _ => ?_)
    clear hK K
    try simp only [Act.put, List.setIfInBounds_toArray, List.set_cons_zero, List.set_cons_succ]
    refine takeD (i := 11) (d := some 17) (v := ?_) rfl rfl (by kernel_rfl) (by kernel_rfl) (by kernel_rfl) (fun _ _ _ h => h) (Or.inl ⟨by rfl, ?_⟩) trivial ?_
    rotate_left
    · intro w hSw
      go_simp
      try (with_reducible rfl)
    try simp only [Act.put, List.setIfInBounds_toArray, List.set_cons_zero, List.set_cons_succ]
    refine takeD (i := 13) (d := some 19) (v := ?_) rfl rfl (by kernel_rfl) (by kernel_rfl) (by kernel_rfl) (fun _ _ _ h => h) (Or.inl ⟨by rfl, ?_⟩) trivial ?_
    rotate_left
    · intro w hSw
      go_simp
      try (with_reducible rfl)
    try simp only [Act.put, List.setIfInBounds_toArray, List.set_cons_zero, List.set_cons_succ]
    refine takeD (i := 14) (d := some 20) (v := ?_) rfl rfl (by kernel_rfl) (by kernel_rfl) (by kernel_rfl) (fun _ _ _ h => h) (Or.inl ⟨by rfl, ?_⟩) trivial ?_
    rotate_left
    · intro w hSw
      go_simp
      try (with_reducible rfl)
    try simp only [Act.put, List.setIfInBounds_toArray, List.set_cons_zero, List.set_cons_succ]
    refine wpAnyH_ready (rs := [16]) (by kernel_rfl) (by simp) ?_
    refine AllReadyH.cons rfl (fun K hK => ?_) AllReadyH.nil
    refine wp_append_run (.tmp 20) (.tmp 21) rfl rfl rfl hrun ?_
    refine hK.out _ _ trivial (fun _ => ?_)
    clear hK K
    try simp only [Act.put, List.setIfInBounds_toArray, List.set_cons_zero, List.set_cons_succ]
    refine takeD (i := 17) (d := some 23) (v := ?_) rfl rfl (by kernel_rfl) (by kernel_rfl) (by kernel_rfl) (fun _ _ _ h => h) (Or.inl ⟨by rfl, ?_⟩) trivial ?_
    rotate_left
    · intro w hSw
      go_simp
      try (with_reducible rfl)
    try simp only [Act.put, List.setIfInBounds_toArray, List.set_cons_zero, List.set_cons_succ]
    refine takeD (i := 18) (d := some 24) (v := ?_) rfl rfl (by kernel_rfl) (by kernel_rfl) (by kernel_rfl) (fun _ _ _ h => h) (Or.inl ⟨by rfl, ?_⟩) trivial ?_
    rotate_left
    · intro w hSw
      go_simp
      try (with_reducible rfl)
    try simp only [Act.put, List.setIfInBounds_toArray, List.set_cons_zero, List.set_cons_succ]
    refine takeD (i := 19) (d := some 25) (v := ?_) rfl rfl (by kernel_rfl) (by kernel_rfl) (by kernel_rfl) (fun _ _ _ h => h) (Or.inl ⟨by rfl, ?_⟩) trivial ?_
    rotate_left
    · intro w hSw
      go_simp
      try (with_reducible rfl)
    try simp only [Act.put, List.setIfInBounds_toArray, List.set_cons_zero, List.set_cons_succ]
    refine wpAnyH_ready (rs := [20]) (by kernel_rfl) (by simp) ?_
    refine AllReadyH.cons rfl (fun K hK => ?_) AllReadyH.nil
    go_simp
    go_wp2_with fail
    refine hK.out _ _ trivial (fun _ => ?_)
    clear hK K
    try simp only [Act.put, List.setIfInBounds_toArray, List.set_cons_zero, List.set_cons_succ]
    refine wpAnyH_done (by kernel_rfl) ?_ _
    refine NoPanic.normal ?_
    go_wp2_with fail
    go_end0
    exact HFIN.out
  · go_simp
    go_wp2_with fail
    refine hK.out _ _ trivial (fun _ => ?_)
    clear hK K
    try simp only [Act.put, List.setIfInBounds_toArray, List.set_cons_zero, List.set_cons_succ]
    refine takeD (i := 11) (d := some 17) (v := ?_) rfl rfl (by kernel_rfl) (by kernel_rfl) (by kernel_rfl) (fun _ _ _ h => h) (Or.inl ⟨by rfl, ?_⟩) trivial ?_
    rotate_left
    · intro w hSw
      go_simp
      try (with_reducible rfl)
    try simp only [Act.put, List.setIfInBounds_toArray, List.set_cons_zero, List.set_cons_succ]
    refine takeD (i := 13) (d := some 19) (v := ?_) rfl rfl (by kernel_rfl) (by kernel_rfl) (by kernel_rfl) (fun _ _ _ h => h) (Or.inl ⟨by rfl, ?_⟩) trivial ?_
    rotate_left
    · intro w hSw
      go_simp
      try (with_reducible rfl)
    try simp only [Act.put, List.setIfInBounds_toArray, List.set_cons_zero, List.set_cons_succ]
    refine wpAnyH_ready (rs := [5]) (by kernel_rfl) (by simp) ?_
    refine AllReadyH.cons rfl (fun K hK => ?_) AllReadyH.nil
    go_simp
    go_wp2_with fail
    refine hK.out _ _ trivial (fun _ => ?_)
    clear hK K
    try simp only [Act.put, List.setIfInBounds_toArray, List.set_cons_zero, List.set_cons_succ]
    refine takeD (i := 14) (d := some 20) (v := ?_) rfl rfl (by kernel_rfl) (by kernel_rfl) (by kernel_rfl) (fun _ _ _ h => h) (Or.inl ⟨by rfl, ?_⟩) trivial ?_
    rotate_left
    · intro w hSw
      go_simp
      try (with_reducible rfl)
    try simp only [Act.put, List.setIfInBounds_toArray, List.set_cons_zero, List.set_cons_succ]
    refine wpAnyH_ready (rs := [16]) (by kernel_rfl) (by simp) ?_
    refine AllReadyH.cons rfl (fun K hK => ?_) AllReadyH.nil
    refine wp_append_run (.tmp 20) (.tmp 21) rfl rfl rfl hrun ?_
    refine hK.out _ _ trivial (fun _ => ?_)
    clear hK K
    try simp only [Act.put, List.setIfInBounds_toArray, List.set_cons_zero, List.set_cons_succ]
    refine takeD (i := 17) (d := some 23) (v := ?_) rfl rfl (by kernel_rfl) (by kernel_rfl) (by kernel_rfl) (fun _ _ _ h => h) (Or.inl ⟨by rfl, ?_⟩) trivial ?_
    rotate_left
    · intro w hSw
      go_simp
      try (with_reducible rfl)
    try simp only [Act.put, List.setIfInBounds_toArray, List.set_cons_zero, List.set_cons_succ]
    refine takeD (i := 18) (d := some 24) (v := ?_) rfl rfl (by kernel_rfl) (by kernel_rfl) (by kernel_rfl) (fun _ _ _ h => h) (Or.inl ⟨by rfl, ?_⟩) trivial ?_
    rotate_left
    · intro w hSw
      go_simp
      try (with_reducible rfl)
    try simp only [Act.put, List.setIfInBounds_toArray, List.set_cons_zero, List.set_cons_succ]
    refine takeD (i := 19) (d := some 25) (v := ?_) rfl rfl (by kernel_rfl) (by kernel_rfl) (by kernel_rfl) (fun _ _ _ h => h) (Or.inl ⟨by rfl, ?_⟩) trivial ?_
    rotate_left
    · intro w hSw
      go_simp
      try (with_reducible rfl)
    try simp only [Act.put, List.setIfInBounds_toArray, List.set_cons_zero, List.set_cons_succ]
    refine wpAnyH_ready (rs := [20]) (by kernel_rfl) (by simp) ?_
    refine AllReadyH.cons rfl (fun K hK => ?_) AllReadyH.nil
    go_simp
    go_wp2_with fail
    refine hK.out _ _ trivial (fun _ => ?_)
    clear hK K
    try simp only [Act.put, List.setIfInBounds_toArray, List.set_cons_zero, List.set_cons_succ]
    refine wpAnyH_done (by kernel_rfl) ?_ _
    refine NoPanic.normal ?_
    go_wp2_with fail
    go_end0
    exact HFIN.out
end Go.Proofs.YtnkfdpnommjlcaaGreatDoor
