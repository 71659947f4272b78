/- top, last, lastTwo, put, own, take. -/
import Derived.Test.YtbpcibnomkfglaaGreatDoorMach
namespace Go.Proofs.YtbpcibnomkfglaaGreatDoor
open Go.RowKit Go.ChangeShapes Go.WideShapes Go.ChangeAt Go.Deep

theorem wrapi {n : Int} (h : -9223372036854775808 ≤ n ∧ n ≤ 9223372036854775807) : IntKind.i64.wrap n = n := by
  unfold IntKind.wrap
  simp [IntKind.signed, IntKind.bits]
  omega
theorem below_drewN' {B : Nat} {w w' : World} (h : Below B w w') (n : Nat) : Below B w (w'.drewN n) := ⟨h.os, h.tape, h.output, h.size, h.block⟩
theorem reads_iV {w : World} {a : Option Addr} {l : List Int} {k : Nat} {x : Int} (h : Reads w a (iV l)) (hk : l[k]? = some x) : ∃ b off, a = some ⟨b, off, none⟩ ∧ w.cell? ⟨b, off + k, none⟩ = some (.int .i64 x) := by
  rcases h with h | ⟨b, off, e, h⟩
  · have : l = [] := by simpa [iV] using h
    subst this; simp at hk
  · exact ⟨b, off, e, h k _ (by simp [iV, hk])⟩

set_option maxRecDepth 100000 in
set_option maxHeartbeats 1000000 in
theorem top_any (a : Option Addr) (cap : Nat) (st : List Int) (x : Int) (w : World) (hr : Reads w a (iV (st ++ [x]))) (hn : st.length ≤ 1000000) : Calls Tryz.prog 90 #[.slice a (st.length + 1) cap] w fun e w' => e = .returned (.int .i64 x) ∧ w' = w := by
  obtain ⟨b, off, rfl, c⟩ := reads_iV (k := st.length) (x := x) hr (by simp)
  go_enter Tryz.func90, Tryz.ntmps90
  go_wp2
  go_ret
  exact ⟨rfl, rfl⟩

theorem slice_form {w : World} {B : Nat} {v : Value} {st : List Int} {n : Nat} (ho : w.ownsRow B 3 1 v st.length (iV st)) (hn : st.length = n) : ∃ a cap, v = .slice a n cap ∧ n ≤ cap ∧ (a = none → n = 0 ∧ cap = 0) ∧ Reads w a (iV st) := by
  subst hn
  obtain ⟨a, cap, e, h1, h2, h3, _⟩ := own_formI ho
  exact ⟨a, cap, e, h1, h2, h3⟩

set_option maxRecDepth 100000 in
set_option maxHeartbeats 1000000 in
theorem last_any {B : Bd} {w : World} {m : Nat} {M : Mc} {st lo ar : List Int} {x : Int} (h : Mach B w m M (st ++ [x]) lo ar) (hn : st.length ≤ 1000000) : Calls Tryz.prog 85 #[.pointer (some ⟨m, 0, none⟩)] w fun e w' => e = .returned (.int .i64 x) ∧ w' = w := by
  obtain ⟨a, cap, e, h1, h2, h3⟩ := slice_form (n := st.length + 1) h.own (by simp)
  have c3 := h.cell 3 _ rfl
  rw [e] at c3
  have C := top_any a cap st x w h3 hn
  go_enter Tryz.func85, Tryz.ntmps85
  go_wp2_with (go_at_call 90; go_must (with_reducible refine C.mono ?_; (rintro e w1 ⟨rfl, hw1⟩); subst hw1))
  go_ret
  exact ⟨rfl, rfl⟩

set_option maxRecDepth 100000 in
set_option maxHeartbeats 1000000 in
theorem lastTwo_any {B : Bd} {w : World} {m : Nat} {M : Mc} {st lo ar : List Int} {x y : Int} (h : Mach B w m M (st ++ [x, y]) lo ar) (hn : st.length ≤ 100000) : Calls Tryz.prog 92 #[.pointer (some ⟨m, 0, none⟩)] w fun e w' => e = .returned (.tuple #[.int .i64 x, .int .i64 y]) ∧ Below w.heap.size w w' := by
  obtain ⟨a, cap, e, h1, h2, h3⟩ := slice_form (n := st.length + 2) h.own (by simp)
  have c3 := h.cell 3 _ rfl
  rw [e] at c3
  obtain ⟨b, off, rfl, cx⟩ := reads_iV (k := st.length) (x := x) h3 (by simp)
  have hd : ∀ n, Mach B (w.drewN n) m M ((st ++ [x]) ++ [y]) lo ar := fun n => by
    have h' : Mach B w m M ((st ++ [x]) ++ [y]) lo ar := by simpa using h
    exact h'.below (below_drewN' (Below.refl _ _) n)
  have C := fun n => last_any (hd n) (by simp; omega)
  have wq : IntKind.i64.wrap (((st.length : Int) + 2) - 2) = (st.length : Int) := by rw [wrapi (by omega)]; omega
  clear h hd
  go_enter Tryz.func92, Tryz.ntmps92
  go_wp2_with fail
  go_big_quiet (first | (go_at_call 85; with_reducible exact Calls.quiet_of_same (C _)))
  go_wp2_with fail
  exact bodyPost_ret (v := .tuple #[.int .i64 x, .int .i64 y]) (by simp [results, Tryz.results92, go_sem]) rfl ⟨rfl, below_drewN' (Below.refl _ _) _⟩

theorem slice_cut (w : World) (a : Option Addr) (n cap k : Nat) (hk : k ≤ cap) : (Instr.slice 28 (.slice a n cap) none (some (.int .i64 (k : Int))) none).run Tryz.prog w = .ok (.slice a k cap) w := by
  have hel : Tryz.prog.underlying 28 = some (.slice (Tryz.prog.elem 28)) := by kernel_rfl
  rw [run_slice_h w 28 a n cap hel .i64 (k : Int) (by omega) (by omega)]
  rw [show Tryz.prog.elem 28 = 3 by kernel_rfl, Tryz.sizeOf3]
  simp only [Result.andThen, sliced, Int.toNat_natCast, Nat.zero_mul, Nat.sub_zero]
  rw [show (a.map fun x => x.add 0) = a by cases a <;> simp [Addr.add_zero']]
  split <;> rfl
theorem wp_append_run {w w' : World} {o : Oper} {a : Act} {K : Act → World → Prop} {Q : Exit → Act → World → Prop} {v vx v' : Value} (s x : Operand)
    (ho : o.op = .call { callee := .builtin .append, args := #[s, x], argTypes := #[28, 28] }) (hs : a.eval s = v) (hx : a.eval x = vx)
    (hrun : (Builtin.append_ #[28, 28] o.type #[v, vx]).run Tryz.prog w = .ok v' w') (h : K (a.put o.dst v') w') : Oper.wp Tryz.prog o a w K Q := by
  unfold Oper.wp
  simp [execOp, ho, resolve, invoke, builtin, hs, hx, hrun, Result.andThen]
  exact h
/-- What put leaves. -/
def PutPost (B : Bd) (w : World) (m : Nat) (M : Mc) (st lo ar : List Int) (e : Ending) (w' : World) : Prop := e = .returned (.tuple #[]) ∧ ∃ sv, Mach B w' m { M with sv := sv } st lo ar ∧ Below B w w'

set_option linter.unusedSimpArgs false in
set_option maxRecDepth 100000 in
set_option maxHeartbeats 1000000 in
theorem put_any {B : Bd} {w : World} {m : Nat} {M : Mc} {st lo ar : List Int} (h : Mach B w m M st lo ar) (k : Nat) (hk : k ≤ st.length) (hn : st.length ≤ 100000) (va : Option Addr) (nv cv : Nat) (ys : List Int) (hr : Reads w va (iV ys)) (hy : ys.length = nv) (hnil : va = none → nv = 0 ∧ cv = 0) (hnv : nv ≤ 100000) :
    Calls Tryz.prog 76 #[.pointer (some ⟨m, 0, none⟩), .int .i64 (k : Int), .slice va nv cv] w (PutPost B w m M (st.take (st.length - k) ++ ys) lo ar) := by
  obtain ⟨a, cap, e, h1, h2, h3⟩ := slice_form (n := st.length) h.own rfl
  have c3 := h.cell 3 _ rfl
  have ho := h.own
  rw [e] at c3 ho
  have ho2 : w.drew.ownsRow B 3 1 (.slice a (st.length - k) cap) (st.length - k) (iV (st.take (st.length - k))) := own_belowI (own_cutI ho (by omega)) ((Below.refl _ _).drew)
  have hlt := h.lt
  have hbm := h.bm
  obtain ⟨v', w', hrun, hown', hg, hwh⟩ := run_append_where w.drew B _ _ _ ys va nv cv ho2 hnil hy hr.drew (by omega) (by simp; omega)
  have ks : ∀ w, (Instr.slice 28 (.slice a st.length cap) none (some (.int .i64 ((st.length : Int) - (k : Int)))) none).run Tryz.prog w = .ok (.slice a (st.length - k) cap) w := fun w => by
    rw [show ((st.length : Int) - (k : Int)) = ((st.length - k : Nat) : Int) by omega]
    exact slice_cut w a _ cap _ (by omega)
  -- THE WALK
  have hat' : w'.heap[m]? = some (.cells M.row.toArray 134 (0, 0)) := by
    rw [hg.block m (by simpa using hlt) (fun e => row_ne ho2 (w := w.drew) h.at_ m e.symm rfl)]
    exact h.at_
  have c3' : w'.cell? ⟨m, 3, none⟩ = some (.slice a st.length cap) := by
    have := cell_row hat' (i := 3) (v := M.sv) rfl
    rw [e] at this
    exact this
  have fz' : w'.frozen? ⟨m, 3, none⟩ = false := by simp [World.frozen?, hat']
  obtain ⟨a', cap', ev', hc', hn', _⟩ := slice_form (n := st.length - k + nv) (st := st.take (st.length - k) ++ ys) (by
    have : (st.take (st.length - k) ++ ys).length = st.length - k + nv := by simp; omega
    rw [this]; exact hown') (by simp; omega)
  subst ev'
  have HFIN := hide (show PutPost B w m M (st.take (st.length - k) ++ ys) lo ar (.returned (.tuple #[])) (w'.setCell ⟨m, 3, none⟩ (.slice a' (st.length - k + nv) cap')) from by
    have hlocw : w.drew.ownsRow B 3 1 M.lv lo.length (iV lo) := own_belowI h.loc ((Below.refl _ _).drew)
    have hargw : w.drew.ownsRow B 3 1 M.av ar.length (iV ar) := own_belowI h.arg ((Below.refl _ _).drew)
    have eb : (Value.slice a (st.length - k) cap).ownBlock = M.sv.ownBlock := by rw [e]; cases a <;> rfl
    rw [eb] at hwh hg
    have keepL : ∀ g, M.lv.ownBlock = some g → (w'.setCell ⟨m, 3, none⟩ (.slice a' (st.length - k + nv) cap')).heap[g]? = w.drew.heap[g]? := fun g hgg => by
      rw [heap_setCell_other _ _ _ _ (row_ne hlocw (w := w.drew) h.at_ g hgg), hg.block g (hlocw.lt g hgg).2 (fun q => h.sl g q.symm hgg)]
    have keepA : ∀ g, M.av.ownBlock = some g → (w'.setCell ⟨m, 3, none⟩ (.slice a' (st.length - k + nv) cap')).heap[g]? = w.drew.heap[g]? := fun g hgg => by
      rw [heap_setCell_other _ _ _ _ (row_ne hargw (w := w.drew) h.at_ g hgg), hg.block g (hargw.lt g hgg).2 (fun q => h.sa g q.symm hgg)]
    refine ⟨rfl, .slice a' (st.length - k + nv) cap', ⟨?_, hbm, ?_, own_keepI hlocw keepL, own_keepI hargw keepA, ?_, ?_, h.la, ?_⟩, ?_⟩
    · rw [heap_setCell_same w' m 3 _ 134 _ hat']
      simp [Mc.row]
    · have hl2 : (st.take (st.length - k) ++ ys).length = st.length - k + nv := by simp; omega
      rw [hl2]
      exact own_keepI hown' (fun g hgg => heap_setCell_other _ _ _ _ (row_ne hown' hat' g hgg))
    · intro g hgg hl
      rcases hwh with q | q
      · rw [q] at hgg; exact h.sl g hgg hl
      · have h1 := q g hgg
        have h2 := (hlocw.lt g hl).2
        omega
    · intro g hgg hl
      rcases hwh with q | q
      · rw [q] at hgg; exact h.sa g hgg hl
      · have h1 := q g hgg
        have h2 := (hargw.lt g hl).2
        omega
    · intro k' u hku
      have hq := h.kept k' u hku
      rw [heap_setCell_other _ _ _ _ (fun e => by subst e; rw [h.at_] at hq; simp at hq), hg.block k' (by simpa using lt_row hq) (fun q => row_ne59 h.own hq k' q.symm rfl)]
      exact hq
    · have hb1 : Below B w w' := ((Below.refl B w).drew).grown hg (by simp; omega) (fun q hq => (h.own.lt q hq).1)
      exact hb1.setCell (p := ⟨m, 3, none⟩) hbm _)
  have wq : IntKind.i64.wrap ((st.length : Int) - (k : Int)) = (st.length : Int) - (k : Int) := wrapi (by omega)
  have c3d : w.drew.cell? ⟨m, 3, none⟩ = some (.slice a st.length cap) := c3
  clear hown' hwh ho ho2 h3 h2 hr
  go_enter Tryz.func76, Tryz.ntmps76
  go_wp2_with fail
  refine wp_region_noPanic ?_
  refine wp_region_held_drew (S := fun _ => True) (by kernel_rfl) trivial (fun _ => ?_)
  refine takeD (i := 0) (d := some 6) (v := ?_) rfl rfl (by kernel_rfl) (by kernel_rfl) (by kernel_rfl) (fun _ _ _ h => h) (Or.inl ⟨by rfl, ?_⟩) trivial ?_
  rotate_left
  · intro w hSw
    go_simp
    try (with_reducible rfl)
  try simp only [Act.put, List.setIfInBounds_toArray, List.set_cons_zero, List.set_cons_succ]
  refine takeD (i := 1) (d := some 7) (v := ?_) rfl rfl (by kernel_rfl) (by kernel_rfl) (by kernel_rfl) (fun _ _ _ h => h) (Or.inl ⟨by rfl, ?_⟩) trivial ?_
  rotate_left
  · intro w hSw
    go_simp
    try (with_reducible rfl)
  try simp only [Act.put, List.setIfInBounds_toArray, List.set_cons_zero, List.set_cons_succ]
  refine takeD (i := 2) (d := some 8) (v := ?_) rfl rfl (by kernel_rfl) (by kernel_rfl) (by kernel_rfl) (fun _ _ _ h => h) (Or.inl ⟨by rfl, ?_⟩) trivial ?_
  rotate_left
  · intro w hSw
    go_simp
    try (with_reducible rfl)
  try simp only [Act.put, List.setIfInBounds_toArray, List.set_cons_zero, List.set_cons_succ]
  refine takeD (i := 3) (d := some 9) (v := ?_) rfl rfl (by kernel_rfl) (by kernel_rfl) (by kernel_rfl) (fun _ _ _ h => h) (Or.inl ⟨by rfl, ?_⟩) trivial ?_
  rotate_left
  · intro w hSw
    go_simp
    try (with_reducible rfl)
  try simp only [Act.put, List.setIfInBounds_toArray, List.set_cons_zero, List.set_cons_succ]
  refine takeD (i := 4) (d := some 10) (v := ?_) rfl rfl (by kernel_rfl) (by kernel_rfl) (by kernel_rfl) (fun _ _ _ h => h) (Or.inl ⟨by rfl, ?_⟩) trivial ?_
  rotate_left
  · intro w hSw
    go_simp
    try (with_reducible rfl)
  try simp only [Act.put, List.setIfInBounds_toArray, List.set_cons_zero, List.set_cons_succ]
  refine takeD (i := 6) (d := some 12) (v := ?_) rfl rfl (by kernel_rfl) (by kernel_rfl) (by kernel_rfl) (fun _ _ _ h => h) (Or.inl ⟨by rfl, ?_⟩) trivial ?_
  rotate_left
  · intro w hSw
    go_simp
    try (with_reducible rfl)
  try simp only [Act.put, List.setIfInBounds_toArray, List.set_cons_zero, List.set_cons_succ]
  refine takeD (i := 7) (d := some 13) (v := ?_) rfl rfl (by kernel_rfl) (by kernel_rfl) (by kernel_rfl) (fun _ _ _ h => h) (Or.inl ⟨by rfl, ?_⟩) trivial ?_
  rotate_left
  · intro w hSw
    go_simp
    try (with_reducible rfl)
  try simp only [Act.put, List.setIfInBounds_toArray, List.set_cons_zero, List.set_cons_succ]
  refine takeD (i := 8) (d := some 14) (v := ?_) rfl rfl (by kernel_rfl) (by kernel_rfl) (by kernel_rfl) (fun _ _ _ h => h) (Or.inl ⟨by rfl, ?_⟩) trivial ?_
  rotate_left
  · intro w hSw
    go_simp
    try (with_reducible rfl)
  try simp only [Act.put, List.setIfInBounds_toArray, List.set_cons_zero, List.set_cons_succ]
  refine takeD (i := 9) (d := some 15) (v := ?_) rfl rfl (by kernel_rfl) (by kernel_rfl) (by kernel_rfl) (fun _ _ _ h => h) (Or.inl ⟨by rfl, ?_⟩) trivial ?_
  rotate_left
  · intro w hSw
    go_simp
    try (with_reducible rfl)
  try simp only [Act.put, List.setIfInBounds_toArray, List.set_cons_zero, List.set_cons_succ]
  refine takeD (i := 12) (d := some 18) (v := ?_) rfl rfl (by kernel_rfl) (by kernel_rfl) (by kernel_rfl) (fun _ _ _ h => h) (Or.inl ⟨by rfl, ?_⟩) trivial ?_
  rotate_left
  · intro w hSw
    go_simp
    try (with_reducible rfl)
  try simp only [Act.put, List.setIfInBounds_toArray, List.set_cons_zero, List.set_cons_succ]
  refine takeD (i := 15) (d := some 21) (v := ?_) rfl rfl (by kernel_rfl) (by kernel_rfl) (by kernel_rfl) (fun _ _ _ h => h) (Or.inl ⟨by rfl, ?_⟩) trivial ?_
  rotate_left
  · intro w hSw
    go_simp
    try (with_reducible rfl)
  try simp only [Act.put, List.setIfInBounds_toArray, List.set_cons_zero, List.set_cons_succ]
  refine wpAnyH_ready (rs := [5, 10]) (by kernel_rfl) (by simp) ?_
  refine AllReadyH.cons rfl (fun K hK => ?_) (AllReadyH.cons rfl (fun K hK => ?_) AllReadyH.nil)
  · go_simp
    go_wp2_with fail
    refine hK.out _ _ trivial (fun _ => ?_)
    clear hK K
    try simp only [Act.put, List.setIfInBounds_toArray, List.set_cons_zero, List.set_cons_succ]
    refine wpAnyH_ready (rs := [10]) (by kernel_rfl) (by simp) ?_
    refine AllReadyH.cons rfl (fun K hK => ?_) AllReadyH.nil
    go_simp
    go_wp2_with fail
    refine hK.out _ _ trivial (fun _ => ?_)
    clear hK K
    try simp only [Act.put, List.setIfInBounds_toArray, List.set_cons_zero, List.set_cons_succ]
    refine takeD (i := 11) (d := some 17) (v := ?_) rfl rfl (by kernel_rfl) (by kernel_rfl) (by kernel_rfl) (fun _ _ _ h => h) (Or.inl ⟨by rfl, ?_⟩) trivial ?_
    rotate_left
    · intro w hSw
      go_simp
      try (with_reducible rfl)
    try simp only [Act.put, List.setIfInBounds_toArray, List.set_cons_zero, List.set_cons_succ]
    refine takeD (i := 13) (d := some 19) (v := ?_) rfl rfl (by kernel_rfl) (by kernel_rfl) (by kernel_rfl) (fun _ _ _ h => h) (Or.inl ⟨by rfl, ?_⟩) trivial ?_
    rotate_left
    · intro w hSw
      go_simp
      try (with_reducible rfl)
    try simp only [Act.put, List.setIfInBounds_toArray, List.set_cons_zero, List.set_cons_succ]
    refine takeD (i := 14) (d := some 20) (v := ?_) rfl rfl (by kernel_rfl) (by kernel_rfl) (by kernel_rfl) (fun _ _ _ h => h) (Or.inl ⟨by rfl, ?_⟩) trivial ?_
    rotate_left
    · intro w hSw
      go_simp
      try (with_reducible rfl)
    try simp only [Act.put, List.setIfInBounds_toArray, List.set_cons_zero, List.set_cons_succ]
    refine wpAnyH_ready (rs := [16]) (by kernel_rfl) (by simp) ?_
    refine AllReadyH.cons rfl (fun K hK => ?_) AllReadyH.nil
    refine wp_append_run (.tmp 20) (.tmp 21) rfl rfl rfl hrun ?_
    refine hK.out _ _ trivial (fun _ => ?_)
    clear hK K
    try simp only [Act.put, List.setIfInBounds_toArray, List.set_cons_zero, List.set_cons_succ]
    refine takeD (i := 17) (d := some 23) (v := ?_) rfl rfl (by kernel_rfl) (by kernel_rfl) (by kernel_rfl) (fun _ _ _ h => h) (Or.inl ⟨by rfl, ?_⟩) trivial ?_
    rotate_left
    · intro w hSw
      go_simp
      try (with_reducible rfl)
    try simp only [Act.put, List.setIfInBounds_toArray, List.set_cons_zero, List.set_cons_succ]
    refine takeD (i := 18) (d := some 24) (v := ?_) rfl rfl (by kernel_rfl) (by kernel_rfl) (by kernel_rfl) (fun _ _ _ h => h) (Or.inl ⟨by rfl, ?_⟩) trivial ?_
    rotate_left
    · intro w hSw
      go_simp
      try (with_reducible rfl)
    try simp only [Act.put, List.setIfInBounds_toArray, List.set_cons_zero, List.set_cons_succ]
    refine takeD (i := 19) (d := some 25) (v := ?_) rfl rfl (by kernel_rfl) (by kernel_rfl) (by kernel_rfl) (fun _ _ _ h => h) (Or.inl ⟨by rfl, ?_⟩) trivial ?_
    rotate_left
    · intro w hSw
      go_simp
      try (with_reducible rfl)
    try simp only [Act.put, List.setIfInBounds_toArray, List.set_cons_zero, List.set_cons_succ]
    refine wpAnyH_ready (rs := [20]) (by kernel_rfl) (by simp) ?_
    refine AllReadyH.cons rfl (fun K hK => ?_) AllReadyH.nil
    go_simp
    go_wp2_with fail
    refine hK.out _ _ trivial (fun _ => ?_)
    clear hK K
    try simp only [Act.put, List.setIfInBounds_toArray, List.set_cons_zero, List.set_cons_succ]
    refine wpAnyH_done (by kernel_rfl) ?_ _
    refine NoPanic.normal ?_
    go_wp2_with fail
    go_end0
    exact HFIN.out
  · go_simp
    go_wp2_with fail
    refine hK.out _ _ trivial (fun _ => ?_)
    clear hK K
    try simp only [Act.put, List.setIfInBounds_toArray, List.set_cons_zero, List.set_cons_succ]
    refine takeD (i := 11) (d := some 17) (v := ?_) rfl rfl (by kernel_rfl) (by kernel_rfl) (by kernel_rfl) (fun _ _ _ h => h) (Or.inl ⟨by rfl, ?_⟩) trivial ?_
    rotate_left
    · intro w hSw
      go_simp
      try (with_reducible rfl)
    try simp only [Act.put, List.setIfInBounds_toArray, List.set_cons_zero, List.set_cons_succ]
    refine takeD (i := 13) (d := some 19) (v := ?_) rfl rfl (by kernel_rfl) (by kernel_rfl) (by kernel_rfl) (fun _ _ _ h => h) (Or.inl ⟨by rfl, ?_⟩) trivial ?_
    rotate_left
    · intro w hSw
      go_simp
      try (with_reducible rfl)
    try simp only [Act.put, List.setIfInBounds_toArray, List.set_cons_zero, List.set_cons_succ]
    refine wpAnyH_ready (rs := [5]) (by kernel_rfl) (by simp) ?_
    refine AllReadyH.cons rfl (fun K hK => ?_) AllReadyH.nil
    go_simp
    go_wp2_with fail
    refine hK.out _ _ trivial (fun _ => ?_)
    clear hK K
    try simp only [Act.put, List.setIfInBounds_toArray, List.set_cons_zero, List.set_cons_succ]
    refine takeD (i := 14) (d := some 20) (v := ?_) rfl rfl (by kernel_rfl) (by kernel_rfl) (by kernel_rfl) (fun _ _ _ h => h) (Or.inl ⟨by rfl, ?_⟩) trivial ?_
    rotate_left
    · intro w hSw
      go_simp
      try (with_reducible rfl)
    try simp only [Act.put, List.setIfInBounds_toArray, List.set_cons_zero, List.set_cons_succ]
    refine wpAnyH_ready (rs := [16]) (by kernel_rfl) (by simp) ?_
    refine AllReadyH.cons rfl (fun K hK => ?_) AllReadyH.nil
    refine wp_append_run (.tmp 20) (.tmp 21) rfl rfl rfl hrun ?_
    refine hK.out _ _ trivial (fun _ => ?_)
    clear hK K
    try simp only [Act.put, List.setIfInBounds_toArray, List.set_cons_zero, List.set_cons_succ]
    refine takeD (i := 17) (d := some 23) (v := ?_) rfl rfl (by kernel_rfl) (by kernel_rfl) (by kernel_rfl) (fun _ _ _ h => h) (Or.inl ⟨by rfl, ?_⟩) trivial ?_
    rotate_left
    · intro w hSw
      go_simp
      try (with_reducible rfl)
    try simp only [Act.put, List.setIfInBounds_toArray, List.set_cons_zero, List.set_cons_succ]
    refine takeD (i := 18) (d := some 24) (v := ?_) rfl rfl (by kernel_rfl) (by kernel_rfl) (by kernel_rfl) (fun _ _ _ h => h) (Or.inl ⟨by rfl, ?_⟩) trivial ?_
    rotate_left
    · intro w hSw
      go_simp
      try (with_reducible rfl)
    try simp only [Act.put, List.setIfInBounds_toArray, List.set_cons_zero, List.set_cons_succ]
    refine takeD (i := 19) (d := some 25) (v := ?_) rfl rfl (by kernel_rfl) (by kernel_rfl) (by kernel_rfl) (fun _ _ _ h => h) (Or.inl ⟨by rfl, ?_⟩) trivial ?_
    rotate_left
    · intro w hSw
      go_simp
      try (with_reducible rfl)
    try simp only [Act.put, List.setIfInBounds_toArray, List.set_cons_zero, List.set_cons_succ]
    refine wpAnyH_ready (rs := [20]) (by kernel_rfl) (by simp) ?_
    refine AllReadyH.cons rfl (fun K hK => ?_) AllReadyH.nil
    go_simp
    go_wp2_with fail
    refine hK.out _ _ trivial (fun _ => ?_)
    clear hK K
    try simp only [Act.put, List.setIfInBounds_toArray, List.set_cons_zero, List.set_cons_succ]
    refine wpAnyH_done (by kernel_rfl) ?_ _
    refine NoPanic.normal ?_
    go_wp2_with fail
    go_end0
    exact HFIN.out
end Go.Proofs.YtbpcibnomkfglaaGreatDoor
/- need, has, within, oneIf, reckon, own, take. -/

namespace Go.Proofs.YtbpcibnomkfglaaGreatDoor
open Go.RowKit Go.ChangeShapes Go.WideShapes Go.ChangeAt Go.Deep

/-- An error on its way up. -/
def failV (e v : Int) : Value := .iface 146 (.agg #[.int .i64 e, .int .i64 v])
def upF (e v : Int) : Ending := .panicked [{ v := failV e v, recovered := false }]
theorem tneed_yes (e : Int) (w : World) : Calls Tryz.prog 53 #[.bool true, .int .i64 e] w fun r w' => r = .returned (.tuple #[]) ∧ w' = w := by
  go_enter Tryz.func53, Tryz.ntmps53
  go_wp2
  go_end0
  exact ⟨rfl, rfl⟩
theorem tneed_no (e : Int) (w : World) : Calls Tryz.prog 53 #[.bool false, .int .i64 e] w fun r w' => r = upF e 0 ∧ w' = w := by
  go_enter Tryz.func53, Tryz.ntmps53
  go_wp2
  exact ⟨rfl, rfl, rfl⟩
theorem twithin_any (n lo hi : Int) (w : World) : Calls Tryz.prog 72 #[.int .i64 n, .int .i64 lo, .int .i64 hi] w fun r w' => r = .returned (.bool (inB n lo hi)) ∧ w' = w := by
  unfold inB
  go_enter Tryz.func72, Tryz.ntmps72
  go_wp2
  · rename_i h
    go_ret
    exact ⟨by simp [h], rfl⟩
  · rename_i h
    go_ret
    exact ⟨by simp; intro h2; omega, rfl⟩
theorem thas_any (n k : Int) (hn : -9223372036854775807 ≤ n ∧ n ≤ 9223372036854775807) (w : World) : Calls Tryz.prog 54 #[.int .i64 n, .int .i64 k] w fun r w' => r = .returned (.bool (hasB n k)) ∧ w' = w := by
  have C := fun w => twithin_any k 0 (n - 1) w
  go_enter Tryz.func54, Tryz.ntmps54
  go_wp2_with (go_at_call 72; go_must (with_reducible refine (C _).mono ?_; (rintro e w1 ⟨rfl, hw1⟩); subst hw1))
  go_ret
  exact ⟨rfl, rfl⟩
theorem oneIf_any (b : Bool) (w : World) : Calls Tryz.prog 94 #[.bool b] w fun r w' => r = .returned (.int .i64 (if b then 1 else 0)) ∧ w' = w := by
  cases b
  · go_enter Tryz.func94, Tryz.ntmps94
    go_wp2
    go_ret
    exact ⟨rfl, rfl⟩
  · go_enter Tryz.func94, Tryz.ntmps94
    go_wp2
    go_ret
    exact ⟨rfl, rfl⟩
/-- What an instruction of two values makes of them; none: there is no such value. -/
def rekL (op x y : Int) : Option Int :=
  if op = 7 then some (wrap64 (x + y))
  else if op = 8 then some (wrap64 (x - y))
  else if op = 9 then some (wrap64 (x * y))
  else if op = 10 then (if y = 0 then none else some (wrap64 (x.tdiv y)))
  else if op = 11 then (if y = 0 then none else some (x.tmod y))
  else if op = 12 then some (if x < y then 1 else 0)
  else some (if x = y then 1 else 0)
def RekPost (op x y : Int) (w : World) (r : Ending) (w' : World) : Prop := (match rekL op x y with | some v => r = .returned (.int .i64 v) | none => r = upF 20 0) ∧ w' = w

set_option maxRecDepth 100000 in
set_option maxHeartbeats 1000000 in
theorem reckon_any (op x y : Int) (w : World) : Calls Tryz.prog 93 #[.int .i64 op, .int .i64 x, .int .i64 y] w (RekPost op x y w) := by
  have N1 := fun w => tneed_yes 20 w
  have N0 := fun w => tneed_no 20 w
  unfold upF failV at N0
  have T1 := fun w => oneIf_any true w
  have T0 := fun w => oneIf_any false w
  simp only [if_true, Bool.false_eq_true, if_false] at T1 T0
  have yes : ∀ v, rekL op x y = some v → Calls Tryz.prog 93 #[.int .i64 op, .int .i64 x, .int .i64 y] w (fun r w' => r = .returned (.int .i64 v) ∧ w' = w) → Calls Tryz.prog 93 #[.int .i64 op, .int .i64 x, .int .i64 y] w (RekPost op x y w) := fun v e h => h.mono (fun r w' q => by unfold RekPost; rw [e]; exact q)
  have no : rekL op x y = none → Calls Tryz.prog 93 #[.int .i64 op, .int .i64 x, .int .i64 y] w (fun r w' => r = upF 20 0 ∧ w' = w) → Calls Tryz.prog 93 #[.int .i64 op, .int .i64 x, .int .i64 y] w (RekPost op x y w) := fun e h => h.mono (fun r w' q => by unfold RekPost; rw [e]; exact q)
  by_cases h7 : op = 7
  · subst h7
    refine yes _ rfl ?_
    clear yes no
    go_enter Tryz.func93, Tryz.ntmps93
    go_wp2_with fail
    go_ret
    exact ⟨rfl, rfl⟩
  by_cases h8 : op = 8
  · subst h8
    refine yes _ rfl ?_
    clear yes no
    go_enter Tryz.func93, Tryz.ntmps93
    go_wp2_with fail
    go_ret
    exact ⟨rfl, rfl⟩
  by_cases h9 : op = 9
  · subst h9
    refine yes _ rfl ?_
    clear yes no
    go_enter Tryz.func93, Tryz.ntmps93
    go_wp2_with fail
    go_ret
    exact ⟨rfl, rfl⟩
  by_cases h10 : op = 10
  · subst h10
    by_cases hy : y = 0
    · subst hy
      refine no (by simp [rekL]) ?_
      clear yes no
      go_enter Tryz.func93, Tryz.ntmps93
      go_wp2_with (go_at_call 53; go_must (with_reducible refine (N0 _).mono ?_; (rintro e w1 ⟨rfl, hw1⟩); subst hw1))
      exact ⟨rfl, rfl, rfl⟩
    · refine yes (wrap64 (x.tdiv y)) (by simp [rekL, hy]) ?_
      have hyb : (y != 0) = true := by simp [hy]
      clear yes no
      go_enter Tryz.func93, Tryz.ntmps93
      go_wp2_with (go_at_call 53; go_must (with_reducible refine (N1 _).mono ?_; (rintro e w1 ⟨rfl, hw1⟩); subst hw1))
      go_ret
      exact ⟨rfl, rfl⟩
  by_cases h11 : op = 11
  · subst h11
    by_cases hy : y = 0
    · subst hy
      refine no (by simp [rekL]) ?_
      clear yes no
      go_enter Tryz.func93, Tryz.ntmps93
      go_wp2_with (go_at_call 53; go_must (with_reducible refine (N0 _).mono ?_; (rintro e w1 ⟨rfl, hw1⟩); subst hw1))
      exact ⟨rfl, rfl, rfl⟩
    · refine yes (x.tmod y) (by simp [rekL, hy]) ?_
      have hyb : (y != 0) = true := by simp [hy]
      clear yes no
      go_enter Tryz.func93, Tryz.ntmps93
      go_wp2_with (go_at_call 53; go_must (with_reducible refine (N1 _).mono ?_; (rintro e w1 ⟨rfl, hw1⟩); subst hw1))
      go_ret
      exact ⟨rfl, rfl⟩
  by_cases h12 : op = 12
  · subst h12
    by_cases hxy : x < y
    · refine yes 1 (by simp [rekL, hxy]) ?_
      clear yes no
      go_enter Tryz.func93, Tryz.ntmps93
      go_wp2_with (go_at_call 94; first | (with_reducible refine (T1 _).mono ?_; (rintro e w1 ⟨rfl, hw1⟩); subst hw1) | (with_reducible refine (T0 _).mono ?_; (rintro e w1 ⟨rfl, hw1⟩); subst hw1))
      go_ret
      exact ⟨rfl, rfl⟩
    · refine yes 0 (by simp [rekL]; omega) ?_
      clear yes no
      go_enter Tryz.func93, Tryz.ntmps93
      go_wp2_with (go_at_call 94; first | (with_reducible refine (T1 _).mono ?_; (rintro e w1 ⟨rfl, hw1⟩); subst hw1) | (with_reducible refine (T0 _).mono ?_; (rintro e w1 ⟨rfl, hw1⟩); subst hw1))
      go_ret
      exact ⟨rfl, rfl⟩
  · have g7 : (op == 7) = false := by simp [h7]
    have g8 : (op == 8) = false := by simp [h8]
    have g9 : (op == 9) = false := by simp [h9]
    have g10 : (op == 10) = false := by simp [h10]
    have g11 : (op == 11) = false := by simp [h11]
    have g12 : (op == 12) = false := by simp [h12]
    by_cases hxy : x = y
    · have gxy : (x == y) = true := by simp [hxy]
      refine yes 1 (by simp [rekL, h7, h8, h9, h10, h11, h12, hxy]) ?_
      clear yes no
      go_enter Tryz.func93, Tryz.ntmps93
      go_wp2_with (go_at_call 94; first | (with_reducible refine (T1 _).mono ?_; (rintro e w1 ⟨rfl, hw1⟩); subst hw1) | (with_reducible refine (T0 _).mono ?_; (rintro e w1 ⟨rfl, hw1⟩); subst hw1))
      go_ret
      exact ⟨rfl, rfl⟩
    · have gxy : (x == y) = false := by simp [hxy]
      refine yes 0 (by simp [rekL, h7, h8, h9, h10, h11, h12, hxy]) ?_
      clear yes no
      go_enter Tryz.func93, Tryz.ntmps93
      go_wp2_with (go_at_call 94; first | (with_reducible refine (T1 _).mono ?_; (rintro e w1 ⟨rfl, hw1⟩); subst hw1) | (with_reducible refine (T0 _).mono ?_; (rintro e w1 ⟨rfl, hw1⟩); subst hw1))
      go_ret
      exact ⟨rfl, rfl⟩
end Go.Proofs.YtbpcibnomkfglaaGreatDoor
/- plain: an instruction that turns values alone (no locals yet). -/

namespace Go.Proofs.YtbpcibnomkfglaaGreatDoor
open Go.RowKit Go.ChangeShapes Go.WideShapes Go.ChangeAt Go.Deep

/-- What an instruction that turns values alone makes of the stack (its last value first); none: it cannot be done; some none: there is no such value. -/
def plL (op n : Int) : List Int → Option (Option (List Int))
  | sk =>
    if op = 1 then some (some (n :: sk))
    else if op = 2 then (match sk with | _ :: r => some (some r) | [] => none)
    else if op = 3 then (match sk with | x :: r => some (some (x :: x :: r)) | [] => none)
    else if op = 4 then (match sk with | y :: x :: r => some (some (x :: y :: r)) | _ => none)
    else if 7 ≤ op ∧ op ≤ 13 then (match sk with | y :: x :: r => some ((rekL op x y).map (· :: r)) | _ => none)
    else none
def PlainPost (B : Bd) (w : World) (m : Nat) (M : Mc) (sk lo ar : List Int) (op n : Int) (e : Ending) (w' : World) : Prop :=
  match plL op n sk with
  | some (some sk') => e = .returned (.tuple #[]) ∧ ∃ sv, Mach B w' m { M with sv := sv } sk'.reverse lo ar ∧ Below B w w'
  | some none => e = upF 20 0 ∧ Mach B w' m M sk.reverse lo ar ∧ Below B w w'
  | none => True
theorem reads_next (w : World) (o : Obj) (xs : List Value) (t : TypeId) : Reads ((w.alloc o).alloc (.cells xs.toArray t)) (some ⟨w.heap.size + 1, 0, none⟩) xs := by
  have := reads_new (w.alloc o) xs t
  simpa using this
theorem reads_new1 (w : World) (x : Int) : Reads (w.alloc (.cells #[.int .i64 x] 3)) (some ⟨w.heap.size, 0, none⟩) (iV [x]) := reads_new w _ _
theorem reads_new2 (w : World) (x y : Int) : Reads (w.alloc (.cells #[.int .i64 x, .int .i64 y] 3)) (some ⟨w.heap.size, 0, none⟩) (iV [x, y]) := reads_new w _ _
theorem rev_take (sk : List Int) (k : Nat) (hk : k ≤ sk.length) : sk.reverse.take (sk.length - k) = (sk.drop k).reverse := by
  rw [List.take_reverse]
  congr 2
  omega
/-- put, the stack's last value first. -/
theorem put_rev {B : Bd} {w : World} {m : Nat} {M : Mc} {sk lo ar : List Int} (h : Mach B w m M sk.reverse lo ar) (k : Nat) (hk : k ≤ sk.length) (hn : sk.length ≤ 100000) (va : Option Addr) (nv cv : Nat) (ys sk' : List Int) (hr : Reads w va (iV ys)) (hy : ys.length = nv) (hnil : va = none → nv = 0 ∧ cv = 0) (hnv : nv ≤ 100000) (hs : (sk.drop k).reverse ++ ys = sk'.reverse) :
    Calls Tryz.prog 76 #[.pointer (some ⟨m, 0, none⟩), .int .i64 (k : Int), .slice va nv cv] w (PutPost B w m M sk'.reverse lo ar) := by
  have := put_any h k (by simpa using hk) (by simpa using hn) va nv cv ys hr hy hnil hnv
  rw [List.length_reverse, rev_take sk k hk, hs] at this
  exact this
set_option linter.unusedSimpArgs false in
set_option maxRecDepth 100000 in
set_option maxHeartbeats 2000000 in
theorem plain_push {B : Bd} {w : World} {m : Nat} {M : Mc} {sk lo ar : List Int} (h : Mach B w m M sk.reverse lo ar) (n : Int) (hn : sk.length ≤ 10000) : Calls Tryz.prog 88 #[.pointer (some ⟨m, 0, none⟩), .agg #[.int .i64 1, .int .i64 n]] w fun e w' => e = .returned (.tuple #[]) ∧ ∃ sv, Mach B w' m { M with sv := sv } (n :: sk).reverse lo ar ∧ Below B w w' := by
  have hlt := h.lt
  have hbm := h.bm
  have hb0 : Below w.heap.size w ((w.alloc (.cells #[.int .i64 1, .int .i64 n] 40)).alloc (.cells #[.int .i64 n] 3)).drew := (((Below.refl _ _).alloc (Nat.le_refl _) _).alloc (by simp) _).drew
  have h1 := h.below hb0
  have C : Calls Tryz.prog 76 #[.pointer (some ⟨m, 0, none⟩), .int .i64 0, .slice (some ⟨w.heap.size + 1, 0, none⟩) 1 1] ((w.alloc (.cells #[.int .i64 1, .int .i64 n] 40)).alloc (.cells #[.int .i64 n] 3)).drew (PutPost B _ m M (n :: sk).reverse lo ar) := put_rev h1 0 (by omega) (by omega) (some ⟨w.heap.size + 1, 0, none⟩) 1 1 [n] (n :: sk) (Reads.drew (reads_next w _ [.int .i64 n] 3)) rfl (fun h => by cases h) (by omega) (by simp)
  have HB0 := hide (hb0.mono (show B ≤ w.heap.size by omega))
  unfold PutPost at C
  clear h h1
  go_enter Tryz.func88, Tryz.ntmps88
  go_wp2_with fail
  refine wp_region_noPanic ?_
  refine wp_region_held_drew (S := fun _ => True) (by kernel_rfl) trivial (fun _ => ?_)
  refine takeD (i := 0) (d := some 29) (v := ?_) rfl rfl (by kernel_rfl) (by kernel_rfl) (by kernel_rfl) (fun _ _ _ h => h) (Or.inl ⟨by rfl, ?_⟩) trivial ?_
  rotate_left
  · intro w hSw
    go_simp
    try (with_reducible rfl)
  try simp only [Act.put, List.setIfInBounds_toArray, List.set_cons_zero, List.set_cons_succ]
  refine takeD (i := 1) (d := some 30) (v := ?_) rfl rfl (by kernel_rfl) (by kernel_rfl) (by kernel_rfl) (fun _ _ _ h => h) (Or.inl ⟨by rfl, ?_⟩) trivial ?_
  rotate_left
  · intro w hSw
    go_simp
    try (with_reducible rfl)
  try simp only [Act.put, List.setIfInBounds_toArray, List.set_cons_zero, List.set_cons_succ]
  refine takeD (i := 2) (d := some 31) (v := ?_) rfl rfl (by kernel_rfl) (by kernel_rfl) (by kernel_rfl) (fun _ _ _ h => h) (Or.inl ⟨by rfl, ?_⟩) trivial ?_
  rotate_left
  · intro w hSw
    go_simp
    try (with_reducible rfl)
  try simp only [Act.put, List.setIfInBounds_toArray, List.set_cons_zero, List.set_cons_succ]
  refine takeD (i := 3) (d := some 32) (v := ?_) rfl rfl (by kernel_rfl) (by kernel_rfl) (by kernel_rfl) (fun _ _ _ h => h) (Or.inl ⟨by rfl, ?_⟩) trivial ?_
  rotate_left
  · intro w hSw
    go_simp
    try (with_reducible rfl)
  try simp only [Act.put, List.setIfInBounds_toArray, List.set_cons_zero, List.set_cons_succ]
  refine wpAnyH_ready (rs := [4]) (by kernel_rfl) (by simp) ?_
  refine AllReadyH.cons rfl (fun K hK => ?_) AllReadyH.nil
  go_simp
  go_wp2_with fail
  refine hK.out _ _ trivial (fun _ => ?_)
  clear hK K
  try simp only [Act.put, List.setIfInBounds_toArray, List.set_cons_zero, List.set_cons_succ]
  refine wpAnyH_ready (rs := [5]) (by kernel_rfl) (by simp) ?_
  refine AllReadyH.cons rfl (fun K hK => ?_) AllReadyH.nil
  go_simp
  go_wp2_with fail
  refine hK.out _ _ trivial (fun _ => ?_)
  clear hK K
  try simp only [Act.put, List.setIfInBounds_toArray, List.set_cons_zero, List.set_cons_succ]
  refine wpAnyH_ready (rs := [6]) (by kernel_rfl) (by simp) ?_
  refine AllReadyH.cons rfl (fun K hK => ?_) AllReadyH.nil
  go_simp
  go_at_call 76
  with_reducible refine C.mono ?_
  (rintro e w2 ⟨rfl, sv2, hM2, hb2⟩)
  go_wp2_with fail
  refine hK.out _ _ trivial (fun _ => ?_)
  clear hK K
  try simp only [Act.put, List.setIfInBounds_toArray, List.set_cons_zero, List.set_cons_succ]
  refine wpAnyH_done (by kernel_rfl) ?_ _
  refine NoPanic.normal ?_
  go_wp2_with fail
  go_end0
  exact ⟨rfl, sv2, hM2, HB0.out.trans hb2⟩
set_option linter.unusedSimpArgs false in
set_option maxRecDepth 100000 in
set_option maxHeartbeats 2000000 in
theorem plain_pop {B : Bd} {w : World} {m : Nat} {M : Mc} {sk lo ar : List Int} {x : Int} (h : Mach B w m M (x :: sk).reverse lo ar) (n : Int) (hn : sk.length ≤ 10000) : Calls Tryz.prog 88 #[.pointer (some ⟨m, 0, none⟩), .agg #[.int .i64 2, .int .i64 n]] w fun e w' => e = .returned (.tuple #[]) ∧ ∃ sv, Mach B w' m { M with sv := sv } (sk).reverse lo ar ∧ Below B w w' := by
  have hlt := h.lt
  have hbm := h.bm
  have hb0 : Below w.heap.size w (w.alloc (.cells #[.int .i64 2, .int .i64 n] 40)) := ((Below.refl _ _).alloc (Nat.le_refl _) _)
  have h1 := h.below hb0
  have C : Calls Tryz.prog 76 #[.pointer (some ⟨m, 0, none⟩), .int .i64 1, .slice none 0 0] (w.alloc (.cells #[.int .i64 2, .int .i64 n] 40)) (PutPost B _ m M sk.reverse lo ar) := put_rev h1 1 (by simp) (by simp; omega) none 0 0 [] sk (.inl rfl) rfl (fun _ => ⟨rfl, rfl⟩) (by omega) (by simp)
  have HB0 := hide (show Below B w (w.alloc (.cells #[.int .i64 2, .int .i64 n] 40)) from hb0.mono (by omega))
  unfold PutPost at C
  clear h h1
  go_enter Tryz.func88, Tryz.ntmps88
  go_wp2_with (go_at_call 76; go_must (with_reducible refine C.mono ?_; (rintro e w2 ⟨rfl, sv2, hM2, hb2⟩)))
  go_end0
  exact ⟨rfl, sv2, hM2, HB0.out.trans hb2⟩
set_option linter.unusedSimpArgs false in
set_option maxRecDepth 100000 in
set_option maxHeartbeats 2000000 in
theorem plain_dup {B : Bd} {w : World} {m : Nat} {M : Mc} {sk lo ar : List Int} {x : Int} (h : Mach B w m M (x :: sk).reverse lo ar) (n : Int) (hn : sk.length ≤ 10000) : Calls Tryz.prog 88 #[.pointer (some ⟨m, 0, none⟩), .agg #[.int .i64 3, .int .i64 n]] w fun e w' => e = .returned (.tuple #[]) ∧ ∃ sv, Mach B w' m { M with sv := sv } (x :: x :: sk).reverse lo ar ∧ Below B w w' := by
  have hlt := h.lt
  have hbm := h.bm
  have hL : Mach B (w.alloc (.cells #[.int .i64 3, .int .i64 n] 40)).drew m M (sk.reverse ++ [x]) lo ar := by
    have := h.below (show Below w.heap.size w (w.alloc (.cells #[.int .i64 3, .int .i64 n] 40)).drew from ((Below.refl _ _).alloc (Nat.le_refl _) _).drew)
    simpa using this
  have CL := last_any hL (by simp; omega)
  have hb0 : Below w.heap.size w ((w.alloc (.cells #[.int .i64 3, .int .i64 n] 40)).alloc (.cells #[.int .i64 x] 3)).drew := (((Below.refl _ _).alloc (Nat.le_refl _) _).alloc (by simp) _).drew
  have h1 := h.below hb0
  have C : Calls Tryz.prog 76 #[.pointer (some ⟨m, 0, none⟩), .int .i64 0, .slice (some ⟨w.heap.size + 1, 0, none⟩) 1 1] ((w.alloc (.cells #[.int .i64 3, .int .i64 n] 40)).alloc (.cells #[.int .i64 x] 3)).drew (PutPost B _ m M (x :: x :: sk).reverse lo ar) := put_rev h1 0 (by omega) (by simp; omega) (some ⟨w.heap.size + 1, 0, none⟩) 1 1 [x] (x :: x :: sk) (Reads.drew (reads_next w _ [.int .i64 x] 3)) rfl (fun h => by cases h) (by omega) (by simp)
  have HB0 := hide (hb0.mono (show B ≤ w.heap.size by omega))
  unfold PutPost at C
  clear h h1 hL
  go_enter Tryz.func88, Tryz.ntmps88
  go_wp2_with fail
  refine wp_region_noPanic ?_
  refine wp_region_held_drew (S := fun _ => True) (by kernel_rfl) trivial (fun _ => ?_)
  refine takeD (i := 0) (d := some 44) (v := ?_) rfl rfl (by kernel_rfl) (by kernel_rfl) (by kernel_rfl) (fun _ _ _ h => h) (Or.inl ⟨by rfl, ?_⟩) trivial ?_
  rotate_left
  · intro w hSw
    go_simp
    try (with_reducible rfl)
  try simp only [Act.put, List.setIfInBounds_toArray, List.set_cons_zero, List.set_cons_succ]
  refine takeD (i := 1) (d := some 45) (v := ?_) rfl rfl (by kernel_rfl) (by kernel_rfl) (by kernel_rfl) (fun _ _ _ h => h) (Or.inl ⟨by rfl, ?_⟩) trivial ?_
  rotate_left
  · intro w hSw
    go_simp
    try (with_reducible rfl)
  try simp only [Act.put, List.setIfInBounds_toArray, List.set_cons_zero, List.set_cons_succ]
  refine takeD (i := 2) (d := some 46) (v := ?_) rfl rfl (by kernel_rfl) (by kernel_rfl) (by kernel_rfl) (fun _ _ _ h => h) (Or.inl ⟨by rfl, ?_⟩) trivial ?_
  rotate_left
  · intro w hSw
    go_simp
    try (with_reducible rfl)
  try simp only [Act.put, List.setIfInBounds_toArray, List.set_cons_zero, List.set_cons_succ]
  refine takeD (i := 3) (d := some 47) (v := ?_) rfl rfl (by kernel_rfl) (by kernel_rfl) (by kernel_rfl) (fun _ _ _ h => h) (Or.inl ⟨by rfl, ?_⟩) trivial ?_
  rotate_left
  · intro w hSw
    go_simp
    try (with_reducible rfl)
  try simp only [Act.put, List.setIfInBounds_toArray, List.set_cons_zero, List.set_cons_succ]
  refine takeD (i := 4) (d := some 48) (v := ?_) rfl rfl (by kernel_rfl) (by kernel_rfl) (by kernel_rfl) (fun _ _ _ h => h) (Or.inl ⟨by rfl, ?_⟩) trivial ?_
  rotate_left
  · intro w hSw
    go_simp
    try (with_reducible rfl)
  try simp only [Act.put, List.setIfInBounds_toArray, List.set_cons_zero, List.set_cons_succ]
  refine takeD (i := 5) (d := some 49) (v := ?_) rfl rfl (by kernel_rfl) (by kernel_rfl) (by kernel_rfl) (fun _ _ _ h => h) (Or.inl ⟨by rfl, ?_⟩) trivial ?_
  rotate_left
  · intro w hSw
    go_simp
    try (with_reducible rfl)
  try simp only [Act.put, List.setIfInBounds_toArray, List.set_cons_zero, List.set_cons_succ]
  refine wpAnyH_ready (rs := [6]) (by kernel_rfl) (by simp) ?_
  refine AllReadyH.cons rfl (fun K hK => ?_) AllReadyH.nil
  go_simp
  go_at_call 85
  with_reducible refine CL.mono ?_
  (rintro e w9 ⟨rfl, hw9⟩)
  subst hw9
  go_wp2_with fail
  refine hK.out _ _ trivial (fun _ => ?_)
  clear hK K
  try simp only [Act.put, List.setIfInBounds_toArray, List.set_cons_zero, List.set_cons_succ]
  refine wpAnyH_ready (rs := [7]) (by kernel_rfl) (by simp) ?_
  refine AllReadyH.cons rfl (fun K hK => ?_) AllReadyH.nil
  go_simp
  go_wp2_with fail
  refine hK.out _ _ trivial (fun _ => ?_)
  clear hK K
  try simp only [Act.put, List.setIfInBounds_toArray, List.set_cons_zero, List.set_cons_succ]
  refine wpAnyH_ready (rs := [8]) (by kernel_rfl) (by simp) ?_
  refine AllReadyH.cons rfl (fun K hK => ?_) AllReadyH.nil
  go_simp
  go_at_call 76
  with_reducible refine C.mono ?_
  (rintro e w2 ⟨rfl, sv2, hM2, hb2⟩)
  go_wp2_with fail
  refine hK.out _ _ trivial (fun _ => ?_)
  clear hK K
  try simp only [Act.put, List.setIfInBounds_toArray, List.set_cons_zero, List.set_cons_succ]
  refine wpAnyH_done (by kernel_rfl) ?_ _
  refine NoPanic.normal ?_
  go_wp2_with fail
  go_end0
  exact ⟨rfl, sv2, hM2, HB0.out.trans hb2⟩
set_option linter.unusedSimpArgs false in
set_option maxRecDepth 100000 in
set_option maxHeartbeats 2000000 in
theorem plain_swap {B : Bd} {w : World} {m : Nat} {M : Mc} {sk lo ar : List Int} {x y : Int} (h : Mach B w m M (y :: x :: sk).reverse lo ar) (n : Int) (hn : sk.length ≤ 10000) : Calls Tryz.prog 88 #[.pointer (some ⟨m, 0, none⟩), .agg #[.int .i64 4, .int .i64 n]] w fun e w' => e = .returned (.tuple #[]) ∧ ∃ sv, Mach B w' m { M with sv := sv } (x :: y :: sk).reverse lo ar ∧ Below B w w' := by
  have hlt := h.lt
  have hbm := h.bm
  have hb0 : Below w.heap.size w (w.alloc (.cells #[.int .i64 4, .int .i64 n] 40)) := ((Below.refl _ _).alloc (Nat.le_refl _) _)
  have hL : Mach B (w.alloc (.cells #[.int .i64 4, .int .i64 n] 40)) m M (sk.reverse ++ [x, y]) lo ar := by have := h.below hb0; simpa using this
  have CL := lastTwo_any hL (by simp; omega)
  have H0 := hide (h.below hb0)
  clear h hL
  go_enter Tryz.func88, Tryz.ntmps88
  go_wp2_with (go_at_call 92; go_must (with_reducible refine CL.mono ?_; (rintro e w9 ⟨rfl, hb9⟩); refine Hid.out ?_))
  refine Lib.hid ?_
  have h1 := H0.out.below (hb9.trans ((Below.refl _ _).alloc hb9.size (.cells #[.int .i64 y, .int .i64 x] 3)))
  have C : Calls Tryz.prog 76 #[.pointer (some ⟨m, 0, none⟩), .int .i64 2, .slice (some ⟨w9.heap.size, 0, none⟩) 2 2] (w9.alloc (.cells #[.int .i64 y, .int .i64 x] 3)) (PutPost B _ m M (x :: y :: sk).reverse lo ar) := put_rev h1 2 (by simp) (by simp; omega) (some ⟨w9.heap.size, 0, none⟩) 2 2 [y, x] (x :: y :: sk) (reads_new2 _ y x) rfl (fun h => by cases h) (by omega) (by simp)
  have HB0 := hide (show Below B w (w9.alloc (.cells #[.int .i64 y, .int .i64 x] 3)) from ((hb0.trans (hb9.mono (by simp))).mono (by omega)).alloc (by have := hb9.size; simp at this; omega) _)
  unfold PutPost at C
  clear h1 CL
  go_wp2_with (go_at_call 76; go_must (with_reducible refine C.mono ?_; (rintro e w2 ⟨rfl, sv2, hM2, hb2⟩)))
  go_end0
  exact ⟨rfl, sv2, hM2, HB0.out.trans hb2⟩
set_option linter.unusedSimpArgs false in
set_option maxRecDepth 100000 in
set_option maxHeartbeats 2000000 in
theorem plain_two {B : Bd} {w : World} {m : Nat} {M : Mc} {sk lo ar : List Int} {x y v : Int} (h : Mach B w m M (y :: x :: sk).reverse lo ar) (op n : Int) (hop : 7 ≤ op ∧ op ≤ 13) (hv : rekL op x y = some v) (hn : sk.length ≤ 10000) : Calls Tryz.prog 88 #[.pointer (some ⟨m, 0, none⟩), .agg #[.int .i64 op, .int .i64 n]] w fun e w' => e = .returned (.tuple #[]) ∧ ∃ sv, Mach B w' m { M with sv := sv } (v :: sk).reverse lo ar ∧ Below B w w' := by
  have hlt := h.lt
  have hbm := h.bm
  have g1 : (op == 1) = false := by rw [beq_eq_false_iff_ne]; omega
  have g2 : (op == 2) = false := by rw [beq_eq_false_iff_ne]; omega
  have g3 : (op == 3) = false := by rw [beq_eq_false_iff_ne]; omega
  have g4 : (op == 4) = false := by rw [beq_eq_false_iff_ne]; omega
  have g5 : (op == 5) = false := by rw [beq_eq_false_iff_ne]; omega
  have g6 : (op == 6) = false := by rw [beq_eq_false_iff_ne]; omega
  have hb0 : Below w.heap.size w (w.alloc (.cells #[.int .i64 op, .int .i64 n] 40)) := ((Below.refl _ _).alloc (Nat.le_refl _) _)
  have hL : Mach B (w.alloc (.cells #[.int .i64 op, .int .i64 n] 40)) m M (sk.reverse ++ [x, y]) lo ar := by have := h.below hb0; simpa using this
  have CL := lastTwo_any hL (by simp; omega)
  have H0 := hide (h.below hb0)
  have CR := fun w => reckon_any op x y w
  unfold RekPost at CR
  rw [hv] at CR
  have hcb : (w.alloc (.cells #[.int .i64 op, .int .i64 n] 40)).cell? ⟨w.heap.size, 0, none⟩ = some (.int .i64 op) := cell_row (cs := [.int .i64 op, .int .i64 n]) (heap_alloc_new w _) rfl
  clear h hL
  go_enter Tryz.func88, Tryz.ntmps88
  go_wp2_with (go_at_call 92; go_must (with_reducible refine CL.mono ?_; (rintro e w9 ⟨rfl, hb9⟩); refine Hid.out ?_))
  refine Lib.hid ?_
  have cb9 : w9.drew.cell? ⟨w.heap.size, 0, none⟩ = some (.int .i64 op) := keep_cell hcb (hb9.drew)
  have hbn : Below (w.alloc (.cells #[.int .i64 op, .int .i64 n] 40)).heap.size (w.alloc (.cells #[.int .i64 op, .int .i64 n] 40)) (w9.alloc (.cells #[.int .i64 v] 3)).drew := (hb9.alloc hb9.size _).drew
  have h1 := H0.out.below hbn
  have C : Calls Tryz.prog 76 #[.pointer (some ⟨m, 0, none⟩), .int .i64 2, .slice (some ⟨w9.heap.size, 0, none⟩) 1 1] (w9.alloc (.cells #[.int .i64 v] 3)).drew (PutPost B _ m M (v :: sk).reverse lo ar) := put_rev h1 2 (by simp) (by simp; omega) (some ⟨w9.heap.size, 0, none⟩) 1 1 [v] (v :: sk) (Reads.drew (reads_new1 _ v)) rfl (fun h => by cases h) (by omega) (by simp)
  have HB0 := hide (show Below B w (w9.alloc (.cells #[.int .i64 v] 3)).drew from (hb0.trans (hbn.mono (by simp))).mono (by omega))
  unfold PutPost at C
  clear h1 CL hcb
  go_wp2_with fail
  refine wp_region_noPanic ?_
  refine wp_region_held_drew (S := fun _ => True) (by kernel_rfl) trivial (fun _ => ?_)
  refine takeD (i := 0) (d := some 17) (v := ?_) rfl rfl (by kernel_rfl) (by kernel_rfl) (by kernel_rfl) (fun _ _ _ h => h) (Or.inl ⟨by rfl, ?_⟩) trivial ?_
  rotate_left
  · intro w hSw
    go_simp
    try (with_reducible rfl)
  try simp only [Act.put, List.setIfInBounds_toArray, List.set_cons_zero, List.set_cons_succ]
  refine takeD (i := 1) (d := some 18) (v := ?_) rfl rfl (by kernel_rfl) (by kernel_rfl) (by kernel_rfl) (fun _ _ _ h => h) (Or.inl ⟨by rfl, ?_⟩) trivial ?_
  rotate_left
  · intro w hSw
    go_simp
    try (with_reducible rfl)
  try simp only [Act.put, List.setIfInBounds_toArray, List.set_cons_zero, List.set_cons_succ]
  refine takeD (i := 2) (d := some 19) (v := ?_) rfl rfl (by kernel_rfl) (by kernel_rfl) (by kernel_rfl) (fun _ _ _ h => h) (Or.inl ⟨by rfl, ?_⟩) trivial ?_
  rotate_left
  · intro w hSw
    go_simp
    try (with_reducible rfl)
  try simp only [Act.put, List.setIfInBounds_toArray, List.set_cons_zero, List.set_cons_succ]
  refine takeD (i := 3) (d := some 20) (v := ?_) rfl rfl (by kernel_rfl) (by kernel_rfl) (by kernel_rfl) (fun _ _ _ h => h) (Or.inl ⟨by rfl, ?_⟩) trivial ?_
  rotate_left
  · intro w hSw
    go_simp
    try (with_reducible rfl)
  try simp only [Act.put, List.setIfInBounds_toArray, List.set_cons_zero, List.set_cons_succ]
  refine takeD (i := 5) (d := some 22) (v := ?_) rfl rfl (by kernel_rfl) (by kernel_rfl) (by kernel_rfl) (fun _ _ _ h => h) (Or.inl ⟨by rfl, ?_⟩) trivial ?_
  rotate_left
  · intro w hSw
    go_simp
    try (with_reducible rfl)
  try simp only [Act.put, List.setIfInBounds_toArray, List.set_cons_zero, List.set_cons_succ]
  refine takeD (i := 6) (d := some 23) (v := ?_) rfl rfl (by kernel_rfl) (by kernel_rfl) (by kernel_rfl) (fun _ _ _ h => h) (Or.inl ⟨by rfl, ?_⟩) trivial ?_
  rotate_left
  · intro w hSw
    go_simp
    try (with_reducible rfl)
  try simp only [Act.put, List.setIfInBounds_toArray, List.set_cons_zero, List.set_cons_succ]
  refine wpAnyH_ready (rs := [4]) (by kernel_rfl) (by simp) ?_
  refine AllReadyH.cons rfl (fun K hK => ?_) AllReadyH.nil
  go_simp
  go_wp2_with fail
  refine hK.out _ _ trivial (fun _ => ?_)
  clear hK K
  try simp only [Act.put, List.setIfInBounds_toArray, List.set_cons_zero, List.set_cons_succ]
  refine wpAnyH_ready (rs := [7]) (by kernel_rfl) (by simp) ?_
  refine AllReadyH.cons rfl (fun K hK => ?_) AllReadyH.nil
  go_simp
  go_at_call 93
  with_reducible refine (CR _).mono ?_
  (rintro e w8 ⟨rfl, hw8⟩)
  subst hw8
  go_wp2_with fail
  refine hK.out _ _ trivial (fun _ => ?_)
  clear hK K
  try simp only [Act.put, List.setIfInBounds_toArray, List.set_cons_zero, List.set_cons_succ]
  refine wpAnyH_ready (rs := [8]) (by kernel_rfl) (by simp) ?_
  refine AllReadyH.cons rfl (fun K hK => ?_) AllReadyH.nil
  go_simp
  go_wp2_with fail
  refine hK.out _ _ trivial (fun _ => ?_)
  clear hK K
  try simp only [Act.put, List.setIfInBounds_toArray, List.set_cons_zero, List.set_cons_succ]
  refine wpAnyH_ready (rs := [9]) (by kernel_rfl) (by simp) ?_
  refine AllReadyH.cons rfl (fun K hK => ?_) AllReadyH.nil
  go_simp
  go_at_call 76
  with_reducible refine C.mono ?_
  (rintro e w2 ⟨rfl, sv2, hM2, hb2⟩)
  go_wp2_with fail
  refine hK.out _ _ trivial (fun _ => ?_)
  clear hK K
  try simp only [Act.put, List.setIfInBounds_toArray, List.set_cons_zero, List.set_cons_succ]
  refine wpAnyH_done (by kernel_rfl) ?_ _
  refine NoPanic.normal ?_
  go_wp2_with fail
  go_end0
  exact ⟨rfl, sv2, hM2, HB0.out.trans hb2⟩
end Go.Proofs.YtbpcibnomkfglaaGreatDoor
/- step: an instruction that turns values alone. -/

namespace Go.Proofs.YtbpcibnomkfglaaGreatDoor
open Go.RowKit Go.ChangeShapes Go.WideShapes Go.ChangeAt Go.Deep

/-- The instruction where the machine stands. -/
theorem ins_cells {w : World} {ca : Option Addr} {code : List (Int × Int)} {k : Nat} {op n : Int} (h : Reads w ca (insV code)) (hk : code[k]? = some (op, n)) : ∃ cb co, ca = some ⟨cb, co, none⟩ ∧ w.cell? ⟨cb, co + k * 2, none⟩ = some (.int .i64 op) ∧ w.cell? ⟨cb, co + k * 2 + 1, none⟩ = some (.int .i64 n) := by
  have hat : ∀ (c : List (Int × Int)) (k : Nat), c[k]? = some (op, n) → (insV c)[k * 2]? = some (.int .i64 op) ∧ (insV c)[k * 2 + 1]? = some (.int .i64 n) := by
    intro c
    induction c with
    | nil => intro k h; simp at h
    | cons i r ih =>
      intro k h
      cases k with
      | zero => simp at h; subst h; exact ⟨rfl, rfl⟩
      | succ k =>
        have := ih k (by simpa using h)
        rw [show (k + 1) * 2 = k * 2 + 1 + 1 by omega]
        simpa [insV] using this
  obtain ⟨h1, h2⟩ := hat code k hk
  rcases h with h | ⟨cb, co, e, hc⟩
  · rw [h] at h1; simp at h1
  · exact ⟨cb, co, e, hc _ _ h1, by rw [Nat.add_assoc]; exact hc _ _ h2⟩

set_option linter.unusedSimpArgs false in
set_option maxRecDepth 100000 in
set_option maxHeartbeats 2000000 in
theorem step_plain {B : Bd} {w w0 : World} {m : Nat} {M : Mc} {sk sk' lo ar : List Int} {cs : List Value} {fs : List Fun} {args : List Int} {deep : Int} (h : Mach B w m M sk.reverse lo ar) (hJ : JobR w0 M.j cs fs args) (hB : B = w0.heap.size) (hb : Below B w0 w) (fn pc : Nat) (f : Fun) (op n : Int)
    (hfn : M.fn = (fn : Int)) (hpc : M.pc = (pc : Int)) (hf : fs[fn]? = some f) (hi : f.code[pc]? = some (op, n)) (hfu : M.fu < M.j.fuel) (hfl : -1000000 ≤ M.fu ∧ M.fu ≤ 1000000) (hes : -1000000 ≤ M.es ∧ M.es ≤ 1000000) (hpcl : pc ≤ 1000000) 
    (hop : ¬ (14 ≤ op ∧ op ≤ 19))
    (CP : ∀ W, Mach B W m { M with fu := M.fu + 1, es := M.es + 1 } sk.reverse lo ar → Calls Tryz.prog 88 #[.pointer (some ⟨m, 0, none⟩), .agg #[.int .i64 op, .int .i64 n]] W fun e w' => e = .returned (.tuple #[]) ∧ ∃ sv, Mach B w' m { M with fu := M.fu + 1, es := M.es + 1, sv := sv } sk'.reverse lo ar ∧ Below B W w') :
    Calls Tryz.prog 75 #[.pointer (some ⟨m, 0, none⟩), .int .i64 deep] w fun e w' => e = .returned (.tuple #[]) ∧ ∃ sv, Mach B w' m { M with fu := M.fu + 1, es := M.es + 1, sv := sv, pc := (pc : Int) + 1 } sk'.reverse lo ar ∧ Below B w w' := by
  have hlt := h.lt
  have hbm := h.bm
  have N1 := fun w => tneed_yes 21 w
  have c2 := h.cell 2 _ rfl
  have c10 := h.cell 10 _ rfl
  have hbs := hb.size
  go_enter Tryz.func75, Tryz.ntmps75
  go_wp2_with fail
  go_big_quiet (first | (go_at_call 53; with_reducible exact Calls.quiet_of_same (N1 _)))
  have hb1 : Below w.heap.size w (w.drewN nq) := below_drewN' (Below.refl _ _) nq
  have h1 := h.below hb1
  have hB1 : Below B w0 (w.drewN nq) := hb.trans (hb1.mono (by omega))
  generalize w.drewN nq = w1 at *
  clear c2 c10
  have c2 := h1.cell 2 _ rfl
  have f2 := h1.froz 2
  have h2 := h1.put (M' := { M with fu := M.fu + 1 }) 2 (.int .i64 (M.fu + 1)) rfl rfl rfl rfl
  have hB2 : Below B w0 (w1.setCell ⟨m, 2, none⟩ (.int .i64 (M.fu + 1))) := hB1.setCell (p := ⟨m, 2, none⟩) hbm _
  have hw2 : Below B w (w1.setCell ⟨m, 2, none⟩ (.int .i64 (M.fu + 1))) := (hb1.mono (by omega)).setCell (p := ⟨m, 2, none⟩) hbm _
  go_upto_region 2 with fail
  clear c2 f2
  generalize w1.setCell ⟨m, 2, none⟩ (.int .i64 (M.fu + 1)) = w2 at *
  have c15 := h2.cell 15 _ rfl
  have f15 := h2.froz 15
  have h3 := h2.put (M' := { M with fu := M.fu + 1, es := M.es + 1 }) 15 (.int .i64 (M.es + 1)) rfl rfl rfl rfl
  have hB3 : Below B w0 (w2.setCell ⟨m, 15, none⟩ (.int .i64 (M.es + 1))) := hB2.setCell (p := ⟨m, 15, none⟩) hbm _
  have hw3 : Below B w (w2.setCell ⟨m, 15, none⟩ (.int .i64 (M.es + 1))) := hw2.setCell (p := ⟨m, 15, none⟩) hbm _
  go_upto_region 3 with fail
  clear c15 f15
  generalize w2.setCell ⟨m, 15, none⟩ (.int .i64 (M.es + 1)) = w3 at *
  have hJ3 : JobR w3 M.j cs fs args := hJ.below (hB ▸ hB3)
  have hfl2 : fn < fs.length := (List.getElem?_eq_some_iff.1 hf).1
  have hpl : pc < f.code.length := (List.getElem?_eq_some_iff.1 hi).1
  obtain ⟨fb, off, ca, cc, ea, _, _, _, k3, hrc, _⟩ := hJ3.fun_at hfl2
  have efn : fs[fn] = f := (List.getElem?_eq_some_iff.1 hf).2
  rw [efn] at k3 hrc
  obtain ⟨cb, co, rfl, ki, kn⟩ := ins_cells hrc hi
  have c7 := h3.cell 7 _ rfl
  have c0 := h3.cell 0 _ rfl
  have c1 := h3.cell 1 _ rfl
  simp only [ea, hfn, hpc, hJ3.nf] at c7 c0 c1
  have hba := alloc_below w3 (.cells #[.int .i64 0, .int .i64 0] 40)
  have c7' := keep_cell c7 hba
  have c0' := keep_cell c0 hba
  have c1' := keep_cell c1 hba
  have k3' := keep_cell k3 hba
  have ki' := keep_cell ki hba
  have kn' := keep_cell kn hba
  have hfl3 : (fn : Int) < (fs.length : Int) := by omega
  have hpl3 : (pc : Int) < (f.code.length : Int) := by omega
  have H3 := hide h3
  have HW3 := hide hw3
  have HCP := hide CP
  clear h h1 h2 h3 hw2 hw3 hJ3 hrc CP hB1 hB2 hB3 hJ hb hb1 hf hi efn
  go_big_region
  have hb4 : Below w3.heap.size w3 (w3.alloc (.cells #[.int .i64 op, .int .i64 n] 40)).drew := (alloc_below w3 _).drew
  have h4 := H3.out.below hb4
  have hw4 : Below B w (w3.alloc (.cells #[.int .i64 op, .int .i64 n] 40)).drew := HW3.out.trans (hb4.mono (by have := H3.out.lt; omega))
  have C := HCP.out _ h4
  have g14 : (op == 14) = false := by rw [beq_eq_false_iff_ne]; omega
  have g15 : (op == 15) = false := by rw [beq_eq_false_iff_ne]; omega
  have g16 : (op == 16) = false := by rw [beq_eq_false_iff_ne]; omega
  have g17 : (op == 17) = false := by rw [beq_eq_false_iff_ne]; omega
  have g18 : (op == 18) = false := by rw [beq_eq_false_iff_ne]; omega
  have g19 : (op == 19) = false := by rw [beq_eq_false_iff_ne]; omega
  clear c7 c0 c1 k3 ki kn c7' c0' c1' k3' ki' kn' H3 HW3 HCP h4 hb4 hba
  go_wp2_with (go_at_call 88; go_must (with_reducible refine C.mono ?_; (rintro e w5 ⟨rfl, sv5, h5, hb5⟩); refine Hid.out ?_))
  refine Lib.hid ?_
  have c1 := h5.cell 1 _ rfl
  simp only [hpc] at c1
  have f1 := h5.froz 1
  have h6 := h5.put (M' := { M with fu := M.fu + 1, es := M.es + 1, sv := sv5, pc := (pc : Int) + 1 }) 1 (.int .i64 ((pc : Int) + 1)) rfl rfl rfl rfl
  have HB6 := hide (show Below B w (w5.setCell ⟨m, 1, none⟩ (.int .i64 ((pc : Int) + 1))) from (hw4.trans hb5).setCell (p := ⟨m, 1, none⟩) hbm _)
  have H6 := hide h6
  clear h5 h6 C
  go_wp2_with fail
  go_end0
  exact ⟨rfl, sv5, H6.out, HB6.out⟩
end Go.Proofs.YtbpcibnomkfglaaGreatDoor
/- ended. -/

namespace Go.Proofs.YtbpcibnomkfglaaGreatDoor
open Go.RowKit Go.ChangeShapes Go.WideShapes Go.ChangeAt Go.Deep

def Mc.stV (M : Mc) : Value := .agg #[.int .i64 M.fn, .int .i64 M.pc, .int .i64 M.fu, M.sv, M.lv, .int .i64 M.kd, .bool M.wt]
def Mc.evV (M : Mc) : Value := .agg #[.int .i64 M.ek, .int .i64 M.ef, .int .i64 M.ei, .int .i64 M.es, M.av, .int .i64 M.er, .int .i64 M.ev]

theorem store_seven {w : World} {b : Nat} {t : TypeId} {old : Array Value} {vs : List Value} (h : w.heap[b]? = some (.cells old t (0, 0))) (hl : old.size = vs.length) (h1 : ∀ v ∈ vs, v.oneCell' = true) : (storeCells ⟨b, 0, none⟩ vs).run Tryz.prog w = .ok () (w.setCells b 0 vs) := by
  have := run_storeCells_cells (P := Tryz.prog) b 0 vs 0 w (fun j hj => by
    simp only [Nat.zero_add]
    simp [World.cell?, h, show j < old.size by omega]) (fun j _ => by simp [World.frozen?, h]) h1
  exact this
theorem setCells_other {b k : Nat} (hk : k ≠ b) : ∀ (vs : List Value) (o : Nat) (w : World), (w.setCells b o vs).heap[k]? = w.heap[k]?
  | [], _, _ => rfl
  | v :: r, o, w => by
    unfold World.setCells
    rw [setCells_other hk r (o + 1) (w.setCell ⟨b, o, none⟩ v)]
    exact heap_setCell_other _ _ _ _ hk
theorem setCells_below {B b : Nat} (hb : B ≤ b) : ∀ (vs : List Value) (o : Nat) {w0 w : World}, Below B w0 w → Below B w0 (w.setCells b o vs)
  | [], _, _, _, h => h
  | v :: r, o, w0, w, h => by
    unfold World.setCells
    exact setCells_below hb r (o + 1) (h.setCell (p := ⟨b, o, none⟩) hb _)
theorem setCells_at {w : World} {b : Nat} {t : TypeId} {old : Array Value} {vs : List Value} (h : w.heap[b]? = some (.cells old t (0, 0))) (hl : old.size = vs.length) {j : Nat} {v : Value} (hj : vs[j]? = some v) : (w.setCells b 0 vs).cell? ⟨b, j, none⟩ = some v := by
  have hlt : j < vs.length := by
    rcases Nat.lt_or_ge j vs.length with q | q
    · exact q
    · rw [List.getElem?_eq_none q] at hj; cases hj
  have := World.cell?_setCells_in b vs 0 w (fun j hj => by
    rw [Nat.zero_add]
    simp [World.cell?, h, show j < old.size by omega]) j hlt
  rw [Nat.zero_add] at this
  rw [this]
  rw [List.getElem?_eq_getElem hlt] at hj
  simpa using hj
theorem Mach.far {B : Bd} {w w' : World} {m : Nat} {M : Mc} {st lo ar : List Int} (h : Mach B w m M st lo ar) (hk : ∀ (g : Nat) (c : Array Value) (t : TypeId), (t = 3 ∨ t = 134 ∨ t = 128) → w.heap[g]? = some (Obj.cells c t (0, 0)) → w'.heap[g]? = w.heap[g]?) : Mach B w' m M st lo ar := by
  have kr : ∀ {v n xs}, w.ownsRow B 3 1 v n xs → w'.ownsRow B 3 1 v n xs := fun ho => own_keepI ho (fun g hg => by
    rcases ho.2 with ⟨e, _⟩ | ⟨g', cap, cur, e, _, h2, _⟩
    · rw [e] at hg; cases hg
    · rw [e] at hg
      cases hg
      exact hk _ _ 3 (.inl rfl) h2)
  exact ⟨by rw [hk m _ 134 (.inr (.inl rfl)) h.at_]; exact h.at_, h.bm, kr h.own, kr h.loc, kr h.arg, h.sl, h.sa, h.la, fun k v hkv => (hk k _ 128 (.inr (.inr rfl)) (h.kept k v hkv)).trans (h.kept k v hkv)⟩

set_option linter.unusedSimpArgs false in
set_option maxRecDepth 100000 in
set_option maxHeartbeats 2000000 in
theorem ended_any {B : Bd} {w : World} {m : Nat} {M : Mc} {st lo ar : List Int} (h : Mach B w m M st lo ar) (er ev : Int) :
    Calls Tryz.prog 58 #[.pointer (some ⟨m, 0, none⟩), .agg #[.int .i64 er, .int .i64 ev]] w fun e w' => e = .returned (.tuple #[{ M with ek := 3, er := er, ev := ev }.stV, { M with ek := 3, er := er, ev := ev }.evV]) ∧ Mach B w' m { M with ek := 3, er := er, ev := ev } st lo ar ∧ Below B w w' := by
  obtain ⟨fn, pc, fu, sv, lv, kd, wt, j, ek, ef, ei, es, av, er0, ev0⟩ := M
  obtain ⟨sa, sc, rfl, _⟩ := slice_form h.own rfl
  obtain ⟨la, lc, rfl, _⟩ := slice_form h.loc rfl
  obtain ⟨aa, ac, rfl, _⟩ := slice_form h.arg rfl
  have hlt := h.lt
  have hbm := h.bm
  go_enter Tryz.func58, Tryz.ntmps58
  go_wp2_with fail
  have hb3 : Below w.heap.size w (((w.alloc (.cells #[.int .i64 er, .int .i64 ev] 34)).alloc (.cells #[.int .i64 0, .int .i64 0, .int .i64 0, .slice none 0 0, .slice none 0 0, .int .i64 0, .bool false] 70)).alloc (.cells #[.int .i64 0, .int .i64 0, .int .i64 0, .int .i64 0, .slice none 0 0, .int .i64 0, .int .i64 0] 100)) := (((Below.refl _ _).alloc (Nat.le_refl _) _).alloc (by simp) _).alloc (by simp; omega) _
  have hx3 : (((w.alloc (.cells #[.int .i64 er, .int .i64 ev] 34)).alloc (.cells #[.int .i64 0, .int .i64 0, .int .i64 0, .slice none 0 0, .slice none 0 0, .int .i64 0, .bool false] 70)).alloc (.cells #[.int .i64 0, .int .i64 0, .int .i64 0, .int .i64 0, .slice none 0 0, .int .i64 0, .int .i64 0] 100)).heap[w.heap.size]? = some (.cells #[.int .i64 er, .int .i64 ev] 34 (0, 0)) := by
    rw [heap_alloc_old _ _ (by simp; omega), heap_alloc_old _ _ (by simp), heap_alloc_new]
  have hs3 : (((w.alloc (.cells #[.int .i64 er, .int .i64 ev] 34)).alloc (.cells #[.int .i64 0, .int .i64 0, .int .i64 0, .slice none 0 0, .slice none 0 0, .int .i64 0, .bool false] 70)).alloc (.cells #[.int .i64 0, .int .i64 0, .int .i64 0, .int .i64 0, .slice none 0 0, .int .i64 0, .int .i64 0] 100)).heap[w.heap.size + 1]? = some (.cells #[.int .i64 0, .int .i64 0, .int .i64 0, .slice none 0 0, .slice none 0 0, .int .i64 0, .bool false] 70 (0, 0)) := by
    rw [heap_alloc_old _ _ (by simp)]
    have := heap_alloc_new (w.alloc (.cells #[.int .i64 er, .int .i64 ev] 34)) (.cells #[.int .i64 0, .int .i64 0, .int .i64 0, .slice none 0 0, .slice none 0 0, .int .i64 0, .bool false] 70)
    simpa using this
  have he3 : (((w.alloc (.cells #[.int .i64 er, .int .i64 ev] 34)).alloc (.cells #[.int .i64 0, .int .i64 0, .int .i64 0, .slice none 0 0, .slice none 0 0, .int .i64 0, .bool false] 70)).alloc (.cells #[.int .i64 0, .int .i64 0, .int .i64 0, .int .i64 0, .slice none 0 0, .int .i64 0, .int .i64 0] 100)).heap[w.heap.size + 1 + 1]? = some (.cells #[.int .i64 0, .int .i64 0, .int .i64 0, .int .i64 0, .slice none 0 0, .int .i64 0, .int .i64 0] 100 (0, 0)) := by
    have := heap_alloc_new ((w.alloc (.cells #[.int .i64 er, .int .i64 ev] 34)).alloc (.cells #[.int .i64 0, .int .i64 0, .int .i64 0, .slice none 0 0, .slice none 0 0, .int .i64 0, .bool false] 70)) (.cells #[.int .i64 0, .int .i64 0, .int .i64 0, .int .i64 0, .slice none 0 0, .int .i64 0, .int .i64 0] 100)
    simpa using this
  have h3 := h.below hb3
  generalize (((w.alloc (.cells #[.int .i64 er, .int .i64 ev] 34)).alloc (.cells #[.int .i64 0, .int .i64 0, .int .i64 0, .slice none 0 0, .slice none 0 0, .int .i64 0, .bool false] 70)).alloc (.cells #[.int .i64 0, .int .i64 0, .int .i64 0, .int .i64 0, .slice none 0 0, .int .i64 0, .int .i64 0] 100)) = w3 at *
  have b0 : w3.cell? ⟨w.heap.size, 0, none⟩ = some (.int .i64 er) := by simp [World.cell?, hx3]
  have b1 : w3.cell? ⟨w.heap.size, 1, none⟩ = some (.int .i64 ev) := by simp [World.cell?, hx3]
  have c12 := h3.cell 12 _ rfl
  have f12 := h3.froz 12
  have h4 := h3.put (M' := ⟨fn, pc, fu, .slice sa st.length sc, .slice la lo.length lc, kd, wt, j, 3, ef, ei, es, .slice aa ar.length ac, er0, ev0⟩) 12 (.int .i64 3) rfl rfl rfl rfl
  have c17 := h4.cell 17 _ rfl
  have f17 := h4.froz 17
  have h5 := h4.put (M' := ⟨fn, pc, fu, .slice sa st.length sc, .slice la lo.length lc, kd, wt, j, 3, ef, ei, es, .slice aa ar.length ac, er, ev0⟩) 17 (.int .i64 er) rfl rfl rfl rfl
  have c18 := h5.cell 18 _ rfl
  have f18 := h5.froz 18
  have f18' := h4.froz 18
  have c18' := h4.cell 18 _ rfl
  have h6 := h5.put (M' := ⟨fn, pc, fu, .slice sa st.length sc, .slice la lo.length lc, kd, wt, j, 3, ef, ei, es, .slice aa ar.length ac, er, ev⟩) 18 (.int .i64 ev) rfl rfl rfl rfl
  have hb6 : Below B w (((w3.setCell ⟨m, 12, none⟩ (.int .i64 3)).setCell ⟨m, 17, none⟩ (.int .i64 er)).setCell ⟨m, 18, none⟩ (.int .i64 ev)) := (((hb3.mono (by omega)).setCell (p := ⟨m, 12, none⟩) hbm _).setCell (p := ⟨m, 17, none⟩) hbm _).setCell (p := ⟨m, 18, none⟩) hbm _
  have hs6 : (((w3.setCell ⟨m, 12, none⟩ (.int .i64 3)).setCell ⟨m, 17, none⟩ (.int .i64 er)).setCell ⟨m, 18, none⟩ (.int .i64 ev)).heap[w.heap.size + 1]? = some (.cells #[.int .i64 0, .int .i64 0, .int .i64 0, .slice none 0 0, .slice none 0 0, .int .i64 0, .bool false] 70 (0, 0)) := by
    rw [heap_setCell_other _ _ _ _ (by show w.heap.size + 1 ≠ m; omega), heap_setCell_other _ _ _ _ (by show w.heap.size + 1 ≠ m; omega), heap_setCell_other _ _ _ _ (by show w.heap.size + 1 ≠ m; omega)]
    exact hs3
  have he6 : (((w3.setCell ⟨m, 12, none⟩ (.int .i64 3)).setCell ⟨m, 17, none⟩ (.int .i64 er)).setCell ⟨m, 18, none⟩ (.int .i64 ev)).heap[w.heap.size + 1 + 1]? = some (.cells #[.int .i64 0, .int .i64 0, .int .i64 0, .int .i64 0, .slice none 0 0, .int .i64 0, .int .i64 0] 100 (0, 0)) := by
    rw [heap_setCell_other _ _ _ _ (by show w.heap.size + 1 + 1 ≠ m; omega), heap_setCell_other _ _ _ _ (by show w.heap.size + 1 + 1 ≠ m; omega), heap_setCell_other _ _ _ _ (by show w.heap.size + 1 + 1 ≠ m; omega)]
    exact he3
  clear hx3 hs3 he3
  go_big_region
  clear b0 b1 c12 f12 c17 f17 c18 f18 c18' f18' h h3 h4 h5 hb3
  generalize (((w3.setCell ⟨m, 12, none⟩ (.int .i64 3)).setCell ⟨m, 17, none⟩ (.int .i64 er)).setCell ⟨m, 18, none⟩ (.int .i64 ev)) = w6 at *
  have h7 := h6.below ((Below.refl _ _).drew)
  have cs := fun i u hu => h7.cell i u hu
  have c0 := cs 0 _ rfl
  have c1 := cs 1 _ rfl
  have c2 := cs 2 _ rfl
  have c3 := cs 3 _ rfl
  have c4 := cs 4 _ rfl
  have c5 := cs 5 _ rfl
  have c6 := cs 6 _ rfl
  have c12 := cs 12 _ rfl
  have c13 := cs 13 _ rfl
  have c14 := cs 14 _ rfl
  have c15 := cs 15 _ rfl
  have c16 := cs 16 _ rfl
  have c17 := cs 17 _ rfl
  have c18 := cs 18 _ rfl
  have hs7 : w6.drew.heap[w.heap.size + 1]? = _ := hs6
  have he7 : w6.drew.heap[w.heap.size + 1 + 1]? = _ := he6
  have hb7 : Below B w w6.drew := hb6.drew
  clear hs6 he6 hb6 h6
  generalize w6.drew = w7 at *
  clear cs
  have z0 : w7.cell? ⟨w.heap.size + 1, 0, none⟩ = some (.int .i64 0) := by simp [World.cell?, hs7]
  have zf0 : w7.frozen? ⟨w.heap.size + 1, 0, none⟩ = false := by simp [World.frozen?, hs7]
  have y0 : w7.cell? ⟨w.heap.size + 1 + 1, 0, none⟩ = some (.int .i64 0) := by simp [World.cell?, he7]
  have yf0 : w7.frozen? ⟨w.heap.size + 1 + 1, 0, none⟩ = false := by simp [World.frozen?, he7]
  have z1 : w7.cell? ⟨w.heap.size + 1, 1, none⟩ = some (.int .i64 0) := by simp [World.cell?, hs7]
  have zf1 : w7.frozen? ⟨w.heap.size + 1, 1, none⟩ = false := by simp [World.frozen?, hs7]
  have y1 : w7.cell? ⟨w.heap.size + 1 + 1, 1, none⟩ = some (.int .i64 0) := by simp [World.cell?, he7]
  have yf1 : w7.frozen? ⟨w.heap.size + 1 + 1, 1, none⟩ = false := by simp [World.frozen?, he7]
  have z2 : w7.cell? ⟨w.heap.size + 1, 2, none⟩ = some (.int .i64 0) := by simp [World.cell?, hs7]
  have zf2 : w7.frozen? ⟨w.heap.size + 1, 2, none⟩ = false := by simp [World.frozen?, hs7]
  have y2 : w7.cell? ⟨w.heap.size + 1 + 1, 2, none⟩ = some (.int .i64 0) := by simp [World.cell?, he7]
  have yf2 : w7.frozen? ⟨w.heap.size + 1 + 1, 2, none⟩ = false := by simp [World.frozen?, he7]
  have z3 : w7.cell? ⟨w.heap.size + 1, 3, none⟩ = some (.slice none 0 0) := by simp [World.cell?, hs7]
  have zf3 : w7.frozen? ⟨w.heap.size + 1, 3, none⟩ = false := by simp [World.frozen?, hs7]
  have y3 : w7.cell? ⟨w.heap.size + 1 + 1, 3, none⟩ = some (.int .i64 0) := by simp [World.cell?, he7]
  have yf3 : w7.frozen? ⟨w.heap.size + 1 + 1, 3, none⟩ = false := by simp [World.frozen?, he7]
  have z4 : w7.cell? ⟨w.heap.size + 1, 4, none⟩ = some (.slice none 0 0) := by simp [World.cell?, hs7]
  have zf4 : w7.frozen? ⟨w.heap.size + 1, 4, none⟩ = false := by simp [World.frozen?, hs7]
  have y4 : w7.cell? ⟨w.heap.size + 1 + 1, 4, none⟩ = some (.slice none 0 0) := by simp [World.cell?, he7]
  have yf4 : w7.frozen? ⟨w.heap.size + 1 + 1, 4, none⟩ = false := by simp [World.frozen?, he7]
  have z5 : w7.cell? ⟨w.heap.size + 1, 5, none⟩ = some (.int .i64 0) := by simp [World.cell?, hs7]
  have zf5 : w7.frozen? ⟨w.heap.size + 1, 5, none⟩ = false := by simp [World.frozen?, hs7]
  have y5 : w7.cell? ⟨w.heap.size + 1 + 1, 5, none⟩ = some (.int .i64 0) := by simp [World.cell?, he7]
  have yf5 : w7.frozen? ⟨w.heap.size + 1 + 1, 5, none⟩ = false := by simp [World.frozen?, he7]
  have z6 : w7.cell? ⟨w.heap.size + 1, 6, none⟩ = some (.bool false) := by simp [World.cell?, hs7]
  have zf6 : w7.frozen? ⟨w.heap.size + 1, 6, none⟩ = false := by simp [World.frozen?, hs7]
  have y6 : w7.cell? ⟨w.heap.size + 1 + 1, 6, none⟩ = some (.int .i64 0) := by simp [World.cell?, he7]
  have yf6 : w7.frozen? ⟨w.heap.size + 1 + 1, 6, none⟩ = false := by simp [World.frozen?, he7]
  have H7 := hide h7
  have HB7 := hide hb7
  have HS7 := hide hs7
  have HE7 := hide he7
  clear h7 hb7 hs7 he7
  go_wp2_with fail
  go_big_region
  clear z0 zf0 y0 yf0 z1 zf1 y1 yf1 z2 zf2 y2 yf2 z3 zf3 y3 yf3 z4 zf4 y4 yf4 z5 zf5 y5 yf5 z6 zf6 y6 yf6 c0 c1 c2 c3 c4 c5 c6 c12 c13 c14 c15 c16 c17 c18
  show Exit.then _ _ Exit.normal _ (((w7.setCells (w.heap.size + 1) 0 [.int .i64 fn, .int .i64 pc, .int .i64 fu, .slice sa st.length sc, .slice la lo.length lc, .int .i64 kd, .bool wt]).setCells (w.heap.size + 1 + 1) 0 [.int .i64 3, .int .i64 ef, .int .i64 ei, .int .i64 es, .slice aa ar.length ac, .int .i64 er, .int .i64 ev]).drew)
  obtain ⟨S, hS⟩ : ∃ S : List Value, S = [.int .i64 fn, .int .i64 pc, .int .i64 fu, .slice sa st.length sc, .slice la lo.length lc, .int .i64 kd, .bool wt] := ⟨_, rfl⟩
  obtain ⟨E, hE⟩ : ∃ E : List Value, E = [.int .i64 3, .int .i64 ef, .int .i64 ei, .int .i64 es, .slice aa ar.length ac, .int .i64 er, .int .i64 ev] := ⟨_, rfl⟩
  have lS : S.length = 7 := by rw [hS]; rfl
  have lE : E.length = 7 := by rw [hE]; rfl
  rw [← hS, ← hE]
  have he8 := (setCells_other (k := w.heap.size + 1 + 1) (b := w.heap.size + 1) (by omega) S 0 w7).trans HE7.out
  have r1 : ∀ i u, S[i]? = some u → (((w7.setCells (w.heap.size + 1) 0 S).setCells (w.heap.size + 1 + 1) 0 E).drew).cell? ⟨w.heap.size + 1, i, none⟩ = some u := fun i u hu => by
    show ((w7.setCells (w.heap.size + 1) 0 S).setCells (w.heap.size + 1 + 1) 0 E).cell? ⟨w.heap.size + 1, i, none⟩ = some u
    rw [World.cell?_of_block (setCells_other (k := w.heap.size + 1) (b := w.heap.size + 1 + 1) (by omega) E 0 _)]
    exact setCells_at (vs := S) HS7.out (by rw [lS]; rfl) hu
  have r2 : ∀ i u, E[i]? = some u → (((w7.setCells (w.heap.size + 1) 0 S).setCells (w.heap.size + 1 + 1) 0 E).drew).cell? ⟨w.heap.size + 1 + 1, i, none⟩ = some u := fun i u hu => by
    show ((w7.setCells (w.heap.size + 1) 0 S).setCells (w.heap.size + 1 + 1) 0 E).cell? ⟨w.heap.size + 1 + 1, i, none⟩ = some u
    exact setCells_at (vs := E) he8 (by rw [lE]; rfl) hu
  have HM9 := hide ((H7.out.far (w' := ((w7.setCells (w.heap.size + 1) 0 S).setCells (w.heap.size + 1 + 1) 0 E)) (fun g c t ht hg => by
    rw [setCells_other (k := g) (b := w.heap.size + 1 + 1) (by intro e; rw [e, HE7.out] at hg; simp only [Option.some.injEq, Obj.cells.injEq] at hg; rcases ht with q | q | q <;> (rw [q] at hg; exact absurd hg.2.1 (by decide))) E 0 _, setCells_other (k := g) (b := w.heap.size + 1) (by intro e; rw [e, HS7.out] at hg; simp only [Option.some.injEq, Obj.cells.injEq] at hg; rcases ht with q | q | q <;> (rw [q] at hg; exact absurd hg.2.1 (by decide))) S 0 _])).below ((Below.refl _ _).drew))
  have HB9 := hide (show Below B w (((w7.setCells (w.heap.size + 1) 0 S).setCells (w.heap.size + 1 + 1) 0 E).drew) from (setCells_below (by omega) _ _ (setCells_below (by omega) _ _ HB7.out)).drew)
  generalize ((w7.setCells (w.heap.size + 1) 0 S).setCells (w.heap.size + 1 + 1) 0 E).drew = w9 at *
  clear he8 lS lE H7 HB7 HS7 HE7
  subst hS
  subst hE
  have x0 := r1 0 _ rfl
  have x1 := r1 1 _ rfl
  have x2 := r1 2 _ rfl
  have x3 := r1 3 _ rfl
  have x4 := r1 4 _ rfl
  have x5 := r1 5 _ rfl
  have x6 := r1 6 _ rfl
  have v0 := r2 0 _ rfl
  have v1 := r2 1 _ rfl
  have v2 := r2 2 _ rfl
  have v3 := r2 3 _ rfl
  have v4 := r2 4 _ rfl
  have v5 := r2 5 _ rfl
  have v6 := r2 6 _ rfl
  clear r1 r2
  go_wp2_with fail
  exact bodyPost_ret (v := .tuple #[.agg #[.int .i64 fn, .int .i64 pc, .int .i64 fu, .slice sa st.length sc, .slice la lo.length lc, .int .i64 kd, .bool wt], .agg #[.int .i64 3, .int .i64 ef, .int .i64 ei, .int .i64 es, .slice aa ar.length ac, .int .i64 er, .int .i64 ev]]) (by simp [results, Tryz.results58, go_sem, x0, x1, x2, x3, x4, x5, x6, v0, v1, v2, v3, v4, v5, v6]) rfl ⟨rfl, HM9.out, HB9.out⟩
end Go.Proofs.YtbpcibnomkfglaaGreatDoor
/- step: ret. -/

namespace Go.Proofs.YtbpcibnomkfglaaGreatDoor
open Go.RowKit Go.ChangeShapes Go.WideShapes Go.ChangeAt Go.Deep

set_option linter.unusedSimpArgs false in
set_option maxRecDepth 100000 in
set_option maxHeartbeats 2000000 in
theorem step_ret {B : Bd} {w w0 : World} {m : Nat} {M : Mc} {sk lo ar : List Int} {x : Int} {cs : List Value} {fs : List Fun} {args : List Int} {deep : Int} (h : Mach B w m M (x :: sk).reverse lo ar) (hJ : JobR w0 M.j cs fs args) (hB : B = w0.heap.size) (hb : Below B w0 w) (fn pc : Nat) (f : Fun) (n : Int)
    (hfn : M.fn = (fn : Int)) (hpc : M.pc = (pc : Int)) (hf : fs[fn]? = some f) (hi : f.code[pc]? = some (18, n)) (hfu : M.fu < M.j.fuel) (hfl : -1000000 ≤ M.fu ∧ M.fu ≤ 1000000) (hes : -1000000 ≤ M.es ∧ M.es ≤ 1000000) (_hpcl : pc ≤ 1000000) 
    (hsk : sk.length ≤ 10000) :
    Calls Tryz.prog 75 #[.pointer (some ⟨m, 0, none⟩), .int .i64 deep] w fun e w' => e = .returned (.tuple #[]) ∧ Mach B w' m { M with fu := M.fu + 1, es := M.es + 1, ek := 3, er := 0, ev := x } (x :: sk).reverse lo ar ∧ Below B w w' := by
  have hlt := h.lt
  have hbm := h.bm
  have N1 := fun w => tneed_yes 21 w
  have c2 := h.cell 2 _ rfl
  have c10 := h.cell 10 _ rfl
  have hbs := hb.size
  go_enter Tryz.func75, Tryz.ntmps75
  go_wp2_with fail
  go_big_quiet (first | (go_at_call 53; with_reducible exact Calls.quiet_of_same (N1 _)))
  have hb1 : Below w.heap.size w (w.drewN nq) := below_drewN' (Below.refl _ _) nq
  have h1 := h.below hb1
  have hB1 : Below B w0 (w.drewN nq) := hb.trans (hb1.mono (by omega))
  generalize w.drewN nq = w1 at *
  clear c2 c10
  have c2 := h1.cell 2 _ rfl
  have f2 := h1.froz 2
  have h2 := h1.put (M' := { M with fu := M.fu + 1 }) 2 (.int .i64 (M.fu + 1)) rfl rfl rfl rfl
  have hB2 : Below B w0 (w1.setCell ⟨m, 2, none⟩ (.int .i64 (M.fu + 1))) := hB1.setCell (p := ⟨m, 2, none⟩) hbm _
  have hw2 : Below B w (w1.setCell ⟨m, 2, none⟩ (.int .i64 (M.fu + 1))) := (hb1.mono (by omega)).setCell (p := ⟨m, 2, none⟩) hbm _
  go_upto_region 2 with fail
  clear c2 f2
  generalize w1.setCell ⟨m, 2, none⟩ (.int .i64 (M.fu + 1)) = w2 at *
  have c15 := h2.cell 15 _ rfl
  have f15 := h2.froz 15
  have h3 := h2.put (M' := { M with fu := M.fu + 1, es := M.es + 1 }) 15 (.int .i64 (M.es + 1)) rfl rfl rfl rfl
  have hB3 : Below B w0 (w2.setCell ⟨m, 15, none⟩ (.int .i64 (M.es + 1))) := hB2.setCell (p := ⟨m, 15, none⟩) hbm _
  have hw3 : Below B w (w2.setCell ⟨m, 15, none⟩ (.int .i64 (M.es + 1))) := hw2.setCell (p := ⟨m, 15, none⟩) hbm _
  go_upto_region 3 with fail
  clear c15 f15
  generalize w2.setCell ⟨m, 15, none⟩ (.int .i64 (M.es + 1)) = w3 at *
  have hJ3 : JobR w3 M.j cs fs args := hJ.below (hB ▸ hB3)
  have hfl2 : fn < fs.length := (List.getElem?_eq_some_iff.1 hf).1
  have hpl : pc < f.code.length := (List.getElem?_eq_some_iff.1 hi).1
  obtain ⟨fb, off, ca, cc, ea, _, _, _, k3, hrc, _⟩ := hJ3.fun_at hfl2
  have efn : fs[fn] = f := (List.getElem?_eq_some_iff.1 hf).2
  rw [efn] at k3 hrc
  obtain ⟨cb, co, rfl, ki, kn⟩ := ins_cells hrc hi
  have c7 := h3.cell 7 _ rfl
  have c0 := h3.cell 0 _ rfl
  have c1 := h3.cell 1 _ rfl
  simp only [ea, hfn, hpc, hJ3.nf] at c7 c0 c1
  have hba := alloc_below w3 (.cells #[.int .i64 0, .int .i64 0] 40)
  have c7' := keep_cell c7 hba
  have c0' := keep_cell c0 hba
  have c1' := keep_cell c1 hba
  have k3' := keep_cell k3 hba
  have ki' := keep_cell ki hba
  have kn' := keep_cell kn hba
  have hfl3 : (fn : Int) < (fs.length : Int) := by omega
  have hpl3 : (pc : Int) < (f.code.length : Int) := by omega
  have H3 := hide h3
  have HW3 := hide hw3
  clear h h1 h2 h3 hw2 hw3 hJ3 hrc hB1 hB2 hB3 hJ hb hb1 hf hi efn
  go_big_region
  have hb4 : Below w3.heap.size w3 (w3.alloc (.cells #[.int .i64 18, .int .i64 n] 40)).drew := (alloc_below w3 _).drew
  have h4 := H3.out.below hb4
  have hw4 : Below B w (w3.alloc (.cells #[.int .i64 18, .int .i64 n] 40)).drew := HW3.out.trans (hb4.mono (by have := H3.out.lt; omega))
  have hL : Mach B (w3.alloc (.cells #[.int .i64 18, .int .i64 n] 40)).drew m { M with fu := M.fu + 1, es := M.es + 1 } (sk.reverse ++ [x]) lo ar := by simpa using h4
  have CL := last_any hL (by simp; omega)
  have CE := ended_any h4 0 x
  clear c7 c0 c1 k3 ki kn c7' c0' c1' k3' ki' kn' H3 HW3 h4 hb4 hba hL
  go_wp2_with (first
    | (go_at_call 85; go_must (with_reducible refine CL.mono ?_; (rintro e w5 ⟨rfl, hw5⟩); subst hw5))
    | (go_at_call 58; go_must (with_reducible refine CE.mono ?_; (rintro e w6 ⟨rfl, h6, hb6⟩))))
  go_end0
  exact ⟨rfl, h6, hw4.trans hb6⟩
end Go.Proofs.YtbpcibnomkfglaaGreatDoor
