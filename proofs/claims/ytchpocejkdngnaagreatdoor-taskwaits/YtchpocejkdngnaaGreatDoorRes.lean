/- resume; Resume's deferred closure. -/
import Derived.Test.YtchpocejkdngnaaGreatDoorRunU
import Derived.Test.YtchpocejkdngnaaGreatDoorPm
namespace Go.Proofs.YtchpocejkdngnaaGreatDoor
open Go.RowKit Go.ChangeShapes Go.WideShapes Go.ChangeAt Go.Deep

/-- What resume makes of the machine. -/
def resM (s : PM) (er ev : Int) : Option (PM × Option (Int × Int)) :=
  if er = 0 then (match s.sk with | _ :: r => some ({ s with wt := false, sk := ev :: r, pc := s.pc + 1 }, none) | [] => none) else some (s, some (er, ev))
set_option linter.unusedSimpArgs false in
set_option maxRecDepth 100000 in
set_option maxHeartbeats 4000000 in
theorem resume_up {B : Bd} {w : World} {m : Nat} {M : Mc} {st lo ar : List Int} (h : Mach B w m M st lo ar) (er ev : Int) (he : er ≠ 0) : Calls Tryz.prog 37 #[.pointer (some ⟨m, 0, none⟩), .agg #[.int .i64 er, .int .i64 ev]] w fun e w' => e = upF er ev ∧ Mach B w' m M st lo ar ∧ Below B w w' := by
  have hb0 := alloc_below w (.cells #[.int .i64 er, .int .i64 ev] 36)
  have HF := hide (show Mach B (w.alloc (.cells #[.int .i64 er, .int .i64 ev] 36)) m M st lo ar ∧ Below B w (w.alloc (.cells #[.int .i64 er, .int .i64 ev] 36)) from ⟨h.below hb0, hb0.mono (by have := h.lt; have := h.bm; omega)⟩)
  have heb : (er != 0) = true := by simpa using he
  clear h hb0
  go_enter Tryz.func37, Tryz.ntmps37
  go_wp2_with fail
  exact ⟨rfl, rfl, HF.out.1, HF.out.2⟩
set_option linter.unusedSimpArgs false in
set_option maxRecDepth 100000 in
set_option maxHeartbeats 4000000 in
theorem resume_ok {B : Bd} {w : World} {m : Nat} {M : Mc} {sk lo ar : List Int} {x : Int} (h : Mach B w m M (x :: sk).reverse lo ar) (ev : Int) (pc : Nat) (hpc : M.pc = (pc : Int)) (hpl : pc ≤ 1000000) (hn : sk.length ≤ 10000) : Calls Tryz.prog 37 #[.pointer (some ⟨m, 0, none⟩), .agg #[.int .i64 0, .int .i64 ev]] w fun e w' => e = .returned (.tuple #[]) ∧ ∃ sv, Mach B w' m { M with wt := false, sv := sv, pc := (pc : Int) + 1 } (ev :: sk).reverse lo ar ∧ Below B w w' := by
  have hlt := h.lt
  have hbm := h.bm
  have hb0 := alloc_below w (.cells #[.int .i64 0, .int .i64 ev] 36)
  have hnw := heap_alloc_new w (.cells #[.int .i64 0, .int .i64 ev] 36)
  have h0 := h.below hb0
  have hb0' := hb0.mono (show B ≤ w.heap.size by omega)
  clear h hb0
  go_enter Tryz.func37, Tryz.ntmps37
  go_upto_region 1 with fail
  generalize w.alloc (.cells #[.int .i64 0, .int .i64 ev] 36) = w0 at *
  have hrl : w.heap.size < w0.heap.size := lt_row hnw
  generalize w.heap.size = rb at *
  have r0 : w0.cell? ⟨rb, 0, none⟩ = some (.int .i64 0) := by simp only [World.cell?, hnw]; rfl
  have c6 := h0.cell 6 _ rfl
  have f6 := h0.froz 6
  have h1 := h0.put (M' := { M with wt := false }) 6 (.bool false) rfl rfl rfl rfl
  have hb1 : Below B w (w0.setCell ⟨m, 6, none⟩ (.bool false)) := hb0'.setCell (p := ⟨m, 6, none⟩) hbm _
  have hnm : rb ≠ m := by omega
  have r1 : (w0.setCell ⟨m, 6, none⟩ (.bool false)).cell? ⟨rb, 1, none⟩ = some (.int .i64 ev) := by
    rw [World.cell?_of_block (heap_setCell_other _ _ _ _ hnm)]
    simp only [World.cell?, hnw]; rfl
  go_upto_region 4 with fail
  clear r0 c6 f6 hnw
  generalize w0.setCell ⟨m, 6, none⟩ (.bool false) = w1 at *
  have hlt1 := h1.lt
  have hb2 : Below w1.heap.size w1 (w1.alloc (.cells #[.int .i64 ev] 3)).drew := ((Below.refl _ _).alloc (Nat.le_refl _) _).drew
  have C : Calls Tryz.prog 53 #[.pointer (some ⟨m, 0, none⟩), .int .i64 1, .slice (some ⟨w1.heap.size, 0, none⟩) 1 1] (w1.alloc (.cells #[.int .i64 ev] 3)).drew (PutPost B _ m { M with wt := false } (ev :: sk).reverse lo ar) := put_rev (h1.below hb2) 1 (by simp) (by simp; omega) (some ⟨w1.heap.size, 0, none⟩) 1 1 [ev] (ev :: sk) (Reads.drew (reads_new1 _ ev)) rfl (fun h => by cases h) (by omega) (by simp)
  unfold PutPost at C
  have HB2 := hide (hb1.trans (hb2.mono (by omega)))
  have r1d : w1.drew.cell? ⟨rb, 1, none⟩ = some (.int .i64 ev) := r1
  clear h0 h1 hb1 hb2 hb0'
  go_wp2_with fail
  refine wp_region_noPanic ?_
  refine wp_region_held_drew (S := fun _ => True) (by kernel_rfl) trivial (fun _ => ?_)
  refine takeD (i := 0) (d := some 15) (v := ?_) rfl rfl (by kernel_rfl) (by kernel_rfl) (by kernel_rfl) (fun _ _ _ h => h) (Or.inl ⟨by rfl, ?_⟩) trivial ?_
  rotate_left
  · intro w hSw
    go_simp
    try (with_reducible rfl)
  try simp only [Act.put, List.setIfInBounds_toArray, List.set_cons_zero, List.set_cons_succ]
  refine takeD (i := 1) (d := some 16) (v := ?_) rfl rfl (by kernel_rfl) (by kernel_rfl) (by kernel_rfl) (fun _ _ _ h => h) (Or.inl ⟨by rfl, ?_⟩) trivial ?_
  rotate_left
  · intro w hSw
    go_simp
    try (with_reducible rfl)
  try simp only [Act.put, List.setIfInBounds_toArray, List.set_cons_zero, List.set_cons_succ]
  refine takeD (i := 2) (d := some 17) (v := ?_) rfl rfl (by kernel_rfl) (by kernel_rfl) (by kernel_rfl) (fun _ _ _ h => h) (Or.inl ⟨by rfl, ?_⟩) trivial ?_
  rotate_left
  · intro w hSw
    go_simp
    try (with_reducible rfl)
  try simp only [Act.put, List.setIfInBounds_toArray, List.set_cons_zero, List.set_cons_succ]
  refine takeD (i := 3) (d := some 18) (v := ?_) rfl rfl (by kernel_rfl) (by kernel_rfl) (by kernel_rfl) (fun _ _ _ h => h) (Or.inl ⟨by rfl, ?_⟩) trivial ?_
  rotate_left
  · intro w hSw
    go_simp
    try (with_reducible rfl)
  try simp only [Act.put, List.setIfInBounds_toArray, List.set_cons_zero, List.set_cons_succ]
  refine wpAnyH_ready (rs := [4]) (by kernel_rfl) (by simp) ?_
  refine AllReadyH.cons rfl (fun K hK => ?_) AllReadyH.nil
  go_simp
  go_wp2_with fail
  refine hK.out _ _ trivial (fun _ => ?_)
  clear hK K
  try simp only [Act.put, List.setIfInBounds_toArray, List.set_cons_zero, List.set_cons_succ]
  refine wpAnyH_ready (rs := [5]) (by kernel_rfl) (by simp) ?_
  refine AllReadyH.cons rfl (fun K hK => ?_) AllReadyH.nil
  go_simp
  go_wp2_with fail
  refine hK.out _ _ trivial (fun _ => ?_)
  clear hK K
  try simp only [Act.put, List.setIfInBounds_toArray, List.set_cons_zero, List.set_cons_succ]
  refine wpAnyH_ready (rs := [6]) (by kernel_rfl) (by simp) ?_
  refine AllReadyH.cons rfl (fun K hK => ?_) AllReadyH.nil
  go_simp
  go_at_call 53
  with_reducible refine C.mono ?_
  (rintro e w6 ⟨rfl, sv6, h6, hb6⟩)
  go_wp2_with fail
  refine hK.out _ _ trivial (fun _ => ?_)
  clear hK K
  try simp only [Act.put, List.setIfInBounds_toArray, List.set_cons_zero, List.set_cons_succ]
  refine wpAnyH_done (by kernel_rfl) ?_ _
  refine NoPanic.normal ?_
  have c1 := h6.cell 1 _ rfl
  simp only [hpc] at c1
  have f1 := h6.froz 1
  have H7 := hide (h6.put (M' := { M with wt := false, sv := sv6, pc := (pc : Int) + 1 }) 1 (.int .i64 ((pc : Int) + 1)) rfl rfl rfl rfl)
  have HB7 := hide (show Below B w (w6.setCell ⟨m, 1, none⟩ (.int .i64 ((pc : Int) + 1))) from (HB2.out.trans hb6).setCell (p := ⟨m, 1, none⟩) hbm _)
  clear h6 C hb6 hpc
  go_wp2_with fail
  go_end0
  exact ⟨rfl, sv6, by simpa using H7.out, HB7.out⟩
theorem resume_M {B : Bd} {w : World} {m : Nat} {j : JV} {s : PM} {q : PM × Option (Int × Int)} {er ev : Int} (h : MachP B w m j s) (hn : s.sk.length ≤ 10000) (hp : s.pc ≤ 1000000) (hs : resM s er ev = some q) : Calls Tryz.prog 37 #[.pointer (some ⟨m, 0, none⟩), .agg #[.int .i64 er, .int .i64 ev]] w (UpPost B w m j q) := by
  obtain ⟨sv, lv, av, hM⟩ := h
  unfold resM at hs
  by_cases he : er = 0
  · subst he
    rw [if_pos rfl] at hs
    cases hsk : s.sk with
    | nil => rw [hsk] at hs; cases hs
    | cons x r =>
      rw [hsk] at hs hM hn
      simp only [Option.some.injEq] at hs
      subst hs
      refine (resume_ok hM ev s.pc rfl hp (by simp at hn; omega)).mono ?_
      rintro e w' ⟨rfl, sv', g1, g2⟩
      exact ⟨rfl, ⟨sv', lv, av, g1⟩, g2⟩
  · rw [if_neg he] at hs
    simp only [Option.some.injEq] at hs
    subst hs
    refine (resume_up hM er ev he).mono ?_
    rintro e w' ⟨rfl, g1, g2⟩
    exact ⟨rfl, ⟨sv, lv, av, g1⟩, g2⟩

set_option maxHeartbeats 4000000 in
set_option maxRecDepth 100000 in
set_option linter.unusedSimpArgs false in
theorem resd_up {B : Bd} {w : World} {m : Nat} {M : Mc} {st lo ar : List Int} (h : Mach B w m M st lo ar) (a b c : Nat) (hbx : B.bx = some (a, .pointer (some ⟨m, 0, none⟩))) (x y : Int) (s0 s1 s2 s3 s4 s5 s6 e0 e1 e2 e3 e4 e5 e6 : Value)
    (hS : w.heap[b]? = some (.cells #[s0, s1, s2, s3, s4, s5, s6] 31 (0, 0))) (hE : w.heap[c]? = some (.cells #[e0, e1, e2, e3, e4, e5, e6] 38 (0, 0))) (hbB : b < B.n) (hcB : c < B.n) (older : List PanicEntry) (hg : w.cell? ⟨0, 0, none⟩ = some (.iface 107 (.agg #[.pointer (some ⟨2, 64, none⟩)]))) (N : Nat) (hNb : N ≤ b) (hNc : N ≤ c) :
    CallsD Tryz.prog 36 #[.pointer (some ⟨a, 0, none⟩), .pointer (some ⟨b, 0, none⟩), .pointer (some ⟨c, 0, none⟩)] (.panicking ({ v := failV x y, recovered := false } :: older)) w fun e u' w' =>
      e = .returned (.tuple #[]) ∧ u' = .panicking ({ v := failV x y, recovered := true } :: older) ∧ Mach B w' m { M with ek := 3, er := x, ev := y } st lo ar ∧ w'.heap[b]? = some (.cells { M with ek := 3, er := x, ev := y }.stL.toArray 31 (0, 0)) ∧ w'.heap[c]? = some (.cells { M with ek := 3, er := x, ev := y }.evL.toArray 38 (0, 0)) ∧ Below N w w' := by
  refine callsD_of_wpS Tryz.func36 rfl fun c₀ cs hu => ?_
  have hbm := h.bm
  apply wpS_seq
  apply wpS_region
  simp [wpOpsS, go_sem, recoverD, hu, Tryz.ntmps36, Exit.thenS, Array.replicate]
  refine (wentUp_hit x y w hg).mono ?_
  rintro e w1 ⟨rfl, hb1⟩
  have hnw := heap_alloc_new w1 (.cells #[.int .i64 0, .int .i64 0] 36)
  have n0 : (w1.alloc (.cells #[.int .i64 0, .int .i64 0] 36)).cell? ⟨w1.heap.size, 0, none⟩ = some (.int .i64 0) := by simp only [World.cell?, hnw]; rfl
  have n1 : (w1.alloc (.cells #[.int .i64 0, .int .i64 0] 36)).cell? ⟨w1.heap.size, 1, none⟩ = some (.int .i64 0) := by simp only [World.cell?, hnw]; rfl
  have z0 : (w1.alloc (.cells #[.int .i64 0, .int .i64 0] 36)).frozen? ⟨w1.heap.size, 0, none⟩ = false := by simp only [World.frozen?, hnw]; rfl
  have z1 : (w1.alloc (.cells #[.int .i64 0, .int .i64 0] 36)).frozen? ⟨w1.heap.size, 1, none⟩ = false := by simp only [World.frozen?, hnw]; rfl
  simp [go_sem, Exit.thenS, n0, n1, z0, z1]
  have hbel : Below w.heap.size w (w1.alloc (.cells #[.int .i64 x, .int .i64 y] 36)) := hb1.alloc hb1.size _
  have hr2 : (w1.alloc (.cells #[.int .i64 x, .int .i64 y] 36)).heap[w1.heap.size]? = some (.cells [.int .i64 x, .int .i64 y].toArray 36 (0, 0)) := heap_alloc_new w1 _
  clear n0 n1 z0 z1 hb1 hnw
  refine wpS_of_wp ?_
  generalize (w1.alloc (.cells #[.int .i64 x, .int .i64 y] 36)) = w2 at hbel hr2 ⊢
  generalize w1.heap.size = rb at hr2 ⊢
  have h2 := h.below hbel
  have hS2 := heap_row hS hbel
  have hE2 := heap_row hE hbel
  have r0 := cell_row (i := 0) hr2 rfl
  have r1 := cell_row (i := 1) hr2 rfl
  have k2 : w2.cell? ⟨a, 0, none⟩ = some (.pointer (some ⟨m, 0, none⟩)) := cell_row (cs := [.pointer (some ⟨m, 0, none⟩)]) (i := 0) (h2.kept _ _ hbx) rfl
  have CE := ended_any h2 x y
  have hlS := lt_row hS
  have hlE := lt_row hE
  have hbc : b ≠ c := fun e => by
    subst e
    rw [hS] at hE
    simp at hE
  clear hr2 hS hE
  go_wp2_with (go_at_call 20; go_must (with_reducible refine CE.mono ?_; (rintro e w5 ⟨rfl, h5, hb5⟩); refine Hid.out ?_))
  refine Lib.hid ?_
  have hS5 : w5.heap[b]? = some (.cells #[s0, s1, s2, s3, s4, s5, s6] 31 (0, 0)) := (hb5.block b hbB).trans hS2
  have hE5 : w5.heap[c]? = some (.cells #[e0, e1, e2, e3, e4, e5, e6] 38 (0, 0)) := (hb5.block c hcB).trans hE2
  have z0 : w5.cell? ⟨b, 0, none⟩ = some s0 := by simp [World.cell?, hS5]
  have zf0 : w5.frozen? ⟨b, 0, none⟩ = false := by simp [World.frozen?, hS5]
  have y0 : w5.cell? ⟨c, 0, none⟩ = some e0 := by simp [World.cell?, hE5]
  have yf0 : w5.frozen? ⟨c, 0, none⟩ = false := by simp [World.frozen?, hE5]
  have z1 : w5.cell? ⟨b, 1, none⟩ = some s1 := by simp [World.cell?, hS5]
  have zf1 : w5.frozen? ⟨b, 1, none⟩ = false := by simp [World.frozen?, hS5]
  have y1 : w5.cell? ⟨c, 1, none⟩ = some e1 := by simp [World.cell?, hE5]
  have yf1 : w5.frozen? ⟨c, 1, none⟩ = false := by simp [World.frozen?, hE5]
  have z2 : w5.cell? ⟨b, 2, none⟩ = some s2 := by simp [World.cell?, hS5]
  have zf2 : w5.frozen? ⟨b, 2, none⟩ = false := by simp [World.frozen?, hS5]
  have y2 : w5.cell? ⟨c, 2, none⟩ = some e2 := by simp [World.cell?, hE5]
  have yf2 : w5.frozen? ⟨c, 2, none⟩ = false := by simp [World.frozen?, hE5]
  have z3 : w5.cell? ⟨b, 3, none⟩ = some s3 := by simp [World.cell?, hS5]
  have zf3 : w5.frozen? ⟨b, 3, none⟩ = false := by simp [World.frozen?, hS5]
  have y3 : w5.cell? ⟨c, 3, none⟩ = some e3 := by simp [World.cell?, hE5]
  have yf3 : w5.frozen? ⟨c, 3, none⟩ = false := by simp [World.frozen?, hE5]
  have z4 : w5.cell? ⟨b, 4, none⟩ = some s4 := by simp [World.cell?, hS5]
  have zf4 : w5.frozen? ⟨b, 4, none⟩ = false := by simp [World.frozen?, hS5]
  have y4 : w5.cell? ⟨c, 4, none⟩ = some e4 := by simp [World.cell?, hE5]
  have yf4 : w5.frozen? ⟨c, 4, none⟩ = false := by simp [World.frozen?, hE5]
  have z5 : w5.cell? ⟨b, 5, none⟩ = some s5 := by simp [World.cell?, hS5]
  have zf5 : w5.frozen? ⟨b, 5, none⟩ = false := by simp [World.frozen?, hS5]
  have y5 : w5.cell? ⟨c, 5, none⟩ = some e5 := by simp [World.cell?, hE5]
  have yf5 : w5.frozen? ⟨c, 5, none⟩ = false := by simp [World.frozen?, hE5]
  have z6 : w5.cell? ⟨b, 6, none⟩ = some s6 := by simp [World.cell?, hS5]
  have zf6 : w5.frozen? ⟨b, 6, none⟩ = false := by simp [World.frozen?, hS5]
  have y6 : w5.cell? ⟨c, 6, none⟩ = some e6 := by simp [World.cell?, hE5]
  have yf6 : w5.frozen? ⟨c, 6, none⟩ = false := by simp [World.frozen?, hE5]
  have hcb := hbc.symm
  have HS5 := hide hS5
  have HE5 := hide hE5
  have H5 := hide h5
  have HB5 := hide (show Below N w w5 from (hbel.mono (by omega)).trans (hb5.mono (by omega)))
  obtain ⟨fn, pc, fu, sv, lv, kd, wt, j, ek, ef, ei, es, av, er0, ev0⟩ := M
  obtain ⟨sa, sc, rfl, _⟩ := slice_form h.own rfl
  obtain ⟨la, lc, rfl, _⟩ := slice_form h.loc rfl
  obtain ⟨aa, ac, rfl, _⟩ := slice_form h.arg rfl
  simp only [Mc.stV, Mc.evV]
  clear hS5 hE5 h5 hb5 CE k2 r0 r1 h2 hS2 hE2 hbel h hg
  go_wp2_with fail
  have lS : ([.int .i64 fn, .int .i64 pc, .int .i64 fu, .slice sa st.length sc, .slice la lo.length lc, .int .i64 kd, .bool wt] : List Value).length = 7 := rfl
  have FIN : Mach B ((w5.setCells b 0 [.int .i64 fn, .int .i64 pc, .int .i64 fu, .slice sa st.length sc, .slice la lo.length lc, .int .i64 kd, .bool wt]).setCells c 0 [.int .i64 3, .int .i64 ef, .int .i64 ei, .int .i64 es, .slice aa ar.length ac, .int .i64 x, .int .i64 y]) m ⟨fn, pc, fu, .slice sa st.length sc, .slice la lo.length lc, kd, wt, j, 3, ef, ei, es, .slice aa ar.length ac, x, y⟩ st lo ar ∧
      ((w5.setCells b 0 [.int .i64 fn, .int .i64 pc, .int .i64 fu, .slice sa st.length sc, .slice la lo.length lc, .int .i64 kd, .bool wt]).setCells c 0 [.int .i64 3, .int .i64 ef, .int .i64 ei, .int .i64 es, .slice aa ar.length ac, .int .i64 x, .int .i64 y]).heap[b]? = some (.cells [.int .i64 fn, .int .i64 pc, .int .i64 fu, .slice sa st.length sc, .slice la lo.length lc, .int .i64 kd, .bool wt].toArray 31 (0, 0)) ∧
      ((w5.setCells b 0 [.int .i64 fn, .int .i64 pc, .int .i64 fu, .slice sa st.length sc, .slice la lo.length lc, .int .i64 kd, .bool wt]).setCells c 0 [.int .i64 3, .int .i64 ef, .int .i64 ei, .int .i64 es, .slice aa ar.length ac, .int .i64 x, .int .i64 y]).heap[c]? = some (.cells [.int .i64 3, .int .i64 ef, .int .i64 ei, .int .i64 es, .slice aa ar.length ac, .int .i64 x, .int .i64 y].toArray 38 (0, 0)) ∧
      Below N w ((w5.setCells b 0 [.int .i64 fn, .int .i64 pc, .int .i64 fu, .slice sa st.length sc, .slice la lo.length lc, .int .i64 kd, .bool wt]).setCells c 0 [.int .i64 3, .int .i64 ef, .int .i64 ei, .int .i64 es, .slice aa ar.length ac, .int .i64 x, .int .i64 y]) := by
    refine ⟨?_, ?_, ?_, setCells_below (by omega) _ _ (setCells_below (by omega) _ _ HB5.out)⟩
    · refine H5.out.far (fun g q t ht hg => ?_)
      rw [setCells_other (k := g) (b := c) (by intro e; rw [e, HE5.out] at hg; simp only [Option.some.injEq, Obj.cells.injEq] at hg; rcases ht with q | q | q <;> (rw [q] at hg; exact absurd hg.2.1 (by decide))) _ 0 _, setCells_other (k := g) (b := b) (by intro e; rw [e, HS5.out] at hg; simp only [Option.some.injEq, Obj.cells.injEq] at hg; rcases ht with q | q | q <;> (rw [q] at hg; exact absurd hg.2.1 (by decide))) _ 0 _]
    · rw [setCells_other (k := b) (b := c) hbc _ 0 _]
      exact setCells_row (old := [s0, s1, s2, s3, s4, s5, s6]) HS5.out rfl
    · exact setCells_row (old := [e0, e1, e2, e3, e4, e5, e6]) ((setCells_other (k := c) (b := b) hcb _ 0 w5).trans HE5.out) rfl
  clear HS5 HE5 H5 HB5
  cases c₀
  simp only [bodyPostS, results, Tryz.results36]
  exact ⟨trivial, _, rfl, .tuple #[], by simp [go_sem], rfl, rfl, FIN.1, FIN.2.1, FIN.2.2.1, FIN.2.2.2⟩
set_option maxHeartbeats 2000000 in
set_option maxRecDepth 100000 in
set_option linter.unusedSimpArgs false in
theorem resd_idle (a b c : Nat) (w : World) :
    CallsD Tryz.prog 36 #[.pointer (some ⟨a, 0, none⟩), .pointer (some ⟨b, 0, none⟩), .pointer (some ⟨c, 0, none⟩)] .returning w fun e u' w' => e = .returned (.tuple #[]) ∧ u' = .returning ∧ Below w.heap.size w w' := by
  refine callsD_of_wpS Tryz.func36 rfl fun c₀ cs hu => ?_
  apply wpS_seq
  apply wpS_region
  simp [wpOpsS, go_sem, recoverD, hu, Tryz.ntmps36, Exit.thenS, Array.replicate]
  refine (wentUp_nil w).mono ?_
  rintro e w1 ⟨rfl, hb1⟩
  have hnw := heap_alloc_new w1 (.cells #[.int .i64 0, .int .i64 0] 36)
  have n0 : (w1.alloc (.cells #[.int .i64 0, .int .i64 0] 36)).cell? ⟨w1.heap.size, 0, none⟩ = some (.int .i64 0) := by simp only [World.cell?, hnw]; rfl
  have n1 : (w1.alloc (.cells #[.int .i64 0, .int .i64 0] 36)).cell? ⟨w1.heap.size, 1, none⟩ = some (.int .i64 0) := by simp only [World.cell?, hnw]; rfl
  have z0 : (w1.alloc (.cells #[.int .i64 0, .int .i64 0] 36)).frozen? ⟨w1.heap.size, 0, none⟩ = false := by simp only [World.frozen?, hnw]; rfl
  have z1 : (w1.alloc (.cells #[.int .i64 0, .int .i64 0] 36)).frozen? ⟨w1.heap.size, 1, none⟩ = false := by simp only [World.frozen?, hnw]; rfl
  clear hnw
  simp [go_sem, Exit.thenS, n0, n1, z0, z1]
  have hbel : Below w.heap.size w (w1.alloc (.cells #[.int .i64 0, .int .i64 0] 36)) := hb1.alloc hb1.size _
  clear n0 n1 z0 z1 hb1
  refine wpS_of_wp ?_
  generalize w1.alloc (.cells #[.int .i64 0, .int .i64 0] 36) = w2 at hbel ⊢
  go_wp2
  cases c₀
  simp_all [bodyPostS, results, Tryz.results36]
end Go.Proofs.YtchpocejkdngnaaGreatDoor
