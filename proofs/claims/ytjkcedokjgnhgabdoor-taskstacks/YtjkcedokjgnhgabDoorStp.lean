/- step: an instruction that turns values alone. -/
import Derived.Test.YtjkcedokjgnhgabDoorPla
namespace Go.Proofs.YtjkcedokjgnhgabDoor
open Go.RowKit Go.ChangeShapes Go.WideShapes Go.ChangeAt Go.Deep

/-- The instruction where the machine stands. -/
theorem ins_cells {w : World} {ca : Option Addr} {code : List (Int × Int)} {k : Nat} {op n : Int} (h : Reads w ca (insV code)) (hk : code[k]? = some (op, n)) : ∃ cb co, ca = some ⟨cb, co, none⟩ ∧ w.cell? ⟨cb, co + k * 2, none⟩ = some (.int .i64 op) ∧ w.cell? ⟨cb, co + k * 2 + 1, none⟩ = some (.int .i64 n) := by
  have hat : ∀ (c : List (Int × Int)) (k : Nat), c[k]? = some (op, n) → (insV c)[k * 2]? = some (.int .i64 op) ∧ (insV c)[k * 2 + 1]? = some (.int .i64 n) := by
    intro c
    induction c with
    | nil => intro k h; simp at h
    | cons i r ih =>
      intro k h
      cases k with
      | zero => simp at h; subst h; exact ⟨rfl, rfl⟩
      | succ k =>
        have := ih k (by simpa using h)
        rw [show (k + 1) * 2 = k * 2 + 1 + 1 by omega]
        simpa [insV] using this
  obtain ⟨h1, h2⟩ := hat code k hk
  rcases h with h | ⟨cb, co, e, hc⟩
  · rw [h] at h1; simp at h1
  · exact ⟨cb, co, e, hc _ _ h1, by rw [Nat.add_assoc]; exact hc _ _ h2⟩

set_option linter.unusedSimpArgs false in
set_option maxRecDepth 100000 in
set_option maxHeartbeats 2000000 in
theorem step_plain {B : Bd} {w w0 : World} {m : Nat} {M : Mc} {sk sk' lo ar : List Int} {cs : List Value} {fs : List Fun} {args : List Int} {deep : Int} (h : Mach B w m M sk.reverse lo ar) (hJ : JobR w0 M.j cs fs args) (hB : B = w0.heap.size) (hb : Below B w0 w) (fn pc : Nat) (f : Fun) (op n : Int)
    (hfn : M.fn = (fn : Int)) (hpc : M.pc = (pc : Int)) (hf : fs[fn]? = some f) (hi : f.code[pc]? = some (op, n)) (hfu : M.fu < M.j.fuel) (hfl : -1000000 ≤ M.fu ∧ M.fu ≤ 1000000) (hes : -1000000 ≤ M.es ∧ M.es ≤ 1000000) (hpcl : pc ≤ 1000000) 
    (hop : ¬ (14 ≤ op ∧ op ≤ 19))
    (CP : ∀ W, Mach B W m { M with fu := M.fu + 1, es := M.es + 1 } sk.reverse lo ar → Calls Tryd.prog 57 #[.pointer (some ⟨m, 0, none⟩), .agg #[.int .i64 op, .int .i64 n]] W fun e w' => e = .returned (.tuple #[]) ∧ ∃ sv, Mach B w' m { M with fu := M.fu + 1, es := M.es + 1, sv := sv } sk'.reverse lo ar ∧ Below B W w') :
    Calls Tryd.prog 39 #[.pointer (some ⟨m, 0, none⟩), .int .i64 deep] w fun e w' => e = .returned (.tuple #[]) ∧ ∃ sv, Mach B w' m { M with fu := M.fu + 1, es := M.es + 1, sv := sv, pc := (pc : Int) + 1 } sk'.reverse lo ar ∧ Below B w w' := by
  have hlt := h.lt
  have hbm := h.bm
  have N1 := fun w => tneed_yes 21 w
  have c2 := h.cell 2 _ rfl
  have c10 := h.cell 10 _ rfl
  have hbs := hb.size
  go_enter Tryd.func39, Tryd.ntmps39
  go_wp2_with fail
  go_big_quiet (first | (go_at_call 20; with_reducible exact Calls.quiet_of_same (N1 _)))
  have hb1 : Below w.heap.size w (w.drewN nq) := below_drewN' (Below.refl _ _) nq
  have h1 := h.below hb1
  have hB1 : Below B w0 (w.drewN nq) := hb.trans (hb1.mono (by omega))
  generalize w.drewN nq = w1 at *
  clear c2 c10
  have c2 := h1.cell 2 _ rfl
  have f2 := h1.froz 2
  have h2 := h1.put (M' := { M with fu := M.fu + 1 }) 2 (.int .i64 (M.fu + 1)) rfl rfl rfl rfl
  have hB2 : Below B w0 (w1.setCell ⟨m, 2, none⟩ (.int .i64 (M.fu + 1))) := hB1.setCell (p := ⟨m, 2, none⟩) hbm _
  have hw2 : Below B w (w1.setCell ⟨m, 2, none⟩ (.int .i64 (M.fu + 1))) := (hb1.mono (by omega)).setCell (p := ⟨m, 2, none⟩) hbm _
  go_upto_region 2 with fail
  clear c2 f2
  generalize w1.setCell ⟨m, 2, none⟩ (.int .i64 (M.fu + 1)) = w2 at *
  have c15 := h2.cell 15 _ rfl
  have f15 := h2.froz 15
  have h3 := h2.put (M' := { M with fu := M.fu + 1, es := M.es + 1 }) 15 (.int .i64 (M.es + 1)) rfl rfl rfl rfl
  have hB3 : Below B w0 (w2.setCell ⟨m, 15, none⟩ (.int .i64 (M.es + 1))) := hB2.setCell (p := ⟨m, 15, none⟩) hbm _
  have hw3 : Below B w (w2.setCell ⟨m, 15, none⟩ (.int .i64 (M.es + 1))) := hw2.setCell (p := ⟨m, 15, none⟩) hbm _
  go_upto_region 3 with fail
  clear c15 f15
  generalize w2.setCell ⟨m, 15, none⟩ (.int .i64 (M.es + 1)) = w3 at *
  have hJ3 : JobR w3 M.j cs fs args := hJ.below (hB ▸ hB3)
  have hfl2 : fn < fs.length := (List.getElem?_eq_some_iff.1 hf).1
  have hpl : pc < f.code.length := (List.getElem?_eq_some_iff.1 hi).1
  obtain ⟨fb, off, ca, cc, ea, _, _, _, k3, hrc, _⟩ := hJ3.fun_at hfl2
  have efn : fs[fn] = f := (List.getElem?_eq_some_iff.1 hf).2
  rw [efn] at k3 hrc
  obtain ⟨cb, co, rfl, ki, kn⟩ := ins_cells hrc hi
  have c7 := h3.cell 7 _ rfl
  have c0 := h3.cell 0 _ rfl
  have c1 := h3.cell 1 _ rfl
  simp only [ea, hfn, hpc, hJ3.nf] at c7 c0 c1
  have hba := alloc_below w3 (.cells #[.int .i64 0, .int .i64 0] 26)
  have c7' := keep_cell c7 hba
  have c0' := keep_cell c0 hba
  have c1' := keep_cell c1 hba
  have k3' := keep_cell k3 hba
  have ki' := keep_cell ki hba
  have kn' := keep_cell kn hba
  have hfl3 : (fn : Int) < (fs.length : Int) := by omega
  have hpl3 : (pc : Int) < (f.code.length : Int) := by omega
  have H3 := hide h3
  have HW3 := hide hw3
  have HCP := hide CP
  clear h h1 h2 h3 hw2 hw3 hJ3 hrc CP hB1 hB2 hB3 hJ hb hb1 hf hi efn
  go_big_region
  have hb4 : Below w3.heap.size w3 (w3.alloc (.cells #[.int .i64 op, .int .i64 n] 26)).drew := (alloc_below w3 _).drew
  have h4 := H3.out.below hb4
  have hw4 : Below B w (w3.alloc (.cells #[.int .i64 op, .int .i64 n] 26)).drew := HW3.out.trans (hb4.mono (by have := H3.out.lt; omega))
  have C := HCP.out _ h4
  have g14 : (op == 14) = false := by rw [beq_eq_false_iff_ne]; omega
  have g15 : (op == 15) = false := by rw [beq_eq_false_iff_ne]; omega
  have g16 : (op == 16) = false := by rw [beq_eq_false_iff_ne]; omega
  have g17 : (op == 17) = false := by rw [beq_eq_false_iff_ne]; omega
  have g18 : (op == 18) = false := by rw [beq_eq_false_iff_ne]; omega
  have g19 : (op == 19) = false := by rw [beq_eq_false_iff_ne]; omega
  clear c7 c0 c1 k3 ki kn c7' c0' c1' k3' ki' kn' H3 HW3 HCP h4 hb4 hba
  go_wp2_with (go_at_call 57; go_must (with_reducible refine C.mono ?_; (rintro e w5 ⟨rfl, sv5, h5, hb5⟩); refine Hid.out ?_))
  refine Lib.hid ?_
  have c1 := h5.cell 1 _ rfl
  simp only [hpc] at c1
  have f1 := h5.froz 1
  have h6 := h5.put (M' := { M with fu := M.fu + 1, es := M.es + 1, sv := sv5, pc := (pc : Int) + 1 }) 1 (.int .i64 ((pc : Int) + 1)) rfl rfl rfl rfl
  have HB6 := hide (show Below B w (w5.setCell ⟨m, 1, none⟩ (.int .i64 ((pc : Int) + 1))) from (hw4.trans hb5).setCell (p := ⟨m, 1, none⟩) hbm _)
  have H6 := hide h6
  clear h5 h6 C
  go_wp2_with fail
  go_end0
  exact ⟨rfl, sv5, H6.out, HB6.out⟩
end Go.Proofs.YtjkcedokjgnhgabDoor
