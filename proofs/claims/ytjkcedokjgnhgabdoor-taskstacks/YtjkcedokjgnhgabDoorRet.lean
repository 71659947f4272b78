/- step: ret. -/
import Derived.Test.YtjkcedokjgnhgabDoorEnd
namespace Go.Proofs.YtjkcedokjgnhgabDoor
open Go.RowKit Go.ChangeShapes Go.WideShapes Go.ChangeAt Go.Deep

set_option linter.unusedSimpArgs false in
set_option maxRecDepth 100000 in
set_option maxHeartbeats 2000000 in
theorem step_ret {B : Bd} {w w0 : World} {m : Nat} {M : Mc} {sk lo ar : List Int} {x : Int} {cs : List Value} {fs : List Fun} {args : List Int} {deep : Int} (h : Mach B w m M (x :: sk).reverse lo ar) (hJ : JobR w0 M.j cs fs args) (hB : B = w0.heap.size) (hb : Below B w0 w) (fn pc : Nat) (f : Fun) (n : Int)
    (hfn : M.fn = (fn : Int)) (hpc : M.pc = (pc : Int)) (hf : fs[fn]? = some f) (hi : f.code[pc]? = some (18, n)) (hfu : M.fu < M.j.fuel) (hfl : -1000000 ≤ M.fu ∧ M.fu ≤ 1000000) (hes : -1000000 ≤ M.es ∧ M.es ≤ 1000000) (_hpcl : pc ≤ 1000000) 
    (hsk : sk.length ≤ 10000) :
    Calls Tryd.prog 39 #[.pointer (some ⟨m, 0, none⟩), .int .i64 deep] w fun e w' => e = .returned (.tuple #[]) ∧ Mach B w' m { M with fu := M.fu + 1, es := M.es + 1, ek := 3, er := 0, ev := x } (x :: sk).reverse lo ar ∧ Below B w w' := by
  have hlt := h.lt
  have hbm := h.bm
  have N1 := fun w => tneed_yes 21 w
  have c2 := h.cell 2 _ rfl
  have c10 := h.cell 10 _ rfl
  have hbs := hb.size
  go_enter Tryd.func39, Tryd.ntmps39
  go_wp2_with fail
  go_big_quiet (first | (go_at_call 20; with_reducible exact Calls.quiet_of_same (N1 _)))
  have hb1 : Below w.heap.size w (w.drewN nq) := below_drewN' (Below.refl _ _) nq
  have h1 := h.below hb1
  have hB1 : Below B w0 (w.drewN nq) := hb.trans (hb1.mono (by omega))
  generalize w.drewN nq = w1 at *
  clear c2 c10
  have c2 := h1.cell 2 _ rfl
  have f2 := h1.froz 2
  have h2 := h1.put (M' := { M with fu := M.fu + 1 }) 2 (.int .i64 (M.fu + 1)) rfl rfl rfl rfl
  have hB2 : Below B w0 (w1.setCell ⟨m, 2, none⟩ (.int .i64 (M.fu + 1))) := hB1.setCell (p := ⟨m, 2, none⟩) hbm _
  have hw2 : Below B w (w1.setCell ⟨m, 2, none⟩ (.int .i64 (M.fu + 1))) := (hb1.mono (by omega)).setCell (p := ⟨m, 2, none⟩) hbm _
  go_upto_region 2 with fail
  clear c2 f2
  generalize w1.setCell ⟨m, 2, none⟩ (.int .i64 (M.fu + 1)) = w2 at *
  have c15 := h2.cell 15 _ rfl
  have f15 := h2.froz 15
  have h3 := h2.put (M' := { M with fu := M.fu + 1, es := M.es + 1 }) 15 (.int .i64 (M.es + 1)) rfl rfl rfl rfl
  have hB3 : Below B w0 (w2.setCell ⟨m, 15, none⟩ (.int .i64 (M.es + 1))) := hB2.setCell (p := ⟨m, 15, none⟩) hbm _
  have hw3 : Below B w (w2.setCell ⟨m, 15, none⟩ (.int .i64 (M.es + 1))) := hw2.setCell (p := ⟨m, 15, none⟩) hbm _
  go_upto_region 3 with fail
  clear c15 f15
  generalize w2.setCell ⟨m, 15, none⟩ (.int .i64 (M.es + 1)) = w3 at *
  have hJ3 : JobR w3 M.j cs fs args := hJ.below (hB ▸ hB3)
  have hfl2 : fn < fs.length := (List.getElem?_eq_some_iff.1 hf).1
  have hpl : pc < f.code.length := (List.getElem?_eq_some_iff.1 hi).1
  obtain ⟨fb, off, ca, cc, ea, _, _, _, k3, hrc, _⟩ := hJ3.fun_at hfl2
  have efn : fs[fn] = f := (List.getElem?_eq_some_iff.1 hf).2
  rw [efn] at k3 hrc
  obtain ⟨cb, co, rfl, ki, kn⟩ := ins_cells hrc hi
  have c7 := h3.cell 7 _ rfl
  have c0 := h3.cell 0 _ rfl
  have c1 := h3.cell 1 _ rfl
  simp only [ea, hfn, hpc, hJ3.nf] at c7 c0 c1
  have hba := alloc_below w3 (.cells #[.int .i64 0, .int .i64 0] 26)
  have c7' := keep_cell c7 hba
  have c0' := keep_cell c0 hba
  have c1' := keep_cell c1 hba
  have k3' := keep_cell k3 hba
  have ki' := keep_cell ki hba
  have kn' := keep_cell kn hba
  have hfl3 : (fn : Int) < (fs.length : Int) := by omega
  have hpl3 : (pc : Int) < (f.code.length : Int) := by omega
  have H3 := hide h3
  have HW3 := hide hw3
  clear h h1 h2 h3 hw2 hw3 hJ3 hrc hB1 hB2 hB3 hJ hb hb1 hf hi efn
  go_big_region
  have hb4 : Below w3.heap.size w3 (w3.alloc (.cells #[.int .i64 18, .int .i64 n] 26)).drew := (alloc_below w3 _).drew
  have h4 := H3.out.below hb4
  have hw4 : Below B w (w3.alloc (.cells #[.int .i64 18, .int .i64 n] 26)).drew := HW3.out.trans (hb4.mono (by have := H3.out.lt; omega))
  have hL : Mach B (w3.alloc (.cells #[.int .i64 18, .int .i64 n] 26)).drew m { M with fu := M.fu + 1, es := M.es + 1 } (sk.reverse ++ [x]) lo ar := by simpa using h4
  have CL := last_any hL (by simp; omega)
  have CE := ended_any h4 0 x
  clear c7 c0 c1 k3 ki kn c7' c0' c1' k3' ki' kn' H3 HW3 h4 hb4 hba hL
  go_wp2_with (first
    | (go_at_call 54; go_must (with_reducible refine CL.mono ?_; (rintro e w5 ⟨rfl, hw5⟩); subst hw5))
    | (go_at_call 25; go_must (with_reducible refine CE.mono ?_; (rintro e w6 ⟨rfl, h6, hb6⟩))))
  go_end0
  exact ⟨rfl, h6, hw4.trans hb6⟩
end Go.Proofs.YtjkcedokjgnhgabDoor
