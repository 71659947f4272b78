/- step: jump,zero,fail. -/
import Derived.Test.YtnkfdpnommjlcaaGreatDoorSubB
import Derived.Test.YtnkfdpnommjlcaaGreatDoorPlaB
import Derived.Test.YtnkfdpnommjlcaaGreatDoorPm
namespace Go.Proofs.YtnkfdpnommjlcaaGreatDoor
open Go.RowKit Go.ChangeShapes Go.WideShapes Go.ChangeAt Go.Deep

set_option linter.unusedVariables false in
set_option linter.unusedSimpArgs false in
set_option maxRecDepth 100000 in
set_option maxHeartbeats 2000000 in
theorem step_jump {B : Bd} {w w0 : World} {m : Nat} {M : Mc} {sk lo ar : List Int} {cs : List Value} {fs : List Fun} {args : List Int} {deep : Int} (h : Mach B w m M sk.reverse lo ar) (hJ : JobR w0 M.j cs fs args) (hB : B = w0.heap.size) (hb : Below B w0 w) (fn pc : Nat) (f : Fun) (n : Int)
    (hfn : M.fn = (fn : Int)) (hpc : M.pc = (pc : Int)) (hf : fs[fn]? = some f) (hi : f.code[pc]? = some (14, n)) (hfu : M.fu < M.j.fuel) (hfl : -1000000 ≤ M.fu ∧ M.fu ≤ 1000000) (hes : -1000000 ≤ M.es ∧ M.es ≤ 1000000) (hpcl : pc ≤ 1000000) 
    (hn : True) :
    Calls Tryz.prog 72 #[.pointer (some ⟨m, 0, none⟩), .int .i64 deep] w fun e w' => e = .returned (.tuple #[]) ∧ Mach B w' m { M with fu := M.fu + 1, es := M.es + 1, pc := n } sk.reverse lo ar ∧ Below B w w' := by
  have hlt := h.lt
  have hbm := h.bm
  have N1 := fun w => tneed_yes 21 w
  have c2 := h.cell 2 _ rfl
  have c10 := h.cell 10 _ rfl
  have hbs := hb.size
  go_enter Tryz.func72, Tryz.ntmps72
  go_wp2_with fail
  go_big_quiet (first | (go_at_call 24; with_reducible exact Calls.quiet_of_same (N1 _)))
  have hb1 : Below w.heap.size w (w.drewN nq) := below_drewN' (Below.refl _ _) nq
  have h1 := h.below hb1
  have hB1 : Below B w0 (w.drewN nq) := hb.trans (hb1.mono (by omega))
  generalize w.drewN nq = w1 at *
  clear c2 c10
  have c2 := h1.cell 2 _ rfl
  have f2 := h1.froz 2
  have h2 := h1.put (M' := { M with fu := M.fu + 1 }) 2 (.int .i64 (M.fu + 1)) rfl rfl rfl rfl
  have hB2 : Below B w0 (w1.setCell ⟨m, 2, none⟩ (.int .i64 (M.fu + 1))) := hB1.setCell (p := ⟨m, 2, none⟩) hbm _
  have hw2 : Below B w (w1.setCell ⟨m, 2, none⟩ (.int .i64 (M.fu + 1))) := (hb1.mono (by omega)).setCell (p := ⟨m, 2, none⟩) hbm _
  go_upto_region 2 with fail
  clear c2 f2
  generalize w1.setCell ⟨m, 2, none⟩ (.int .i64 (M.fu + 1)) = w2 at *
  have c15 := h2.cell 15 _ rfl
  have f15 := h2.froz 15
  have h3 := h2.put (M' := { M with fu := M.fu + 1, es := M.es + 1 }) 15 (.int .i64 (M.es + 1)) rfl rfl rfl rfl
  have hB3 : Below B w0 (w2.setCell ⟨m, 15, none⟩ (.int .i64 (M.es + 1))) := hB2.setCell (p := ⟨m, 15, none⟩) hbm _
  have hw3 : Below B w (w2.setCell ⟨m, 15, none⟩ (.int .i64 (M.es + 1))) := hw2.setCell (p := ⟨m, 15, none⟩) hbm _
  go_upto_region 3 with fail
  clear c15 f15
  generalize w2.setCell ⟨m, 15, none⟩ (.int .i64 (M.es + 1)) = w3 at *
  have hJ3 : JobR w3 M.j cs fs args := hJ.below (hB ▸ hB3)
  have hfl2 : fn < fs.length := (List.getElem?_eq_some_iff.1 hf).1
  have hpl : pc < f.code.length := (List.getElem?_eq_some_iff.1 hi).1
  obtain ⟨fb, off, ca, cc, ea, _, _, _, k3, hrc, _⟩ := hJ3.fun_at hfl2
  have efn : fs[fn] = f := (List.getElem?_eq_some_iff.1 hf).2
  rw [efn] at k3 hrc
  obtain ⟨cb, co, rfl, ki, kn⟩ := ins_cells hrc hi
  have c7 := h3.cell 7 _ rfl
  have c0 := h3.cell 0 _ rfl
  have c1 := h3.cell 1 _ rfl
  simp only [ea, hfn, hpc, hJ3.nf] at c7 c0 c1
  have hba := alloc_below w3 (.cells #[.int .i64 0, .int .i64 0] 55)
  have c7' := keep_cell c7 hba
  have c0' := keep_cell c0 hba
  have c1' := keep_cell c1 hba
  have k3' := keep_cell k3 hba
  have ki' := keep_cell ki hba
  have kn' := keep_cell kn hba
  have hfl3 : (fn : Int) < (fs.length : Int) := by omega
  have hpl3 : (pc : Int) < (f.code.length : Int) := by omega
  have H3 := hide h3
  have HW3 := hide hw3
  clear h h1 h2 h3 hw2 hw3 hJ3 hrc hB1 hB2 hB3 hJ hb hb1 hf hi efn
  go_big_region
  have hb4 : Below w3.heap.size w3 (w3.alloc (.cells #[.int .i64 14, .int .i64 n] 55)).drew := (alloc_below w3 _).drew
  have h4 := H3.out.below hb4
  have hw4 : Below B w (w3.alloc (.cells #[.int .i64 14, .int .i64 n] 55)).drew := HW3.out.trans (hb4.mono (by have := H3.out.lt; omega))
  have bx0 : (w3.alloc (.cells #[.int .i64 14, .int .i64 n] 55)).drew.cell? ⟨w3.heap.size, 0, none⟩ = some (.int .i64 14) := keep_cell (cell_row (cs := [.int .i64 14, .int .i64 n]) (i := 0) (heap_alloc_new w3 _) rfl) ((Below.refl _ _).drew)
  have bx1 : (w3.alloc (.cells #[.int .i64 14, .int .i64 n] 55)).drew.cell? ⟨w3.heap.size, 1, none⟩ = some (.int .i64 n) := keep_cell (cell_row (cs := [.int .i64 14, .int .i64 n]) (i := 1) (heap_alloc_new w3 _) rfl) ((Below.refl _ _).drew)
  clear c7 c0 c1 k3 ki kn c7' c0' c1' k3' ki' kn' H3 HW3 hba hfn
  generalize (w3.alloc (.cells #[.int .i64 14, .int .i64 n] 55)).drew = w4 at *
  have c1 := h4.cell 1 _ rfl
  have f1 := h4.froz 1
  have H6 := hide (h4.put (M' := { M with fu := M.fu + 1, es := M.es + 1, pc := n }) 1 (.int .i64 n) rfl rfl rfl rfl)
  have HB6 := hide (show Below B w (w4.setCell ⟨m, 1, none⟩ (.int .i64 n)) from hw4.setCell (p := ⟨m, 1, none⟩) hbm _)
  clear h4 hb4 hw4 hpc hB
  go_wp2_with fail
  go_end0
  exact ⟨rfl, H6.out, HB6.out⟩
def StepZ (B : Bd) (w : World) (m : Nat) (M : Mc) (sk lo ar : List Int) (x n : Int) (pc : Nat) (w' : World) : Prop := ∃ sv, Mach B w' m { M with fu := M.fu + 1, es := M.es + 1, sv := sv, pc := if x = 0 then n else (pc : Int) + 1 } sk.reverse lo ar ∧ Below B w w'
set_option linter.unusedVariables false in
set_option linter.unusedSimpArgs false in
set_option maxRecDepth 100000 in
set_option maxHeartbeats 2000000 in
theorem step_zero {B : Bd} {w w0 : World} {m : Nat} {M : Mc} {sk lo ar : List Int} {x : Int} {cs : List Value} {fs : List Fun} {args : List Int} {deep : Int} (h : Mach B w m M (x :: sk).reverse lo ar) (hJ : JobR w0 M.j cs fs args) (hB : B = w0.heap.size) (hb : Below B w0 w) (fn pc : Nat) (f : Fun) (n : Int)
    (hfn : M.fn = (fn : Int)) (hpc : M.pc = (pc : Int)) (hf : fs[fn]? = some f) (hi : f.code[pc]? = some (15, n)) (hfu : M.fu < M.j.fuel) (hfl : -1000000 ≤ M.fu ∧ M.fu ≤ 1000000) (hes : -1000000 ≤ M.es ∧ M.es ≤ 1000000) (hpcl : pc ≤ 1000000) 
    (hsk : sk.length ≤ 10000) :
    Calls Tryz.prog 72 #[.pointer (some ⟨m, 0, none⟩), .int .i64 deep] w fun e w' => e = .returned (.tuple #[]) ∧ StepZ B w m M sk lo ar x n pc w' := by
  have hlt := h.lt
  have hbm := h.bm
  have N1 := fun w => tneed_yes 21 w
  have c2 := h.cell 2 _ rfl
  have c10 := h.cell 10 _ rfl
  have hbs := hb.size
  go_enter Tryz.func72, Tryz.ntmps72
  go_wp2_with fail
  go_big_quiet (first | (go_at_call 24; with_reducible exact Calls.quiet_of_same (N1 _)))
  have hb1 : Below w.heap.size w (w.drewN nq) := below_drewN' (Below.refl _ _) nq
  have h1 := h.below hb1
  have hB1 : Below B w0 (w.drewN nq) := hb.trans (hb1.mono (by omega))
  generalize w.drewN nq = w1 at *
  clear c2 c10
  have c2 := h1.cell 2 _ rfl
  have f2 := h1.froz 2
  have h2 := h1.put (M' := { M with fu := M.fu + 1 }) 2 (.int .i64 (M.fu + 1)) rfl rfl rfl rfl
  have hB2 : Below B w0 (w1.setCell ⟨m, 2, none⟩ (.int .i64 (M.fu + 1))) := hB1.setCell (p := ⟨m, 2, none⟩) hbm _
  have hw2 : Below B w (w1.setCell ⟨m, 2, none⟩ (.int .i64 (M.fu + 1))) := (hb1.mono (by omega)).setCell (p := ⟨m, 2, none⟩) hbm _
  go_upto_region 2 with fail
  clear c2 f2
  generalize w1.setCell ⟨m, 2, none⟩ (.int .i64 (M.fu + 1)) = w2 at *
  have c15 := h2.cell 15 _ rfl
  have f15 := h2.froz 15
  have h3 := h2.put (M' := { M with fu := M.fu + 1, es := M.es + 1 }) 15 (.int .i64 (M.es + 1)) rfl rfl rfl rfl
  have hB3 : Below B w0 (w2.setCell ⟨m, 15, none⟩ (.int .i64 (M.es + 1))) := hB2.setCell (p := ⟨m, 15, none⟩) hbm _
  have hw3 : Below B w (w2.setCell ⟨m, 15, none⟩ (.int .i64 (M.es + 1))) := hw2.setCell (p := ⟨m, 15, none⟩) hbm _
  go_upto_region 3 with fail
  clear c15 f15
  generalize w2.setCell ⟨m, 15, none⟩ (.int .i64 (M.es + 1)) = w3 at *
  have hJ3 : JobR w3 M.j cs fs args := hJ.below (hB ▸ hB3)
  have hfl2 : fn < fs.length := (List.getElem?_eq_some_iff.1 hf).1
  have hpl : pc < f.code.length := (List.getElem?_eq_some_iff.1 hi).1
  obtain ⟨fb, off, ca, cc, ea, _, _, _, k3, hrc, _⟩ := hJ3.fun_at hfl2
  have efn : fs[fn] = f := (List.getElem?_eq_some_iff.1 hf).2
  rw [efn] at k3 hrc
  obtain ⟨cb, co, rfl, ki, kn⟩ := ins_cells hrc hi
  have c7 := h3.cell 7 _ rfl
  have c0 := h3.cell 0 _ rfl
  have c1 := h3.cell 1 _ rfl
  simp only [ea, hfn, hpc, hJ3.nf] at c7 c0 c1
  have hba := alloc_below w3 (.cells #[.int .i64 0, .int .i64 0] 55)
  have c7' := keep_cell c7 hba
  have c0' := keep_cell c0 hba
  have c1' := keep_cell c1 hba
  have k3' := keep_cell k3 hba
  have ki' := keep_cell ki hba
  have kn' := keep_cell kn hba
  have hfl3 : (fn : Int) < (fs.length : Int) := by omega
  have hpl3 : (pc : Int) < (f.code.length : Int) := by omega
  have H3 := hide h3
  have HW3 := hide hw3
  clear h h1 h2 h3 hw2 hw3 hJ3 hrc hB1 hB2 hB3 hJ hb hb1 hf hi efn
  go_big_region
  have hb4 : Below w3.heap.size w3 (w3.alloc (.cells #[.int .i64 15, .int .i64 n] 55)).drew := (alloc_below w3 _).drew
  have h4 := H3.out.below hb4
  have hw4 : Below B w (w3.alloc (.cells #[.int .i64 15, .int .i64 n] 55)).drew := HW3.out.trans (hb4.mono (by have := H3.out.lt; omega))
  have bx0 : (w3.alloc (.cells #[.int .i64 15, .int .i64 n] 55)).drew.cell? ⟨w3.heap.size, 0, none⟩ = some (.int .i64 15) := keep_cell (cell_row (cs := [.int .i64 15, .int .i64 n]) (i := 0) (heap_alloc_new w3 _) rfl) ((Below.refl _ _).drew)
  have bx1 : (w3.alloc (.cells #[.int .i64 15, .int .i64 n] 55)).drew.cell? ⟨w3.heap.size, 1, none⟩ = some (.int .i64 n) := keep_cell (cell_row (cs := [.int .i64 15, .int .i64 n]) (i := 1) (heap_alloc_new w3 _) rfl) ((Below.refl _ _).drew)
  clear c7 c0 c1 k3 ki kn c7' c0' c1' k3' ki' kn' H3 HW3 hba hfn
  have CZ := zero_Q h4 n pc hpc hpcl hsk
  generalize (w3.alloc (.cells #[.int .i64 15, .int .i64 n] 55)).drew = w4 at *
  clear h4 hb4 hpc hB
  go_wp2_with (go_at_call 87; go_must (with_reducible refine CZ.mono ?_; (rintro e w6 ⟨rfl, hz⟩)))
  go_end0
  obtain ⟨sv6, h6, hb6⟩ := hz
  exact ⟨rfl, sv6, h6, hw4.trans hb6⟩
set_option linter.unusedVariables false in
set_option linter.unusedSimpArgs false in
set_option maxRecDepth 100000 in
set_option maxHeartbeats 2000000 in
theorem step_fail {B : Bd} {w w0 : World} {m : Nat} {M : Mc} {sk lo ar : List Int} {x : Int} {cs : List Value} {fs : List Fun} {args : List Int} {deep : Int} (h : Mach B w m M (x :: sk).reverse lo ar) (hJ : JobR w0 M.j cs fs args) (hB : B = w0.heap.size) (hb : Below B w0 w) (fn pc : Nat) (f : Fun) (n : Int)
    (hfn : M.fn = (fn : Int)) (hpc : M.pc = (pc : Int)) (hf : fs[fn]? = some f) (hi : f.code[pc]? = some (19, n)) (hfu : M.fu < M.j.fuel) (hfl : -1000000 ≤ M.fu ∧ M.fu ≤ 1000000) (hes : -1000000 ≤ M.es ∧ M.es ≤ 1000000) (hpcl : pc ≤ 1000000) 
    (hsk : sk.length ≤ 10000) :
    Calls Tryz.prog 72 #[.pointer (some ⟨m, 0, none⟩), .int .i64 deep] w fun e w' => e = upF 25 x ∧ Mach B w' m { M with fu := M.fu + 1, es := M.es + 1 } (x :: sk).reverse lo ar ∧ Below B w w' := by
  have hlt := h.lt
  have hbm := h.bm
  have N1 := fun w => tneed_yes 21 w
  have c2 := h.cell 2 _ rfl
  have c10 := h.cell 10 _ rfl
  have hbs := hb.size
  go_enter Tryz.func72, Tryz.ntmps72
  go_wp2_with fail
  go_big_quiet (first | (go_at_call 24; with_reducible exact Calls.quiet_of_same (N1 _)))
  have hb1 : Below w.heap.size w (w.drewN nq) := below_drewN' (Below.refl _ _) nq
  have h1 := h.below hb1
  have hB1 : Below B w0 (w.drewN nq) := hb.trans (hb1.mono (by omega))
  generalize w.drewN nq = w1 at *
  clear c2 c10
  have c2 := h1.cell 2 _ rfl
  have f2 := h1.froz 2
  have h2 := h1.put (M' := { M with fu := M.fu + 1 }) 2 (.int .i64 (M.fu + 1)) rfl rfl rfl rfl
  have hB2 : Below B w0 (w1.setCell ⟨m, 2, none⟩ (.int .i64 (M.fu + 1))) := hB1.setCell (p := ⟨m, 2, none⟩) hbm _
  have hw2 : Below B w (w1.setCell ⟨m, 2, none⟩ (.int .i64 (M.fu + 1))) := (hb1.mono (by omega)).setCell (p := ⟨m, 2, none⟩) hbm _
  go_upto_region 2 with fail
  clear c2 f2
  generalize w1.setCell ⟨m, 2, none⟩ (.int .i64 (M.fu + 1)) = w2 at *
  have c15 := h2.cell 15 _ rfl
  have f15 := h2.froz 15
  have h3 := h2.put (M' := { M with fu := M.fu + 1, es := M.es + 1 }) 15 (.int .i64 (M.es + 1)) rfl rfl rfl rfl
  have hB3 : Below B w0 (w2.setCell ⟨m, 15, none⟩ (.int .i64 (M.es + 1))) := hB2.setCell (p := ⟨m, 15, none⟩) hbm _
  have hw3 : Below B w (w2.setCell ⟨m, 15, none⟩ (.int .i64 (M.es + 1))) := hw2.setCell (p := ⟨m, 15, none⟩) hbm _
  go_upto_region 3 with fail
  clear c15 f15
  generalize w2.setCell ⟨m, 15, none⟩ (.int .i64 (M.es + 1)) = w3 at *
  have hJ3 : JobR w3 M.j cs fs args := hJ.below (hB ▸ hB3)
  have hfl2 : fn < fs.length := (List.getElem?_eq_some_iff.1 hf).1
  have hpl : pc < f.code.length := (List.getElem?_eq_some_iff.1 hi).1
  obtain ⟨fb, off, ca, cc, ea, _, _, _, k3, hrc, _⟩ := hJ3.fun_at hfl2
  have efn : fs[fn] = f := (List.getElem?_eq_some_iff.1 hf).2
  rw [efn] at k3 hrc
  obtain ⟨cb, co, rfl, ki, kn⟩ := ins_cells hrc hi
  have c7 := h3.cell 7 _ rfl
  have c0 := h3.cell 0 _ rfl
  have c1 := h3.cell 1 _ rfl
  simp only [ea, hfn, hpc, hJ3.nf] at c7 c0 c1
  have hba := alloc_below w3 (.cells #[.int .i64 0, .int .i64 0] 55)
  have c7' := keep_cell c7 hba
  have c0' := keep_cell c0 hba
  have c1' := keep_cell c1 hba
  have k3' := keep_cell k3 hba
  have ki' := keep_cell ki hba
  have kn' := keep_cell kn hba
  have hfl3 : (fn : Int) < (fs.length : Int) := by omega
  have hpl3 : (pc : Int) < (f.code.length : Int) := by omega
  have H3 := hide h3
  have HW3 := hide hw3
  clear h h1 h2 h3 hw2 hw3 hJ3 hrc hB1 hB2 hB3 hJ hb hb1 hf hi efn
  go_big_region
  have hb4 : Below w3.heap.size w3 (w3.alloc (.cells #[.int .i64 19, .int .i64 n] 55)).drew := (alloc_below w3 _).drew
  have h4 := H3.out.below hb4
  have hw4 : Below B w (w3.alloc (.cells #[.int .i64 19, .int .i64 n] 55)).drew := HW3.out.trans (hb4.mono (by have := H3.out.lt; omega))
  have bx0 : (w3.alloc (.cells #[.int .i64 19, .int .i64 n] 55)).drew.cell? ⟨w3.heap.size, 0, none⟩ = some (.int .i64 19) := keep_cell (cell_row (cs := [.int .i64 19, .int .i64 n]) (i := 0) (heap_alloc_new w3 _) rfl) ((Below.refl _ _).drew)
  have bx1 : (w3.alloc (.cells #[.int .i64 19, .int .i64 n] 55)).drew.cell? ⟨w3.heap.size, 1, none⟩ = some (.int .i64 n) := keep_cell (cell_row (cs := [.int .i64 19, .int .i64 n]) (i := 1) (heap_alloc_new w3 _) rfl) ((Below.refl _ _).drew)
  clear c7 c0 c1 k3 ki kn c7' c0' c1' k3' ki' kn' H3 HW3 hba hfn
  have hL : Mach B (w3.alloc (.cells #[.int .i64 19, .int .i64 n] 55)).drew m { M with fu := M.fu + 1, es := M.es + 1 } (sk.reverse ++ [x]) lo ar := by simpa using h4
  have CL := last_any hL (by simp; omega)
  generalize (w3.alloc (.cells #[.int .i64 19, .int .i64 n] 55)).drew = w4 at *
  clear hb4 hL
  go_wp2_with (go_at_call 86; go_must (with_reducible refine CL.mono ?_; (rintro e w5 ⟨rfl, hw5⟩); subst hw5))
  exact ⟨rfl, rfl, h4, hw4⟩
end Go.Proofs.YtnkfdpnommjlcaaGreatDoor
/- step: spawn,spawndeep,spawnkids. -/

namespace Go.Proofs.YtnkfdpnommjlcaaGreatDoor
open Go.RowKit Go.ChangeShapes Go.WideShapes Go.ChangeAt Go.Deep

set_option linter.unusedVariables false in
set_option linter.unusedSimpArgs false in
set_option maxRecDepth 100000 in
set_option maxHeartbeats 2000000 in
theorem step_spawn {B : Bd} {w w0 : World} {m : Nat} {M : Mc} {sk lo ar : List Int} {cs : List Value} {fs : List Fun} {args : List Int} {deep : Int} (h : Mach B w m M sk.reverse lo ar) (hJ : JobR w0 M.j cs fs args) (hB : B = w0.heap.size) (hb : Below B w0 w) (fn pc : Nat) (f : Fun) (n0 : Nat)
    (hfn : M.fn = (fn : Int)) (hpc : M.pc = (pc : Int)) (hf : fs[fn]? = some f) (hi : f.code[pc]? = some (16, (n0 : Int))) (hfu : M.fu < M.j.fuel) (hfl : -1000000 ≤ M.fu ∧ M.fu ≤ 1000000) (hes : -1000000 ≤ M.es ∧ M.es ≤ 1000000) (hpcl : pc ≤ 1000000) 
    (g : Fun) (hg : fs[n0]? = some g) (k : Nat) (hk : g.args = (k : Int)) (hkl : k ≤ sk.length) (hsk : sk.length ≤ 10000) (hd : deep < 12) (hkd : 0 ≤ M.kd ∧ M.kd < 16) :
    Calls Tryz.prog 72 #[.pointer (some ⟨m, 0, none⟩), .int .i64 deep] w fun e w' => e = .returned (.tuple #[]) ∧ ∃ sv av, Mach B w' m { M with fu := M.fu + 1, es := M.es + 1, ek := 1, ef := (n0 : Int), ei := M.kd, av := av, sv := sv, kd := M.kd + 1, pc := (pc : Int) + 1 } (M.kd :: sk.drop k).reverse lo (sk.take k).reverse ∧ Below B w w' := by
  have HJ0 := hide hJ
  have HBW := hide hb
  have hlt := h.lt
  have hbm := h.bm
  have N1 := fun w => tneed_yes 21 w
  have c2 := h.cell 2 _ rfl
  have c10 := h.cell 10 _ rfl
  have hbs := hb.size
  go_enter Tryz.func72, Tryz.ntmps72
  go_wp2_with fail
  go_big_quiet (first | (go_at_call 24; with_reducible exact Calls.quiet_of_same (N1 _)))
  have hb1 : Below w.heap.size w (w.drewN nq) := below_drewN' (Below.refl _ _) nq
  have h1 := h.below hb1
  have hB1 : Below B w0 (w.drewN nq) := hb.trans (hb1.mono (by omega))
  generalize w.drewN nq = w1 at *
  clear c2 c10
  have c2 := h1.cell 2 _ rfl
  have f2 := h1.froz 2
  have h2 := h1.put (M' := { M with fu := M.fu + 1 }) 2 (.int .i64 (M.fu + 1)) rfl rfl rfl rfl
  have hB2 : Below B w0 (w1.setCell ⟨m, 2, none⟩ (.int .i64 (M.fu + 1))) := hB1.setCell (p := ⟨m, 2, none⟩) hbm _
  have hw2 : Below B w (w1.setCell ⟨m, 2, none⟩ (.int .i64 (M.fu + 1))) := (hb1.mono (by omega)).setCell (p := ⟨m, 2, none⟩) hbm _
  go_upto_region 2 with fail
  clear c2 f2
  generalize w1.setCell ⟨m, 2, none⟩ (.int .i64 (M.fu + 1)) = w2 at *
  have c15 := h2.cell 15 _ rfl
  have f15 := h2.froz 15
  have h3 := h2.put (M' := { M with fu := M.fu + 1, es := M.es + 1 }) 15 (.int .i64 (M.es + 1)) rfl rfl rfl rfl
  have hB3 : Below B w0 (w2.setCell ⟨m, 15, none⟩ (.int .i64 (M.es + 1))) := hB2.setCell (p := ⟨m, 15, none⟩) hbm _
  have hw3 : Below B w (w2.setCell ⟨m, 15, none⟩ (.int .i64 (M.es + 1))) := hw2.setCell (p := ⟨m, 15, none⟩) hbm _
  go_upto_region 3 with fail
  clear c15 f15
  generalize w2.setCell ⟨m, 15, none⟩ (.int .i64 (M.es + 1)) = w3 at *
  have hJ3 : JobR w3 M.j cs fs args := hJ.below (hB ▸ hB3)
  have hfl2 : fn < fs.length := (List.getElem?_eq_some_iff.1 hf).1
  have hpl : pc < f.code.length := (List.getElem?_eq_some_iff.1 hi).1
  obtain ⟨fb, off, ca, cc, ea, _, _, _, k3, hrc, _⟩ := hJ3.fun_at hfl2
  have efn : fs[fn] = f := (List.getElem?_eq_some_iff.1 hf).2
  rw [efn] at k3 hrc
  obtain ⟨cb, co, rfl, ki, kn⟩ := ins_cells hrc hi
  have c7 := h3.cell 7 _ rfl
  have c0 := h3.cell 0 _ rfl
  have c1 := h3.cell 1 _ rfl
  simp only [ea, hfn, hpc, hJ3.nf] at c7 c0 c1
  have hba := alloc_below w3 (.cells #[.int .i64 0, .int .i64 0] 55)
  have c7' := keep_cell c7 hba
  have c0' := keep_cell c0 hba
  have c1' := keep_cell c1 hba
  have k3' := keep_cell k3 hba
  have ki' := keep_cell ki hba
  have kn' := keep_cell kn hba
  have hfl3 : (fn : Int) < (fs.length : Int) := by omega
  have hpl3 : (pc : Int) < (f.code.length : Int) := by omega
  have H3 := hide h3
  have HW3 := hide hw3
  clear h h1 h2 h3 hw2 hw3 hJ3 hrc hB1 hB2 hB3 hJ hb hb1 hf hi efn
  go_big_region
  have hb4 : Below w3.heap.size w3 (w3.alloc (.cells #[.int .i64 16, .int .i64 (n0 : Int)] 55)).drew := (alloc_below w3 _).drew
  have h4 := H3.out.below hb4
  have hw4 : Below B w (w3.alloc (.cells #[.int .i64 16, .int .i64 (n0 : Int)] 55)).drew := HW3.out.trans (hb4.mono (by have := H3.out.lt; omega))
  have bx0 : (w3.alloc (.cells #[.int .i64 16, .int .i64 (n0 : Int)] 55)).drew.cell? ⟨w3.heap.size, 0, none⟩ = some (.int .i64 16) := keep_cell (cell_row (cs := [.int .i64 16, .int .i64 (n0 : Int)]) (i := 0) (heap_alloc_new w3 _) rfl) ((Below.refl _ _).drew)
  have bx1 : (w3.alloc (.cells #[.int .i64 16, .int .i64 (n0 : Int)] 55)).drew.cell? ⟨w3.heap.size, 1, none⟩ = some (.int .i64 (n0 : Int)) := keep_cell (cell_row (cs := [.int .i64 16, .int .i64 (n0 : Int)]) (i := 1) (heap_alloc_new w3 _) rfl) ((Below.refl _ _).drew)
  clear c7 c0 c1 k3 ki kn c7' c0' c1' k3' ki' kn' H3 HW3 hba hfn
  have CS := spawn_any (deep := deep) h4 n0 g hg k hk hkl hsk hd hkd pc hpc hpcl ⟨w0, hB, HBW.out.trans hw4, HJ0.out⟩
  generalize (w3.alloc (.cells #[.int .i64 16, .int .i64 (n0 : Int)] 55)).drew = w4 at *
  clear h4 hb4 hB hpc
  go_wp2_with (go_at_call 88; go_must (with_reducible refine CS.mono ?_; (rintro e w6 ⟨rfl, sv6, av6, h6, hb6⟩)))
  go_end0
  exact ⟨rfl, sv6, av6, h6, hw4.trans hb6⟩
set_option linter.unusedVariables false in
set_option linter.unusedSimpArgs false in
set_option maxRecDepth 100000 in
set_option maxHeartbeats 2000000 in
theorem step_spawn_deep {B : Bd} {w w0 : World} {m : Nat} {M : Mc} {sk lo ar : List Int} {cs : List Value} {fs : List Fun} {args : List Int} {deep : Int} (h : Mach B w m M sk.reverse lo ar) (hJ : JobR w0 M.j cs fs args) (hB : B = w0.heap.size) (hb : Below B w0 w) (fn pc : Nat) (f : Fun) (n : Int)
    (hfn : M.fn = (fn : Int)) (hpc : M.pc = (pc : Int)) (hf : fs[fn]? = some f) (hi : f.code[pc]? = some (16, n)) (hfu : M.fu < M.j.fuel) (hfl : -1000000 ≤ M.fu ∧ M.fu ≤ 1000000) (hes : -1000000 ≤ M.es ∧ M.es ≤ 1000000) (hpcl : pc ≤ 1000000) 
    (hd : ¬ deep < 12) :
    Calls Tryz.prog 72 #[.pointer (some ⟨m, 0, none⟩), .int .i64 deep] w fun e w' => e = upF 22 0 ∧ Mach B w' m { M with fu := M.fu + 1, es := M.es + 1 } sk.reverse lo ar ∧ Below B w w' := by
  have hlt := h.lt
  have hbm := h.bm
  have N1 := fun w => tneed_yes 21 w
  have c2 := h.cell 2 _ rfl
  have c10 := h.cell 10 _ rfl
  have hbs := hb.size
  go_enter Tryz.func72, Tryz.ntmps72
  go_wp2_with fail
  go_big_quiet (first | (go_at_call 24; with_reducible exact Calls.quiet_of_same (N1 _)))
  have hb1 : Below w.heap.size w (w.drewN nq) := below_drewN' (Below.refl _ _) nq
  have h1 := h.below hb1
  have hB1 : Below B w0 (w.drewN nq) := hb.trans (hb1.mono (by omega))
  generalize w.drewN nq = w1 at *
  clear c2 c10
  have c2 := h1.cell 2 _ rfl
  have f2 := h1.froz 2
  have h2 := h1.put (M' := { M with fu := M.fu + 1 }) 2 (.int .i64 (M.fu + 1)) rfl rfl rfl rfl
  have hB2 : Below B w0 (w1.setCell ⟨m, 2, none⟩ (.int .i64 (M.fu + 1))) := hB1.setCell (p := ⟨m, 2, none⟩) hbm _
  have hw2 : Below B w (w1.setCell ⟨m, 2, none⟩ (.int .i64 (M.fu + 1))) := (hb1.mono (by omega)).setCell (p := ⟨m, 2, none⟩) hbm _
  go_upto_region 2 with fail
  clear c2 f2
  generalize w1.setCell ⟨m, 2, none⟩ (.int .i64 (M.fu + 1)) = w2 at *
  have c15 := h2.cell 15 _ rfl
  have f15 := h2.froz 15
  have h3 := h2.put (M' := { M with fu := M.fu + 1, es := M.es + 1 }) 15 (.int .i64 (M.es + 1)) rfl rfl rfl rfl
  have hB3 : Below B w0 (w2.setCell ⟨m, 15, none⟩ (.int .i64 (M.es + 1))) := hB2.setCell (p := ⟨m, 15, none⟩) hbm _
  have hw3 : Below B w (w2.setCell ⟨m, 15, none⟩ (.int .i64 (M.es + 1))) := hw2.setCell (p := ⟨m, 15, none⟩) hbm _
  go_upto_region 3 with fail
  clear c15 f15
  generalize w2.setCell ⟨m, 15, none⟩ (.int .i64 (M.es + 1)) = w3 at *
  have hJ3 : JobR w3 M.j cs fs args := hJ.below (hB ▸ hB3)
  have hfl2 : fn < fs.length := (List.getElem?_eq_some_iff.1 hf).1
  have hpl : pc < f.code.length := (List.getElem?_eq_some_iff.1 hi).1
  obtain ⟨fb, off, ca, cc, ea, _, _, _, k3, hrc, _⟩ := hJ3.fun_at hfl2
  have efn : fs[fn] = f := (List.getElem?_eq_some_iff.1 hf).2
  rw [efn] at k3 hrc
  obtain ⟨cb, co, rfl, ki, kn⟩ := ins_cells hrc hi
  have c7 := h3.cell 7 _ rfl
  have c0 := h3.cell 0 _ rfl
  have c1 := h3.cell 1 _ rfl
  simp only [ea, hfn, hpc, hJ3.nf] at c7 c0 c1
  have hba := alloc_below w3 (.cells #[.int .i64 0, .int .i64 0] 55)
  have c7' := keep_cell c7 hba
  have c0' := keep_cell c0 hba
  have c1' := keep_cell c1 hba
  have k3' := keep_cell k3 hba
  have ki' := keep_cell ki hba
  have kn' := keep_cell kn hba
  have hfl3 : (fn : Int) < (fs.length : Int) := by omega
  have hpl3 : (pc : Int) < (f.code.length : Int) := by omega
  have H3 := hide h3
  have HW3 := hide hw3
  clear h h1 h2 h3 hw2 hw3 hJ3 hrc hB1 hB2 hB3 hJ hb hb1 hf hi efn
  go_big_region
  have hb4 : Below w3.heap.size w3 (w3.alloc (.cells #[.int .i64 16, .int .i64 n] 55)).drew := (alloc_below w3 _).drew
  have h4 := H3.out.below hb4
  have hw4 : Below B w (w3.alloc (.cells #[.int .i64 16, .int .i64 n] 55)).drew := HW3.out.trans (hb4.mono (by have := H3.out.lt; omega))
  have bx0 : (w3.alloc (.cells #[.int .i64 16, .int .i64 n] 55)).drew.cell? ⟨w3.heap.size, 0, none⟩ = some (.int .i64 16) := keep_cell (cell_row (cs := [.int .i64 16, .int .i64 n]) (i := 0) (heap_alloc_new w3 _) rfl) ((Below.refl _ _).drew)
  have bx1 : (w3.alloc (.cells #[.int .i64 16, .int .i64 n] 55)).drew.cell? ⟨w3.heap.size, 1, none⟩ = some (.int .i64 n) := keep_cell (cell_row (cs := [.int .i64 16, .int .i64 n]) (i := 1) (heap_alloc_new w3 _) rfl) ((Below.refl _ _).drew)
  clear c7 c0 c1 k3 ki kn c7' c0' c1' k3' ki' kn' H3 HW3 hba hfn
  have CS := spawn_deep h4 n deep (by omega)
  unfold upF failV at CS
  generalize (w3.alloc (.cells #[.int .i64 16, .int .i64 n] 55)).drew = w4 at *
  clear hb4
  go_wp2_with (go_at_call 88; go_must (with_reducible refine CS.mono ?_; (rintro e w6 ⟨rfl, h6, hb6⟩)))
  exact ⟨rfl, rfl, h6, hw4.trans hb6⟩
set_option linter.unusedVariables false in
set_option linter.unusedSimpArgs false in
set_option maxRecDepth 100000 in
set_option maxHeartbeats 2000000 in
theorem step_spawn_kids {B : Bd} {w w0 : World} {m : Nat} {M : Mc} {sk lo ar : List Int} {cs : List Value} {fs : List Fun} {args : List Int} {deep : Int} (h : Mach B w m M sk.reverse lo ar) (hJ : JobR w0 M.j cs fs args) (hB : B = w0.heap.size) (hb : Below B w0 w) (fn pc : Nat) (f : Fun) (n : Int)
    (hfn : M.fn = (fn : Int)) (hpc : M.pc = (pc : Int)) (hf : fs[fn]? = some f) (hi : f.code[pc]? = some (16, n)) (hfu : M.fu < M.j.fuel) (hfl : -1000000 ≤ M.fu ∧ M.fu ≤ 1000000) (hes : -1000000 ≤ M.es ∧ M.es ≤ 1000000) (hpcl : pc ≤ 1000000) 
    (hd : deep < 12) (hkd : ¬ M.kd < 16) :
    Calls Tryz.prog 72 #[.pointer (some ⟨m, 0, none⟩), .int .i64 deep] w fun e w' => e = upF 23 0 ∧ Mach B w' m { M with fu := M.fu + 1, es := M.es + 1 } sk.reverse lo ar ∧ Below B w w' := by
  have hlt := h.lt
  have hbm := h.bm
  have N1 := fun w => tneed_yes 21 w
  have c2 := h.cell 2 _ rfl
  have c10 := h.cell 10 _ rfl
  have hbs := hb.size
  go_enter Tryz.func72, Tryz.ntmps72
  go_wp2_with fail
  go_big_quiet (first | (go_at_call 24; with_reducible exact Calls.quiet_of_same (N1 _)))
  have hb1 : Below w.heap.size w (w.drewN nq) := below_drewN' (Below.refl _ _) nq
  have h1 := h.below hb1
  have hB1 : Below B w0 (w.drewN nq) := hb.trans (hb1.mono (by omega))
  generalize w.drewN nq = w1 at *
  clear c2 c10
  have c2 := h1.cell 2 _ rfl
  have f2 := h1.froz 2
  have h2 := h1.put (M' := { M with fu := M.fu + 1 }) 2 (.int .i64 (M.fu + 1)) rfl rfl rfl rfl
  have hB2 : Below B w0 (w1.setCell ⟨m, 2, none⟩ (.int .i64 (M.fu + 1))) := hB1.setCell (p := ⟨m, 2, none⟩) hbm _
  have hw2 : Below B w (w1.setCell ⟨m, 2, none⟩ (.int .i64 (M.fu + 1))) := (hb1.mono (by omega)).setCell (p := ⟨m, 2, none⟩) hbm _
  go_upto_region 2 with fail
  clear c2 f2
  generalize w1.setCell ⟨m, 2, none⟩ (.int .i64 (M.fu + 1)) = w2 at *
  have c15 := h2.cell 15 _ rfl
  have f15 := h2.froz 15
  have h3 := h2.put (M' := { M with fu := M.fu + 1, es := M.es + 1 }) 15 (.int .i64 (M.es + 1)) rfl rfl rfl rfl
  have hB3 : Below B w0 (w2.setCell ⟨m, 15, none⟩ (.int .i64 (M.es + 1))) := hB2.setCell (p := ⟨m, 15, none⟩) hbm _
  have hw3 : Below B w (w2.setCell ⟨m, 15, none⟩ (.int .i64 (M.es + 1))) := hw2.setCell (p := ⟨m, 15, none⟩) hbm _
  go_upto_region 3 with fail
  clear c15 f15
  generalize w2.setCell ⟨m, 15, none⟩ (.int .i64 (M.es + 1)) = w3 at *
  have hJ3 : JobR w3 M.j cs fs args := hJ.below (hB ▸ hB3)
  have hfl2 : fn < fs.length := (List.getElem?_eq_some_iff.1 hf).1
  have hpl : pc < f.code.length := (List.getElem?_eq_some_iff.1 hi).1
  obtain ⟨fb, off, ca, cc, ea, _, _, _, k3, hrc, _⟩ := hJ3.fun_at hfl2
  have efn : fs[fn] = f := (List.getElem?_eq_some_iff.1 hf).2
  rw [efn] at k3 hrc
  obtain ⟨cb, co, rfl, ki, kn⟩ := ins_cells hrc hi
  have c7 := h3.cell 7 _ rfl
  have c0 := h3.cell 0 _ rfl
  have c1 := h3.cell 1 _ rfl
  simp only [ea, hfn, hpc, hJ3.nf] at c7 c0 c1
  have hba := alloc_below w3 (.cells #[.int .i64 0, .int .i64 0] 55)
  have c7' := keep_cell c7 hba
  have c0' := keep_cell c0 hba
  have c1' := keep_cell c1 hba
  have k3' := keep_cell k3 hba
  have ki' := keep_cell ki hba
  have kn' := keep_cell kn hba
  have hfl3 : (fn : Int) < (fs.length : Int) := by omega
  have hpl3 : (pc : Int) < (f.code.length : Int) := by omega
  have H3 := hide h3
  have HW3 := hide hw3
  clear h h1 h2 h3 hw2 hw3 hJ3 hrc hB1 hB2 hB3 hJ hb hb1 hf hi efn
  go_big_region
  have hb4 : Below w3.heap.size w3 (w3.alloc (.cells #[.int .i64 16, .int .i64 n] 55)).drew := (alloc_below w3 _).drew
  have h4 := H3.out.below hb4
  have hw4 : Below B w (w3.alloc (.cells #[.int .i64 16, .int .i64 n] 55)).drew := HW3.out.trans (hb4.mono (by have := H3.out.lt; omega))
  have bx0 : (w3.alloc (.cells #[.int .i64 16, .int .i64 n] 55)).drew.cell? ⟨w3.heap.size, 0, none⟩ = some (.int .i64 16) := keep_cell (cell_row (cs := [.int .i64 16, .int .i64 n]) (i := 0) (heap_alloc_new w3 _) rfl) ((Below.refl _ _).drew)
  have bx1 : (w3.alloc (.cells #[.int .i64 16, .int .i64 n] 55)).drew.cell? ⟨w3.heap.size, 1, none⟩ = some (.int .i64 n) := keep_cell (cell_row (cs := [.int .i64 16, .int .i64 n]) (i := 1) (heap_alloc_new w3 _) rfl) ((Below.refl _ _).drew)
  clear c7 c0 c1 k3 ki kn c7' c0' c1' k3' ki' kn' H3 HW3 hba hfn
  have CS := spawn_kids h4 n deep hd (by show ¬ M.kd < 16; omega)
  unfold upF failV at CS
  generalize (w3.alloc (.cells #[.int .i64 16, .int .i64 n] 55)).drew = w4 at *
  clear hb4
  go_wp2_with (go_at_call 88; go_must (with_reducible refine CS.mono ?_; (rintro e w6 ⟨rfl, h6, hb6⟩)))
  exact ⟨rfl, rfl, h6, hw4.trans hb6⟩
end Go.Proofs.YtnkfdpnommjlcaaGreatDoor
/- step: plainno,plainlo,fuel. -/

namespace Go.Proofs.YtnkfdpnommjlcaaGreatDoor
open Go.RowKit Go.ChangeShapes Go.WideShapes Go.ChangeAt Go.Deep

set_option linter.unusedVariables false in
set_option linter.unusedSimpArgs false in
set_option maxRecDepth 100000 in
set_option maxHeartbeats 2000000 in
theorem step_plain_no {B : Bd} {w w0 : World} {m : Nat} {M : Mc} {sk lo ar : List Int} {cs : List Value} {fs : List Fun} {args : List Int} {deep : Int} (h : Mach B w m M sk.reverse lo ar) (hJ : JobR w0 M.j cs fs args) (hB : B = w0.heap.size) (hb : Below B w0 w) (fn pc : Nat) (f : Fun) (op n : Int)
    (hfn : M.fn = (fn : Int)) (hpc : M.pc = (pc : Int)) (hf : fs[fn]? = some f) (hi : f.code[pc]? = some (op, n)) (hfu : M.fu < M.j.fuel) (hfl : -1000000 ≤ M.fu ∧ M.fu ≤ 1000000) (hes : -1000000 ≤ M.es ∧ M.es ≤ 1000000) (hpcl : pc ≤ 1000000) 
    (hop : ¬ (14 ≤ op ∧ op ≤ 19))
    (CP : ∀ W, Mach B W m { M with fu := M.fu + 1, es := M.es + 1 } sk.reverse lo ar → Calls Tryz.prog 89 #[.pointer (some ⟨m, 0, none⟩), .agg #[.int .i64 op, .int .i64 n]] W fun e w' => e = upF 20 0 ∧ Mach B w' m { M with fu := M.fu + 1, es := M.es + 1 } sk.reverse lo ar ∧ Below B W w') :
    Calls Tryz.prog 72 #[.pointer (some ⟨m, 0, none⟩), .int .i64 deep] w fun e w' => e = upF 20 0 ∧ Mach B w' m { M with fu := M.fu + 1, es := M.es + 1 } sk.reverse lo ar ∧ Below B w w' := by
  have hlt := h.lt
  have hbm := h.bm
  have N1 := fun w => tneed_yes 21 w
  have c2 := h.cell 2 _ rfl
  have c10 := h.cell 10 _ rfl
  have hbs := hb.size
  go_enter Tryz.func72, Tryz.ntmps72
  go_wp2_with fail
  go_big_quiet (first | (go_at_call 24; with_reducible exact Calls.quiet_of_same (N1 _)))
  have hb1 : Below w.heap.size w (w.drewN nq) := below_drewN' (Below.refl _ _) nq
  have h1 := h.below hb1
  have hB1 : Below B w0 (w.drewN nq) := hb.trans (hb1.mono (by omega))
  generalize w.drewN nq = w1 at *
  clear c2 c10
  have c2 := h1.cell 2 _ rfl
  have f2 := h1.froz 2
  have h2 := h1.put (M' := { M with fu := M.fu + 1 }) 2 (.int .i64 (M.fu + 1)) rfl rfl rfl rfl
  have hB2 : Below B w0 (w1.setCell ⟨m, 2, none⟩ (.int .i64 (M.fu + 1))) := hB1.setCell (p := ⟨m, 2, none⟩) hbm _
  have hw2 : Below B w (w1.setCell ⟨m, 2, none⟩ (.int .i64 (M.fu + 1))) := (hb1.mono (by omega)).setCell (p := ⟨m, 2, none⟩) hbm _
  go_upto_region 2 with fail
  clear c2 f2
  generalize w1.setCell ⟨m, 2, none⟩ (.int .i64 (M.fu + 1)) = w2 at *
  have c15 := h2.cell 15 _ rfl
  have f15 := h2.froz 15
  have h3 := h2.put (M' := { M with fu := M.fu + 1, es := M.es + 1 }) 15 (.int .i64 (M.es + 1)) rfl rfl rfl rfl
  have hB3 : Below B w0 (w2.setCell ⟨m, 15, none⟩ (.int .i64 (M.es + 1))) := hB2.setCell (p := ⟨m, 15, none⟩) hbm _
  have hw3 : Below B w (w2.setCell ⟨m, 15, none⟩ (.int .i64 (M.es + 1))) := hw2.setCell (p := ⟨m, 15, none⟩) hbm _
  go_upto_region 3 with fail
  clear c15 f15
  generalize w2.setCell ⟨m, 15, none⟩ (.int .i64 (M.es + 1)) = w3 at *
  have hJ3 : JobR w3 M.j cs fs args := hJ.below (hB ▸ hB3)
  have hfl2 : fn < fs.length := (List.getElem?_eq_some_iff.1 hf).1
  have hpl : pc < f.code.length := (List.getElem?_eq_some_iff.1 hi).1
  obtain ⟨fb, off, ca, cc, ea, _, _, _, k3, hrc, _⟩ := hJ3.fun_at hfl2
  have efn : fs[fn] = f := (List.getElem?_eq_some_iff.1 hf).2
  rw [efn] at k3 hrc
  obtain ⟨cb, co, rfl, ki, kn⟩ := ins_cells hrc hi
  have c7 := h3.cell 7 _ rfl
  have c0 := h3.cell 0 _ rfl
  have c1 := h3.cell 1 _ rfl
  simp only [ea, hfn, hpc, hJ3.nf] at c7 c0 c1
  have hba := alloc_below w3 (.cells #[.int .i64 0, .int .i64 0] 55)
  have c7' := keep_cell c7 hba
  have c0' := keep_cell c0 hba
  have c1' := keep_cell c1 hba
  have k3' := keep_cell k3 hba
  have ki' := keep_cell ki hba
  have kn' := keep_cell kn hba
  have hfl3 : (fn : Int) < (fs.length : Int) := by omega
  have hpl3 : (pc : Int) < (f.code.length : Int) := by omega
  have H3 := hide h3
  have HW3 := hide hw3
  have HCP := hide CP
  clear h h1 h2 h3 hw2 hw3 hJ3 hrc CP hB1 hB2 hB3 hJ hb hb1 hf hi efn
  go_big_region
  have hb4 : Below w3.heap.size w3 (w3.alloc (.cells #[.int .i64 op, .int .i64 n] 55)).drew := (alloc_below w3 _).drew
  have h4 := H3.out.below hb4
  have hw4 : Below B w (w3.alloc (.cells #[.int .i64 op, .int .i64 n] 55)).drew := HW3.out.trans (hb4.mono (by have := H3.out.lt; omega))
  have C := HCP.out _ h4
  have g14 : (op == 14) = false := by rw [beq_eq_false_iff_ne]; omega
  have g15 : (op == 15) = false := by rw [beq_eq_false_iff_ne]; omega
  have g16 : (op == 16) = false := by rw [beq_eq_false_iff_ne]; omega
  have g17 : (op == 17) = false := by rw [beq_eq_false_iff_ne]; omega
  have g18 : (op == 18) = false := by rw [beq_eq_false_iff_ne]; omega
  have g19 : (op == 19) = false := by rw [beq_eq_false_iff_ne]; omega
  clear c7 c0 c1 k3 ki kn c7' c0' c1' k3' ki' kn' H3 HW3 HCP h4 hb4 hba
  unfold upF failV at C
  go_wp2_with (go_at_call 89; go_must (with_reducible refine C.mono ?_; (rintro e w5 ⟨rfl, h5, hb5⟩)))
  exact ⟨rfl, rfl, h5, hw4.trans hb5⟩
set_option linter.unusedVariables false in
set_option linter.unusedSimpArgs false in
set_option maxRecDepth 100000 in
set_option maxHeartbeats 2000000 in
theorem step_plain_lo {B : Bd} {w w0 : World} {m : Nat} {M : Mc} {sk sk' lo lo' ar : List Int} {cs : List Value} {fs : List Fun} {args : List Int} {deep : Int} (h : Mach B w m M sk.reverse lo ar) (hJ : JobR w0 M.j cs fs args) (hB : B = w0.heap.size) (hb : Below B w0 w) (fn pc : Nat) (f : Fun) (op n : Int)
    (hfn : M.fn = (fn : Int)) (hpc : M.pc = (pc : Int)) (hf : fs[fn]? = some f) (hi : f.code[pc]? = some (op, n)) (hfu : M.fu < M.j.fuel) (hfl : -1000000 ≤ M.fu ∧ M.fu ≤ 1000000) (hes : -1000000 ≤ M.es ∧ M.es ≤ 1000000) (hpcl : pc ≤ 1000000) 
    (hop : ¬ (14 ≤ op ∧ op ≤ 19))
    (CP : ∀ W, Mach B W m { M with fu := M.fu + 1, es := M.es + 1 } sk.reverse lo ar → Calls Tryz.prog 89 #[.pointer (some ⟨m, 0, none⟩), .agg #[.int .i64 op, .int .i64 n]] W fun e w' => e = .returned (.tuple #[]) ∧ ∃ sv, Mach B w' m { M with fu := M.fu + 1, es := M.es + 1, sv := sv } sk'.reverse lo' ar ∧ Below B W w') :
    Calls Tryz.prog 72 #[.pointer (some ⟨m, 0, none⟩), .int .i64 deep] w fun e w' => e = .returned (.tuple #[]) ∧ ∃ sv, Mach B w' m { M with fu := M.fu + 1, es := M.es + 1, sv := sv, pc := (pc : Int) + 1 } sk'.reverse lo' ar ∧ Below B w w' := by
  have hlt := h.lt
  have hbm := h.bm
  have N1 := fun w => tneed_yes 21 w
  have c2 := h.cell 2 _ rfl
  have c10 := h.cell 10 _ rfl
  have hbs := hb.size
  go_enter Tryz.func72, Tryz.ntmps72
  go_wp2_with fail
  go_big_quiet (first | (go_at_call 24; with_reducible exact Calls.quiet_of_same (N1 _)))
  have hb1 : Below w.heap.size w (w.drewN nq) := below_drewN' (Below.refl _ _) nq
  have h1 := h.below hb1
  have hB1 : Below B w0 (w.drewN nq) := hb.trans (hb1.mono (by omega))
  generalize w.drewN nq = w1 at *
  clear c2 c10
  have c2 := h1.cell 2 _ rfl
  have f2 := h1.froz 2
  have h2 := h1.put (M' := { M with fu := M.fu + 1 }) 2 (.int .i64 (M.fu + 1)) rfl rfl rfl rfl
  have hB2 : Below B w0 (w1.setCell ⟨m, 2, none⟩ (.int .i64 (M.fu + 1))) := hB1.setCell (p := ⟨m, 2, none⟩) hbm _
  have hw2 : Below B w (w1.setCell ⟨m, 2, none⟩ (.int .i64 (M.fu + 1))) := (hb1.mono (by omega)).setCell (p := ⟨m, 2, none⟩) hbm _
  go_upto_region 2 with fail
  clear c2 f2
  generalize w1.setCell ⟨m, 2, none⟩ (.int .i64 (M.fu + 1)) = w2 at *
  have c15 := h2.cell 15 _ rfl
  have f15 := h2.froz 15
  have h3 := h2.put (M' := { M with fu := M.fu + 1, es := M.es + 1 }) 15 (.int .i64 (M.es + 1)) rfl rfl rfl rfl
  have hB3 : Below B w0 (w2.setCell ⟨m, 15, none⟩ (.int .i64 (M.es + 1))) := hB2.setCell (p := ⟨m, 15, none⟩) hbm _
  have hw3 : Below B w (w2.setCell ⟨m, 15, none⟩ (.int .i64 (M.es + 1))) := hw2.setCell (p := ⟨m, 15, none⟩) hbm _
  go_upto_region 3 with fail
  clear c15 f15
  generalize w2.setCell ⟨m, 15, none⟩ (.int .i64 (M.es + 1)) = w3 at *
  have hJ3 : JobR w3 M.j cs fs args := hJ.below (hB ▸ hB3)
  have hfl2 : fn < fs.length := (List.getElem?_eq_some_iff.1 hf).1
  have hpl : pc < f.code.length := (List.getElem?_eq_some_iff.1 hi).1
  obtain ⟨fb, off, ca, cc, ea, _, _, _, k3, hrc, _⟩ := hJ3.fun_at hfl2
  have efn : fs[fn] = f := (List.getElem?_eq_some_iff.1 hf).2
  rw [efn] at k3 hrc
  obtain ⟨cb, co, rfl, ki, kn⟩ := ins_cells hrc hi
  have c7 := h3.cell 7 _ rfl
  have c0 := h3.cell 0 _ rfl
  have c1 := h3.cell 1 _ rfl
  simp only [ea, hfn, hpc, hJ3.nf] at c7 c0 c1
  have hba := alloc_below w3 (.cells #[.int .i64 0, .int .i64 0] 55)
  have c7' := keep_cell c7 hba
  have c0' := keep_cell c0 hba
  have c1' := keep_cell c1 hba
  have k3' := keep_cell k3 hba
  have ki' := keep_cell ki hba
  have kn' := keep_cell kn hba
  have hfl3 : (fn : Int) < (fs.length : Int) := by omega
  have hpl3 : (pc : Int) < (f.code.length : Int) := by omega
  have H3 := hide h3
  have HW3 := hide hw3
  have HCP := hide CP
  clear h h1 h2 h3 hw2 hw3 hJ3 hrc CP hB1 hB2 hB3 hJ hb hb1 hf hi efn
  go_big_region
  have hb4 : Below w3.heap.size w3 (w3.alloc (.cells #[.int .i64 op, .int .i64 n] 55)).drew := (alloc_below w3 _).drew
  have h4 := H3.out.below hb4
  have hw4 : Below B w (w3.alloc (.cells #[.int .i64 op, .int .i64 n] 55)).drew := HW3.out.trans (hb4.mono (by have := H3.out.lt; omega))
  have C := HCP.out _ h4
  have g14 : (op == 14) = false := by rw [beq_eq_false_iff_ne]; omega
  have g15 : (op == 15) = false := by rw [beq_eq_false_iff_ne]; omega
  have g16 : (op == 16) = false := by rw [beq_eq_false_iff_ne]; omega
  have g17 : (op == 17) = false := by rw [beq_eq_false_iff_ne]; omega
  have g18 : (op == 18) = false := by rw [beq_eq_false_iff_ne]; omega
  have g19 : (op == 19) = false := by rw [beq_eq_false_iff_ne]; omega
  clear c7 c0 c1 k3 ki kn c7' c0' c1' k3' ki' kn' H3 HW3 HCP h4 hb4 hba
  go_wp2_with (go_at_call 89; go_must (with_reducible refine C.mono ?_; (rintro e w5 ⟨rfl, sv5, h5, hb5⟩); refine Hid.out ?_))
  refine Lib.hid ?_
  have c1 := h5.cell 1 _ rfl
  simp only [hpc] at c1
  have f1 := h5.froz 1
  have h6 := h5.put (M' := { M with fu := M.fu + 1, es := M.es + 1, sv := sv5, pc := (pc : Int) + 1 }) 1 (.int .i64 ((pc : Int) + 1)) rfl rfl rfl rfl
  have HB6 := hide (show Below B w (w5.setCell ⟨m, 1, none⟩ (.int .i64 ((pc : Int) + 1))) from (hw4.trans hb5).setCell (p := ⟨m, 1, none⟩) hbm _)
  have H6 := hide h6
  clear h5 h6 C
  go_wp2_with fail
  go_end0
  exact ⟨rfl, sv5, H6.out, HB6.out⟩
set_option linter.unusedVariables false in
set_option linter.unusedSimpArgs false in
set_option maxRecDepth 100000 in
set_option maxHeartbeats 2000000 in
theorem step_fuel {B : Bd} {w : World} {m : Nat} {M : Mc} {sk lo ar : List Int} {deep : Int} (h : Mach B w m M sk.reverse lo ar)
    (hnf : ¬ M.fu < M.j.fuel) :
    Calls Tryz.prog 72 #[.pointer (some ⟨m, 0, none⟩), .int .i64 deep] w fun e w' => e = upF 21 0 ∧ Mach B w' m M sk.reverse lo ar ∧ Below B w w' := by
  have hlt := h.lt
  have hbm := h.bm
  have N1 := fun w => tneed_no 21 w
  unfold upF failV at N1
  have c2 := h.cell 2 _ rfl
  have c10 := h.cell 10 _ rfl
  have hd : decide (M.fu < M.j.fuel) = false := by simpa using hnf
  have c2d : w.drew.cell? ⟨m, 2, none⟩ = some (.int .i64 M.fu) := c2
  have c10d : w.drew.cell? ⟨m, 10, none⟩ = some (.int .i64 M.j.fuel) := c10
  have HF := hide (show Mach B w.drew m M sk.reverse lo ar ∧ Below B w w.drew from ⟨h.below ((Below.refl _ _).drew), (Below.refl _ _).drew⟩)
  clear hnf
  go_enter Tryz.func72, Tryz.ntmps72
  go_wp2_with fail
  refine wp_region_held_drew (S := fun _ => True) (by kernel_rfl) trivial (fun _ => ?_)
  refine takeD (i := 0) (d := some 5) (v := ?_) rfl rfl (by kernel_rfl) (by kernel_rfl) (by kernel_rfl) (fun _ _ _ h => h) (Or.inl ⟨by rfl, ?_⟩) trivial ?_
  rotate_left
  · intro w hSw
    go_simp
    try (with_reducible rfl)
  try simp only [Act.put, List.setIfInBounds_toArray, List.set_cons_zero, List.set_cons_succ]
  refine takeD (i := 1) (d := some 6) (v := ?_) rfl rfl (by kernel_rfl) (by kernel_rfl) (by kernel_rfl) (fun _ _ _ h => h) (Or.inl ⟨by rfl, ?_⟩) trivial ?_
  rotate_left
  · intro w hSw
    go_simp
    try (with_reducible rfl)
  try simp only [Act.put, List.setIfInBounds_toArray, List.set_cons_zero, List.set_cons_succ]
  refine takeD (i := 2) (d := some 7) (v := ?_) rfl rfl (by kernel_rfl) (by kernel_rfl) (by kernel_rfl) (fun _ _ _ h => h) (Or.inl ⟨by rfl, ?_⟩) trivial ?_
  rotate_left
  · intro w hSw
    go_simp
    try (with_reducible rfl)
  try simp only [Act.put, List.setIfInBounds_toArray, List.set_cons_zero, List.set_cons_succ]
  refine takeD (i := 3) (d := some 8) (v := ?_) rfl rfl (by kernel_rfl) (by kernel_rfl) (by kernel_rfl) (fun _ _ _ h => h) (Or.inl ⟨by rfl, ?_⟩) trivial ?_
  rotate_left
  · intro w hSw
    go_simp
    try (with_reducible rfl)
  try simp only [Act.put, List.setIfInBounds_toArray, List.set_cons_zero, List.set_cons_succ]
  refine takeD (i := 4) (d := some 9) (v := ?_) rfl rfl (by kernel_rfl) (by kernel_rfl) (by kernel_rfl) (fun _ _ _ h => h) (Or.inl ⟨by rfl, ?_⟩) trivial ?_
  rotate_left
  · intro w hSw
    go_simp
    try (with_reducible rfl)
  try simp only [Act.put, List.setIfInBounds_toArray, List.set_cons_zero, List.set_cons_succ]
  refine takeD (i := 6) (d := some 11) (v := ?_) rfl rfl (by kernel_rfl) (by kernel_rfl) (by kernel_rfl) (fun _ _ _ h => h) (Or.inl ⟨by rfl, ?_⟩) trivial ?_
  rotate_left
  · intro w hSw
    go_simp
    try (with_reducible rfl)
  try simp only [Act.put, List.setIfInBounds_toArray, List.set_cons_zero, List.set_cons_succ]
  refine takeD (i := 7) (d := some 12) (v := ?_) rfl rfl (by kernel_rfl) (by kernel_rfl) (by kernel_rfl) (fun _ _ _ h => h) (Or.inl ⟨by rfl, ?_⟩) trivial ?_
  rotate_left
  · intro w hSw
    go_simp
    try (with_reducible rfl)
  try simp only [Act.put, List.setIfInBounds_toArray, List.set_cons_zero, List.set_cons_succ]
  refine takeD (i := 8) (d := some 13) (v := ?_) rfl rfl (by kernel_rfl) (by kernel_rfl) (by kernel_rfl) (fun _ _ _ h => h) (Or.inl ⟨by rfl, ?_⟩) trivial ?_
  rotate_left
  · intro w hSw
    go_simp
    try (with_reducible rfl)
  try simp only [Act.put, List.setIfInBounds_toArray, List.set_cons_zero, List.set_cons_succ]
  refine takeD (i := 9) (d := some 14) (v := ?_) rfl rfl (by kernel_rfl) (by kernel_rfl) (by kernel_rfl) (fun _ _ _ h => h) (Or.inl ⟨by rfl, ?_⟩) trivial ?_
  rotate_left
  · intro w hSw
    go_simp
    try (with_reducible rfl)
  try simp only [Act.put, List.setIfInBounds_toArray, List.set_cons_zero, List.set_cons_succ]
  refine wpAnyH_ready (rs := [5, 10]) (by kernel_rfl) (by simp) ?_
  refine AllReadyH.cons rfl (fun K hK => ?_) (AllReadyH.cons rfl (fun K hK => ?_) AllReadyH.nil)
  · go_simp
    go_wp2_with fail
    refine hK.out _ _ trivial (fun _ => ?_)
    clear hK K
    try simp only [Act.put, List.setIfInBounds_toArray, List.set_cons_zero, List.set_cons_succ]
    refine wpAnyH_ready (rs := [10]) (by kernel_rfl) (by simp) ?_
    refine AllReadyH.cons rfl (fun K hK => ?_) AllReadyH.nil
    go_simp
    go_wp2_with fail
    refine hK.out _ _ trivial (fun _ => ?_)
    clear hK K
    try simp only [Act.put, List.setIfInBounds_toArray, List.set_cons_zero, List.set_cons_succ]
    refine takeD (i := 11) (d := some 16) (v := ?_) rfl rfl (by kernel_rfl) (by kernel_rfl) (by kernel_rfl) (fun _ _ _ h => h) (Or.inl ⟨by rfl, ?_⟩) trivial ?_
    rotate_left
    · intro w hSw
      go_simp
      try (with_reducible rfl)
    try simp only [Act.put, List.setIfInBounds_toArray, List.set_cons_zero, List.set_cons_succ]
    refine wpAnyH_ready (rs := [12]) (by kernel_rfl) (by simp) ?_
    refine AllReadyH.cons rfl (fun K hK => ?_) AllReadyH.nil
    go_simp
    go_at_call 24
    with_reducible refine (N1 _).mono ?_
    (rintro e w1 ⟨rfl, hw1⟩)
    subst hw1
    exact ⟨rfl, rfl, HF.out.1, HF.out.2⟩
  · go_simp
    go_wp2_with fail
    refine hK.out _ _ trivial (fun _ => ?_)
    clear hK K
    try simp only [Act.put, List.setIfInBounds_toArray, List.set_cons_zero, List.set_cons_succ]
    refine wpAnyH_ready (rs := [5]) (by kernel_rfl) (by simp) ?_
    refine AllReadyH.cons rfl (fun K hK => ?_) AllReadyH.nil
    go_simp
    go_wp2_with fail
    refine hK.out _ _ trivial (fun _ => ?_)
    clear hK K
    try simp only [Act.put, List.setIfInBounds_toArray, List.set_cons_zero, List.set_cons_succ]
    refine takeD (i := 11) (d := some 16) (v := ?_) rfl rfl (by kernel_rfl) (by kernel_rfl) (by kernel_rfl) (fun _ _ _ h => h) (Or.inl ⟨by rfl, ?_⟩) trivial ?_
    rotate_left
    · intro w hSw
      go_simp
      try (with_reducible rfl)
    try simp only [Act.put, List.setIfInBounds_toArray, List.set_cons_zero, List.set_cons_succ]
    refine wpAnyH_ready (rs := [12]) (by kernel_rfl) (by simp) ?_
    refine AllReadyH.cons rfl (fun K hK => ?_) AllReadyH.nil
    go_simp
    go_at_call 24
    with_reducible refine (N1 _).mono ?_
    (rintro e w1 ⟨rfl, hw1⟩)
    subst hw1
    exact ⟨rfl, rfl, HF.out.1, HF.out.2⟩
end Go.Proofs.YtnkfdpnommjlcaaGreatDoor
/- step: awaityes,awaitno. -/

namespace Go.Proofs.YtnkfdpnommjlcaaGreatDoor
open Go.RowKit Go.ChangeShapes Go.WideShapes Go.ChangeAt Go.Deep

set_option linter.unusedVariables false in
set_option linter.unusedSimpArgs false in
set_option maxRecDepth 100000 in
set_option maxHeartbeats 2000000 in
theorem step_await_yes {B : Bd} {w w0 : World} {m : Nat} {M : Mc} {sk lo ar : List Int} {x : Int} {cs : List Value} {fs : List Fun} {args : List Int} {deep : Int} (h : Mach B w m M (x :: sk).reverse lo ar) (hJ : JobR w0 M.j cs fs args) (hB : B = w0.heap.size) (hb : Below B w0 w) (fn pc : Nat) (f : Fun) (n : Int)
    (hfn : M.fn = (fn : Int)) (hpc : M.pc = (pc : Int)) (hf : fs[fn]? = some f) (hi : f.code[pc]? = some (17, n)) (hfu : M.fu < M.j.fuel) (hfl : -1000000 ≤ M.fu ∧ M.fu ≤ 1000000) (hes : -1000000 ≤ M.es ∧ M.es ≤ 1000000) (hpcl : pc ≤ 1000000) 
    (hsk : sk.length ≤ 10000) (hkd : 0 ≤ M.kd ∧ M.kd ≤ 16) (hh : hasB M.kd x = true) :
    Calls Tryz.prog 72 #[.pointer (some ⟨m, 0, none⟩), .int .i64 deep] w fun e w' => e = .returned (.tuple #[]) ∧ Mach B w' m { M with fu := M.fu + 1, es := M.es + 1, wt := true, ek := 2, ei := x } (x :: sk).reverse lo ar ∧ Below B w w' := by
  have hlt := h.lt
  have hbm := h.bm
  have N1 := fun w => tneed_yes 21 w
  have c2 := h.cell 2 _ rfl
  have c10 := h.cell 10 _ rfl
  have hbs := hb.size
  go_enter Tryz.func72, Tryz.ntmps72
  go_wp2_with fail
  go_big_quiet (first | (go_at_call 24; with_reducible exact Calls.quiet_of_same (N1 _)))
  have hb1 : Below w.heap.size w (w.drewN nq) := below_drewN' (Below.refl _ _) nq
  have h1 := h.below hb1
  have hB1 : Below B w0 (w.drewN nq) := hb.trans (hb1.mono (by omega))
  generalize w.drewN nq = w1 at *
  clear c2 c10
  have c2 := h1.cell 2 _ rfl
  have f2 := h1.froz 2
  have h2 := h1.put (M' := { M with fu := M.fu + 1 }) 2 (.int .i64 (M.fu + 1)) rfl rfl rfl rfl
  have hB2 : Below B w0 (w1.setCell ⟨m, 2, none⟩ (.int .i64 (M.fu + 1))) := hB1.setCell (p := ⟨m, 2, none⟩) hbm _
  have hw2 : Below B w (w1.setCell ⟨m, 2, none⟩ (.int .i64 (M.fu + 1))) := (hb1.mono (by omega)).setCell (p := ⟨m, 2, none⟩) hbm _
  go_upto_region 2 with fail
  clear c2 f2
  generalize w1.setCell ⟨m, 2, none⟩ (.int .i64 (M.fu + 1)) = w2 at *
  have c15 := h2.cell 15 _ rfl
  have f15 := h2.froz 15
  have h3 := h2.put (M' := { M with fu := M.fu + 1, es := M.es + 1 }) 15 (.int .i64 (M.es + 1)) rfl rfl rfl rfl
  have hB3 : Below B w0 (w2.setCell ⟨m, 15, none⟩ (.int .i64 (M.es + 1))) := hB2.setCell (p := ⟨m, 15, none⟩) hbm _
  have hw3 : Below B w (w2.setCell ⟨m, 15, none⟩ (.int .i64 (M.es + 1))) := hw2.setCell (p := ⟨m, 15, none⟩) hbm _
  go_upto_region 3 with fail
  clear c15 f15
  generalize w2.setCell ⟨m, 15, none⟩ (.int .i64 (M.es + 1)) = w3 at *
  have hJ3 : JobR w3 M.j cs fs args := hJ.below (hB ▸ hB3)
  have hfl2 : fn < fs.length := (List.getElem?_eq_some_iff.1 hf).1
  have hpl : pc < f.code.length := (List.getElem?_eq_some_iff.1 hi).1
  obtain ⟨fb, off, ca, cc, ea, _, _, _, k3, hrc, _⟩ := hJ3.fun_at hfl2
  have efn : fs[fn] = f := (List.getElem?_eq_some_iff.1 hf).2
  rw [efn] at k3 hrc
  obtain ⟨cb, co, rfl, ki, kn⟩ := ins_cells hrc hi
  have c7 := h3.cell 7 _ rfl
  have c0 := h3.cell 0 _ rfl
  have c1 := h3.cell 1 _ rfl
  simp only [ea, hfn, hpc, hJ3.nf] at c7 c0 c1
  have hba := alloc_below w3 (.cells #[.int .i64 0, .int .i64 0] 55)
  have c7' := keep_cell c7 hba
  have c0' := keep_cell c0 hba
  have c1' := keep_cell c1 hba
  have k3' := keep_cell k3 hba
  have ki' := keep_cell ki hba
  have kn' := keep_cell kn hba
  have hfl3 : (fn : Int) < (fs.length : Int) := by omega
  have hpl3 : (pc : Int) < (f.code.length : Int) := by omega
  have H3 := hide h3
  have HW3 := hide hw3
  clear h h1 h2 h3 hw2 hw3 hJ3 hrc hB1 hB2 hB3 hJ hb hb1 hf hi efn
  go_big_region
  have hb4 : Below w3.heap.size w3 (w3.alloc (.cells #[.int .i64 17, .int .i64 n] 55)).drew := (alloc_below w3 _).drew
  have h4 := H3.out.below hb4
  have hw4 : Below B w (w3.alloc (.cells #[.int .i64 17, .int .i64 n] 55)).drew := HW3.out.trans (hb4.mono (by have := H3.out.lt; omega))
  have bx0 : (w3.alloc (.cells #[.int .i64 17, .int .i64 n] 55)).drew.cell? ⟨w3.heap.size, 0, none⟩ = some (.int .i64 17) := keep_cell (cell_row (cs := [.int .i64 17, .int .i64 n]) (i := 0) (heap_alloc_new w3 _) rfl) ((Below.refl _ _).drew)
  have bx1 : (w3.alloc (.cells #[.int .i64 17, .int .i64 n] 55)).drew.cell? ⟨w3.heap.size, 1, none⟩ = some (.int .i64 n) := keep_cell (cell_row (cs := [.int .i64 17, .int .i64 n]) (i := 1) (heap_alloc_new w3 _) rfl) ((Below.refl _ _).drew)
  clear c7 c0 c1 k3 ki kn c7' c0' c1' k3' ki' kn' H3 HW3 hba hfn
  generalize (w3.alloc (.cells #[.int .i64 17, .int .i64 n] 55)).drew = w4 at *
  have hD : ∀ n, Mach B (w4.drewN n) m { M with fu := M.fu + 1, es := M.es + 1 } (x :: sk).reverse lo ar := fun n => h4.below (below_drewN' (Below.refl _ _) n)
  have CL := fun n => last_any (st := sk.reverse) (x := x) (by simpa using hD n) (by simp; omega)
  have CH := fun w => thas_any M.kd x (by omega) w
  rw [hh] at CH
  have CN := fun w => tneed_yes 24 w
  have c5 := h4.cell 5 _ rfl
  have HD := hide hD
  have HW4 := hide hw4
  clear h4 hb4 hD hw4
  go_wp2_with fail
  go_big_quiet (first
    | (go_at_call 86; with_reducible exact Calls.quiet_of_same (CL _))
    | (go_at_call 25; with_reducible exact Calls.quiet_of_same (CH _))
    | (go_at_call 24; with_reducible exact Calls.quiet_of_same (CN _)))
  have CW := wait_any (HD.out nq) hsk
  clear c5 CL CH CN
  go_wp2_with (go_at_call 71; go_must (with_reducible refine CW.mono ?_; (rintro e w6 ⟨rfl, h6, hb6⟩)))
  go_end0
  exact ⟨rfl, h6, (below_drewN' HW4.out nq).trans hb6⟩
set_option linter.unusedVariables false in
set_option linter.unusedSimpArgs false in
set_option maxRecDepth 100000 in
set_option maxHeartbeats 2000000 in
theorem step_await_no {B : Bd} {w w0 : World} {m : Nat} {M : Mc} {sk lo ar : List Int} {x : Int} {cs : List Value} {fs : List Fun} {args : List Int} {deep : Int} (h : Mach B w m M (x :: sk).reverse lo ar) (hJ : JobR w0 M.j cs fs args) (hB : B = w0.heap.size) (hb : Below B w0 w) (fn pc : Nat) (f : Fun) (n : Int)
    (hfn : M.fn = (fn : Int)) (hpc : M.pc = (pc : Int)) (hf : fs[fn]? = some f) (hi : f.code[pc]? = some (17, n)) (hfu : M.fu < M.j.fuel) (hfl : -1000000 ≤ M.fu ∧ M.fu ≤ 1000000) (hes : -1000000 ≤ M.es ∧ M.es ≤ 1000000) (hpcl : pc ≤ 1000000) 
    (hsk : sk.length ≤ 10000) (hkd : 0 ≤ M.kd ∧ M.kd ≤ 16) (hh : hasB M.kd x = false) :
    Calls Tryz.prog 72 #[.pointer (some ⟨m, 0, none⟩), .int .i64 deep] w fun e w' => e = upF 24 0 ∧ Mach B w' m { M with fu := M.fu + 1, es := M.es + 1 } (x :: sk).reverse lo ar ∧ Below B w w' := by
  have hlt := h.lt
  have hbm := h.bm
  have N1 := fun w => tneed_yes 21 w
  have c2 := h.cell 2 _ rfl
  have c10 := h.cell 10 _ rfl
  have hbs := hb.size
  go_enter Tryz.func72, Tryz.ntmps72
  go_wp2_with fail
  go_big_quiet (first | (go_at_call 24; with_reducible exact Calls.quiet_of_same (N1 _)))
  have hb1 : Below w.heap.size w (w.drewN nq) := below_drewN' (Below.refl _ _) nq
  have h1 := h.below hb1
  have hB1 : Below B w0 (w.drewN nq) := hb.trans (hb1.mono (by omega))
  generalize w.drewN nq = w1 at *
  clear c2 c10
  have c2 := h1.cell 2 _ rfl
  have f2 := h1.froz 2
  have h2 := h1.put (M' := { M with fu := M.fu + 1 }) 2 (.int .i64 (M.fu + 1)) rfl rfl rfl rfl
  have hB2 : Below B w0 (w1.setCell ⟨m, 2, none⟩ (.int .i64 (M.fu + 1))) := hB1.setCell (p := ⟨m, 2, none⟩) hbm _
  have hw2 : Below B w (w1.setCell ⟨m, 2, none⟩ (.int .i64 (M.fu + 1))) := (hb1.mono (by omega)).setCell (p := ⟨m, 2, none⟩) hbm _
  go_upto_region 2 with fail
  clear c2 f2
  generalize w1.setCell ⟨m, 2, none⟩ (.int .i64 (M.fu + 1)) = w2 at *
  have c15 := h2.cell 15 _ rfl
  have f15 := h2.froz 15
  have h3 := h2.put (M' := { M with fu := M.fu + 1, es := M.es + 1 }) 15 (.int .i64 (M.es + 1)) rfl rfl rfl rfl
  have hB3 : Below B w0 (w2.setCell ⟨m, 15, none⟩ (.int .i64 (M.es + 1))) := hB2.setCell (p := ⟨m, 15, none⟩) hbm _
  have hw3 : Below B w (w2.setCell ⟨m, 15, none⟩ (.int .i64 (M.es + 1))) := hw2.setCell (p := ⟨m, 15, none⟩) hbm _
  go_upto_region 3 with fail
  clear c15 f15
  generalize w2.setCell ⟨m, 15, none⟩ (.int .i64 (M.es + 1)) = w3 at *
  have hJ3 : JobR w3 M.j cs fs args := hJ.below (hB ▸ hB3)
  have hfl2 : fn < fs.length := (List.getElem?_eq_some_iff.1 hf).1
  have hpl : pc < f.code.length := (List.getElem?_eq_some_iff.1 hi).1
  obtain ⟨fb, off, ca, cc, ea, _, _, _, k3, hrc, _⟩ := hJ3.fun_at hfl2
  have efn : fs[fn] = f := (List.getElem?_eq_some_iff.1 hf).2
  rw [efn] at k3 hrc
  obtain ⟨cb, co, rfl, ki, kn⟩ := ins_cells hrc hi
  have c7 := h3.cell 7 _ rfl
  have c0 := h3.cell 0 _ rfl
  have c1 := h3.cell 1 _ rfl
  simp only [ea, hfn, hpc, hJ3.nf] at c7 c0 c1
  have hba := alloc_below w3 (.cells #[.int .i64 0, .int .i64 0] 55)
  have c7' := keep_cell c7 hba
  have c0' := keep_cell c0 hba
  have c1' := keep_cell c1 hba
  have k3' := keep_cell k3 hba
  have ki' := keep_cell ki hba
  have kn' := keep_cell kn hba
  have hfl3 : (fn : Int) < (fs.length : Int) := by omega
  have hpl3 : (pc : Int) < (f.code.length : Int) := by omega
  have H3 := hide h3
  have HW3 := hide hw3
  clear h h1 h2 h3 hw2 hw3 hJ3 hrc hB1 hB2 hB3 hJ hb hb1 hf hi efn
  go_big_region
  have hb4 : Below w3.heap.size w3 (w3.alloc (.cells #[.int .i64 17, .int .i64 n] 55)).drew := (alloc_below w3 _).drew
  have h4 := H3.out.below hb4
  have hw4 : Below B w (w3.alloc (.cells #[.int .i64 17, .int .i64 n] 55)).drew := HW3.out.trans (hb4.mono (by have := H3.out.lt; omega))
  have bx0 : (w3.alloc (.cells #[.int .i64 17, .int .i64 n] 55)).drew.cell? ⟨w3.heap.size, 0, none⟩ = some (.int .i64 17) := keep_cell (cell_row (cs := [.int .i64 17, .int .i64 n]) (i := 0) (heap_alloc_new w3 _) rfl) ((Below.refl _ _).drew)
  have bx1 : (w3.alloc (.cells #[.int .i64 17, .int .i64 n] 55)).drew.cell? ⟨w3.heap.size, 1, none⟩ = some (.int .i64 n) := keep_cell (cell_row (cs := [.int .i64 17, .int .i64 n]) (i := 1) (heap_alloc_new w3 _) rfl) ((Below.refl _ _).drew)
  clear c7 c0 c1 k3 ki kn c7' c0' c1' k3' ki' kn' H3 HW3 hba hfn
  generalize (w3.alloc (.cells #[.int .i64 17, .int .i64 n] 55)).drew = w4 at *
  have hd := h4.below (show Below w4.heap.size w4 w4.drew from (Below.refl _ _).drew)
  have CL := last_any (st := sk.reverse) (x := x) (by simpa using hd) (by simp; omega)
  have CH := fun w => thas_any M.kd x (by omega) w
  rw [hh] at CH
  have CN := fun w => tneed_no 24 w
  unfold upF failV at CN
  have c5 := hd.cell 5 _ rfl
  have HF := hide (show Mach B w4.drew m { M with fu := M.fu + 1, es := M.es + 1 } (x :: sk).reverse lo ar ∧ Below B w w4.drew from ⟨hd, hw4.drew⟩)
  clear h4 hb4 hd hw4
  go_wp2_with fail
  refine wp_region_held_drew (S := fun _ => True) (by kernel_rfl) trivial (fun _ => ?_)
  refine takeD (i := 0) (d := some 100) (v := ?_) rfl rfl (by kernel_rfl) (by kernel_rfl) (by kernel_rfl) (fun _ _ _ h => h) (Or.inl ⟨by rfl, ?_⟩) trivial ?_
  rotate_left
  · intro w hSw
    go_simp
    try (with_reducible rfl)
  try simp only [Act.put, List.setIfInBounds_toArray, List.set_cons_zero, List.set_cons_succ]
  refine takeD (i := 1) (d := some 101) (v := ?_) rfl rfl (by kernel_rfl) (by kernel_rfl) (by kernel_rfl) (fun _ _ _ h => h) (Or.inl ⟨by rfl, ?_⟩) trivial ?_
  rotate_left
  · intro w hSw
    go_simp
    try (with_reducible rfl)
  try simp only [Act.put, List.setIfInBounds_toArray, List.set_cons_zero, List.set_cons_succ]
  refine takeD (i := 2) (d := some 102) (v := ?_) rfl rfl (by kernel_rfl) (by kernel_rfl) (by kernel_rfl) (fun _ _ _ h => h) (Or.inl ⟨by rfl, ?_⟩) trivial ?_
  rotate_left
  · intro w hSw
    go_simp
    try (with_reducible rfl)
  try simp only [Act.put, List.setIfInBounds_toArray, List.set_cons_zero, List.set_cons_succ]
  refine takeD (i := 3) (d := some 103) (v := ?_) rfl rfl (by kernel_rfl) (by kernel_rfl) (by kernel_rfl) (fun _ _ _ h => h) (Or.inl ⟨by rfl, ?_⟩) trivial ?_
  rotate_left
  · intro w hSw
    go_simp
    try (with_reducible rfl)
  try simp only [Act.put, List.setIfInBounds_toArray, List.set_cons_zero, List.set_cons_succ]
  refine takeD (i := 4) (d := some 104) (v := ?_) rfl rfl (by kernel_rfl) (by kernel_rfl) (by kernel_rfl) (fun _ _ _ h => h) (Or.inl ⟨by rfl, ?_⟩) trivial ?_
  rotate_left
  · intro w hSw
    go_simp
    try (with_reducible rfl)
  try simp only [Act.put, List.setIfInBounds_toArray, List.set_cons_zero, List.set_cons_succ]
  refine takeD (i := 6) (d := some 106) (v := ?_) rfl rfl (by kernel_rfl) (by kernel_rfl) (by kernel_rfl) (fun _ _ _ h => h) (Or.inl ⟨by rfl, ?_⟩) trivial ?_
  rotate_left
  · intro w hSw
    go_simp
    try (with_reducible rfl)
  try simp only [Act.put, List.setIfInBounds_toArray, List.set_cons_zero, List.set_cons_succ]
  refine takeD (i := 7) (d := some 107) (v := ?_) rfl rfl (by kernel_rfl) (by kernel_rfl) (by kernel_rfl) (fun _ _ _ h => h) (Or.inl ⟨by rfl, ?_⟩) trivial ?_
  rotate_left
  · intro w hSw
    go_simp
    try (with_reducible rfl)
  try simp only [Act.put, List.setIfInBounds_toArray, List.set_cons_zero, List.set_cons_succ]
  refine takeD (i := 8) (d := some 108) (v := ?_) rfl rfl (by kernel_rfl) (by kernel_rfl) (by kernel_rfl) (fun _ _ _ h => h) (Or.inl ⟨by rfl, ?_⟩) trivial ?_
  rotate_left
  · intro w hSw
    go_simp
    try (with_reducible rfl)
  try simp only [Act.put, List.setIfInBounds_toArray, List.set_cons_zero, List.set_cons_succ]
  refine wpAnyH_ready (rs := [5, 9]) (by kernel_rfl) (by simp) ?_
  refine AllReadyH.cons rfl (fun K hK => ?_) (AllReadyH.cons rfl (fun K hK => ?_) AllReadyH.nil)
  · go_simp
    go_wp2_with fail
    refine hK.out _ _ trivial (fun _ => ?_)
    clear hK K
    try simp only [Act.put, List.setIfInBounds_toArray, List.set_cons_zero, List.set_cons_succ]
    refine wpAnyH_ready (rs := [9]) (by kernel_rfl) (by simp) ?_
    refine AllReadyH.cons rfl (fun K hK => ?_) AllReadyH.nil
    go_simp
    go_at_call 86
    with_reducible refine CL.mono ?_
    (rintro e w54 ⟨rfl, hw54⟩)
    subst hw54
    go_wp2_with fail
    refine hK.out _ _ trivial (fun _ => ?_)
    clear hK K
    try simp only [Act.put, List.setIfInBounds_toArray, List.set_cons_zero, List.set_cons_succ]
    refine wpAnyH_ready (rs := [10]) (by kernel_rfl) (by simp) ?_
    refine AllReadyH.cons rfl (fun K hK => ?_) AllReadyH.nil
    go_simp
    go_at_call 25
    with_reducible refine (CH _).mono ?_
    (rintro e w21 ⟨rfl, hw21⟩)
    subst hw21
    go_wp2_with fail
    refine hK.out _ _ trivial (fun _ => ?_)
    clear hK K
    try simp only [Act.put, List.setIfInBounds_toArray, List.set_cons_zero, List.set_cons_succ]
    refine wpAnyH_ready (rs := [11]) (by kernel_rfl) (by simp) ?_
    refine AllReadyH.cons rfl (fun K hK => ?_) AllReadyH.nil
    go_simp
    go_at_call 24
    with_reducible refine (CN _).mono ?_
    (rintro e w20 ⟨rfl, hw20⟩)
    subst hw20
    exact ⟨rfl, rfl, HF.out.1, HF.out.2⟩
  · skip
    go_simp
    go_at_call 86
    with_reducible refine CL.mono ?_
    (rintro e w54 ⟨rfl, hw54⟩)
    subst hw54
    go_wp2_with fail
    refine hK.out _ _ trivial (fun _ => ?_)
    clear hK K
    try simp only [Act.put, List.setIfInBounds_toArray, List.set_cons_zero, List.set_cons_succ]
    refine wpAnyH_ready (rs := [5]) (by kernel_rfl) (by simp) ?_
    refine AllReadyH.cons rfl (fun K hK => ?_) AllReadyH.nil
    go_simp
    go_wp2_with fail
    refine hK.out _ _ trivial (fun _ => ?_)
    clear hK K
    try simp only [Act.put, List.setIfInBounds_toArray, List.set_cons_zero, List.set_cons_succ]
    refine wpAnyH_ready (rs := [10]) (by kernel_rfl) (by simp) ?_
    refine AllReadyH.cons rfl (fun K hK => ?_) AllReadyH.nil
    go_simp
    go_at_call 25
    with_reducible refine (CH _).mono ?_
    (rintro e w21 ⟨rfl, hw21⟩)
    subst hw21
    go_wp2_with fail
    refine hK.out _ _ trivial (fun _ => ?_)
    clear hK K
    try simp only [Act.put, List.setIfInBounds_toArray, List.set_cons_zero, List.set_cons_succ]
    refine wpAnyH_ready (rs := [11]) (by kernel_rfl) (by simp) ?_
    refine AllReadyH.cons rfl (fun K hK => ?_) AllReadyH.nil
    go_simp
    go_at_call 24
    with_reducible refine (CN _).mono ?_
    (rintro e w20 ⟨rfl, hw20⟩)
    subst hw20
    exact ⟨rfl, rfl, HF.out.1, HF.out.2⟩
end Go.Proofs.YtnkfdpnommjlcaaGreatDoor
/- step and run, whatever they come to. -/

namespace Go.Proofs.YtnkfdpnommjlcaaGreatDoor
open Go.RowKit Go.ChangeShapes Go.WideShapes Go.ChangeAt Go.Deep

theorem step_M {B : Bd} {w w0 : World} {m : Nat} {j : JV} {s : PM} {q : PM × Option (Int × Int)} {cs : List Value} {fs : List Fun} {args : List Int} {deep : Int} (h : MachP B w m j s) (hJ : JobR w0 j cs fs args) (hB : B = w0.heap.size) (hb : Below B w0 w) (hs : stepM fs j.fuel deep s = some q) :
    Calls Tryz.prog 72 #[.pointer (some ⟨m, 0, none⟩), .int .i64 deep] w (UpPost B w m j q) := by
  obtain ⟨sv, lv, av, hM⟩ := h
  unfold stepM at hs
  by_cases hfu : (s.fu : Int) < j.fuel
  case neg =>
    rw [if_neg hfu] at hs
    simp only [Option.some.injEq] at hs
    subst hs
    refine (step_fuel (deep := deep) hM hfu).mono ?_
    rintro e w' ⟨rfl, h1, h2⟩
    exact ⟨rfl, ⟨sv, lv, av, h1⟩, h2⟩
  rw [if_pos hfu] at hs
  by_cases hsm : s.small
  case neg => rw [if_neg hsm] at hs; cases hs
  rw [if_pos hsm] at hs
  obtain ⟨h1, h2, h3, h4, h5, h6, h7⟩ := hsm
  cases hf : fs[s.fn]? with
  | none => rw [hf] at hs; simp at hs
  | some f =>
  rw [hf] at hs
  cases hi : f.code[s.pc]? with
  | none => simp [hi] at hs
  | some on =>
  obtain ⟨op, n⟩ := on
  simp only [hi] at hs
  have a1 : -1000000 ≤ (s.fu : Int) ∧ (s.fu : Int) ≤ 1000000 := by omega
  have a2 : -1000000 ≤ (s.es : Int) ∧ (s.es : Int) ≤ 1000000 := by omega
  have a3 : s.pc ≤ 1000000 := by omega
  unfold doM at hs
  simp only at hs
  by_cases o14 : op = 14
  · subst o14
    rw [if_pos rfl] at hs
    split at hs
    · rename_i hn
      simp only [Option.some.injEq] at hs
      subst hs
      obtain ⟨k, rfl⟩ : ∃ k : Nat, n = (k : Int) := ⟨n.toNat, by omega⟩
      refine (step_jump (deep := deep) hM hJ hB hb s.fn s.pc f k rfl rfl hf hi hfu a1 a2 a3 trivial).mono ?_
      rintro e w' ⟨rfl, g1, g2⟩
      exact ⟨rfl, ⟨sv, lv, av, by simpa [PM.mc] using g1⟩, g2⟩
    · cases hs
  rw [if_neg o14] at hs
  by_cases o15 : op = 15
  · subst o15
    rw [if_pos rfl] at hs
    cases hsk : s.sk with
    | nil => rw [hsk] at hs; cases hs
    | cons x r =>
    rw [hsk] at hs hM h4
    simp only at hs
    have C := step_zero (deep := deep) hM hJ hB hb s.fn s.pc f n rfl rfl hf hi hfu a1 a2 a3 (by simp at h4; omega)
    by_cases hx : x = 0
    · rw [if_pos hx] at hs
      split at hs
      · rename_i hn
        simp only [Option.some.injEq] at hs
        subst hs
        refine C.mono ?_
        rintro e w' ⟨rfl, sv', g1, g2⟩
        rw [if_pos hx] at g1
        refine ⟨rfl, ⟨sv', lv, av, ?_⟩, g2⟩
        have : ((n.toNat : Nat) : Int) = n := by omega
        simpa [PM.mc, this] using g1
      · cases hs
    · rw [if_neg hx] at hs
      simp only [Option.some.injEq] at hs
      subst hs
      refine C.mono ?_
      rintro e w' ⟨rfl, sv', g1, g2⟩
      rw [if_neg hx] at g1
      exact ⟨rfl, ⟨sv', lv, av, g1⟩, g2⟩
  rw [if_neg o15] at hs
  by_cases o16 : op = 16
  · subst o16
    rw [if_pos rfl] at hs
    by_cases hd : deep < 12
    · rw [if_pos hd] at hs
      by_cases hk : s.kd < 16
      · rw [if_pos hk] at hs
        split at hs
        · rename_i hn
          cases hg : fs[n.toNat]? with
          | none => rw [hg] at hs; cases hs
          | some g =>
          rw [hg] at hs
          simp only at hs
          split at hs
          · rename_i hgk
            simp only [Option.some.injEq] at hs
            subst hs
            obtain ⟨k, rfl⟩ : ∃ k : Nat, n = (k : Int) := ⟨n.toNat, by omega⟩
            simp only [Int.toNat_natCast] at hg
            refine (step_spawn (deep := deep) hM hJ hB hb s.fn s.pc f k rfl rfl hf hi hfu a1 a2 a3 g hg g.args.toNat (by omega) hgk.2 h4 hd ⟨h5, hk⟩).mono ?_
            rintro e w' ⟨rfl, sv', av', g1, g2⟩
            exact ⟨rfl, ⟨sv', lv, av', g1⟩, g2⟩
          · cases hs
        · cases hs
      · rw [if_neg hk] at hs
        simp only [Option.some.injEq] at hs
        subst hs
        refine (step_spawn_kids (deep := deep) hM hJ hB hb s.fn s.pc f n rfl rfl hf hi hfu a1 a2 a3 hd hk).mono ?_
        rintro e w' ⟨rfl, g1, g2⟩
        exact ⟨rfl, ⟨sv, lv, av, g1⟩, g2⟩
    · rw [if_neg hd] at hs
      simp only [Option.some.injEq] at hs
      subst hs
      refine (step_spawn_deep (deep := deep) hM hJ hB hb s.fn s.pc f n rfl rfl hf hi hfu a1 a2 a3 hd).mono ?_
      rintro e w' ⟨rfl, g1, g2⟩
      exact ⟨rfl, ⟨sv, lv, av, g1⟩, g2⟩
  rw [if_neg o16] at hs
  by_cases o17 : op = 17
  · subst o17
    rw [if_pos rfl] at hs
    cases hsk : s.sk with
    | nil => rw [hsk] at hs; cases hs
    | cons x r =>
    rw [hsk] at hs hM h4
    simp only at hs
    by_cases hh : hasB s.kd x = true
    · rw [if_pos hh] at hs
      simp only [Option.some.injEq] at hs
      subst hs
      refine (step_await_yes (deep := deep) hM hJ hB hb s.fn s.pc f n rfl rfl hf hi hfu a1 a2 a3 (by simp at h4; omega) ⟨h5, h6⟩ hh).mono ?_
      rintro e w' ⟨rfl, g1, g2⟩
      exact ⟨rfl, ⟨sv, lv, av, g1⟩, g2⟩
    · rw [if_neg hh] at hs
      simp only [Option.some.injEq] at hs
      subst hs
      refine (step_await_no (deep := deep) hM hJ hB hb s.fn s.pc f n rfl rfl hf hi hfu a1 a2 a3 (by simp at h4; omega) ⟨h5, h6⟩ (by show hasB s.kd x = false; simpa using hh)).mono ?_
      rintro e w' ⟨rfl, g1, g2⟩
      exact ⟨rfl, ⟨sv, lv, av, g1⟩, g2⟩
  rw [if_neg o17] at hs
  by_cases o18 : op = 18
  · subst o18
    rw [if_pos rfl] at hs
    cases hsk : s.sk with
    | nil => rw [hsk] at hs; cases hs
    | cons x r =>
    rw [hsk] at hs hM h4
    simp only [Option.some.injEq] at hs
    subst hs
    refine (step_ret (deep := deep) hM hJ hB hb s.fn s.pc f n rfl rfl hf hi hfu a1 a2 a3 (by simp at h4; omega)).mono ?_
    rintro e w' ⟨rfl, g1, g2⟩
    exact ⟨rfl, ⟨sv, lv, av, g1⟩, g2⟩
  rw [if_neg o18] at hs
  by_cases o19 : op = 19
  · subst o19
    rw [if_pos rfl] at hs
    cases hsk : s.sk with
    | nil => rw [hsk] at hs; cases hs
    | cons x r =>
    rw [hsk] at hs hM h4
    simp only [Option.some.injEq] at hs
    subst hs
    refine (step_fail (deep := deep) hM hJ hB hb s.fn s.pc f n rfl rfl hf hi hfu a1 a2 a3 (by simp at h4; omega)).mono ?_
    rintro e w' ⟨rfl, g1, g2⟩
    exact ⟨rfl, ⟨sv, lv, av, g1⟩, g2⟩
  rw [if_neg o19] at hs
  have hop : ¬ (14 ≤ op ∧ op ≤ 19) := by omega
  by_cases o5 : op = 5
  · subst o5
    rw [if_pos rfl] at hs
    split at hs
    · rename_i hn
      cases hl : s.lo[n.toNat]? with
      | none => rw [hl] at hs; cases hs
      | some v =>
      rw [hl] at hs
      simp only [Option.some.injEq] at hs
      subst hs
      obtain ⟨k, rfl⟩ : ∃ k : Nat, n = (k : Int) := ⟨n.toNat, by omega⟩
      refine (step_plain (deep := deep) hM hJ hB hb s.fn s.pc f 5 k rfl rfl hf hi hfu a1 a2 a3 hop (fun W hW => plain_load hW k v (by simpa using hl) h4)).mono ?_
      rintro e w' ⟨rfl, sv', g1, g2⟩
      exact ⟨rfl, ⟨sv', lv, av, g1⟩, g2⟩
    · cases hs
  rw [if_neg o5] at hs
  by_cases o6 : op = 6
  · subst o6
    rw [if_pos rfl] at hs
    split at hs
    · rename_i hn
      cases hsk : s.sk with
      | nil => rw [hsk] at hs; cases hs
      | cons x r =>
      rw [hsk] at hs hM h4
      simp only [Option.some.injEq] at hs
      subst hs
      obtain ⟨k, rfl⟩ : ∃ k : Nat, n = (k : Int) := ⟨n.toNat, by omega⟩
      simp only [Int.toNat_natCast] at hn ⊢
      refine (step_plain_lo (deep := deep) hM hJ hB hb s.fn s.pc f 6 k rfl rfl hf hi hfu a1 a2 a3 hop (fun W hW => plain_store hW k hn.2 (by simp at h4; omega))).mono ?_
      rintro e w' ⟨rfl, sv', g1, g2⟩
      exact ⟨rfl, ⟨sv', lv, av, g1⟩, g2⟩
    · cases hs
  rw [if_neg o6] at hs
  cases hp : plL op n s.sk with
  | none => rw [hp] at hs; cases hs
  | some qq =>
  rw [hp] at hs
  cases qq with
  | none =>
    simp only [Option.some.injEq] at hs
    subst hs
    refine (step_plain_no (deep := deep) hM hJ hB hb s.fn s.pc f op n rfl rfl hf hi hfu a1 a2 a3 hop (fun W hW => plain_no hW op n hp h4)).mono ?_
    rintro e w' ⟨rfl, g1, g2⟩
    exact ⟨rfl, ⟨sv, lv, av, g1⟩, g2⟩
  | some sk' =>
    simp only [Option.some.injEq] at hs
    subst hs
    refine (step_plain (deep := deep) hM hJ hB hb s.fn s.pc f op n rfl rfl hf hi hfu a1 a2 a3 hop (fun W hW => tplain_any hW op n hp h4)).mono ?_
    rintro e w' ⟨rfl, sv', g1, g2⟩
    exact ⟨rfl, ⟨sv', lv, av, g1⟩, g2⟩

/-- A task that waits tells so at once. -/
def begM (s : PM) : Option PM := if s.wt = true then (match s.sk with | x :: _ => some { s with ek := 2, ei := x } | [] => none) else some s
def runW (fs : List Fun) (jf deep steps : Int) (n : Nat) (s : PM) : Option (PM × Option (Int × Int)) := (begM s).bind (runM fs jf deep steps n)

set_option linter.unusedSimpArgs false in
set_option maxRecDepth 100000 in
set_option maxHeartbeats 2000000 in
theorem run_L {B : Bd} {w w0 : World} {m : Nat} {j : JV} {s : PM} {q : PM × Option (Int × Int)} {cs : List Value} {fs : List Fun} {args : List Int} {deep steps : Int} (h : MachP B w m j s) (hJ : JobR w0 j cs fs args) (hB : B = w0.heap.size) (hb : Below B w0 w) (n : Nat) (hwt : s.wt = false) (hs : runM fs j.fuel deep steps n s = some q) :
    Calls Tryz.prog 49 #[.pointer (some ⟨m, 0, none⟩), .int .i64 deep, .int .i64 steps] w (UpPost B w m j q) := by
  have c6 : w.cell? ⟨m, 6, none⟩ = some (.bool false) := by
    obtain ⟨sv, lv, av, hM⟩ := h
    have := hM.cell 6 _ rfl
    rw [show (s.mc j sv lv av).wt = false from hwt] at this
    exact this
  have HS := hide (fun (w : World) (s : PM) (q : PM × Option (Int × Int)) (h : MachP B w m j s) (hb : Below B w0 w) (hs : stepM fs j.fuel deep s = some q) => step_M (deep := deep) h hJ hB hb hs)
  have H0 := hide h
  have HR := hide hs
  have HBw := hide hb
  clear h hs hb hJ hB
  go_enter Tryz.func49, Tryz.ntmps49
  go_wp2_with fail
  go_loopg [] n (fun g wr => Below B w wr ∧ Hid (∃ b, MachP B wr m j b ∧ runM fs j.fuel deep steps g b = some q))
  case atStart => exact ⟨Below.refl _ _, ⟨s, H0.out, HR.out⟩⟩
  case round =>
    obtain ⟨hbw, hx⟩ := hrel
    obtain ⟨b, hM, hr⟩ := hx.out
    obtain ⟨sv, lv, av, hMM⟩ := hM
    have c12 : wr.cell? ⟨m, 12, none⟩ = some (.int .i64 b.ek) := hMM.cell 12 _ rfl
    have c15 : wr.cell? ⟨m, 15, none⟩ = some (.int .i64 (b.es : Int)) := hMM.cell 15 _ rfl
    have HM := hide (show MachP B wr m j b from ⟨sv, lv, av, hMM⟩)
    have HBB := hide hbw
    clear hMM hx hbw
    by_cases hk : b.ek = 0
    · by_cases hst : (b.es : Int) < steps
      · cases gk with
        | zero => unfold runM at hr; rw [if_pos ⟨hk, hst⟩] at hr; cases hr
        | succ g =>
          unfold runM at hr
          rw [if_pos ⟨hk, hst⟩] at hr
          have hk' : (b.ek == 0) = true := by rw [beq_iff_eq]; exact hk
          cases hq : stepM fs j.fuel deep b with
          | none => rw [hq] at hr; cases hr
          | some tu =>
            obtain ⟨t, u⟩ := tu
            have C := HS.out wr b (t, u) HM.out (HBw.out.trans HBB.out) hq
            unfold UpPost at C
            rw [hq] at hr
            cases u with
            | none =>
              simp only [upM] at C
              have HR2 := hide (show runM fs j.fuel deep steps g t = some q from hr)
              clear hr hq
              go_wp2_with (go_at_call 72; go_must (with_reducible refine C.mono ?_; (rintro e w2 ⟨rfl, h2, hb2⟩)))
              go_roundg g
              case measure => omega
              case rel => exact ⟨HBB.out.trans hb2, ⟨t, h2, HR2.out⟩⟩
            | some ev =>
              obtain ⟨xe, xv⟩ := ev
              simp only [upM, upF, failV] at C
              have HR2 := hide (show q = (t, some (xe, xv)) from (Option.some.inj hr).symm)
              clear hr hq
              go_wp2_with (go_at_call 72; go_must (with_reducible refine C.mono ?_; (rintro e w2 ⟨rfl, h2, hb2⟩)))
              refine ⟨rfl, ?_⟩
              rw [HR2.out]
              exact ⟨rfl, h2, HBB.out.trans hb2⟩
      · have hba : q = (b, none) := by
          cases gk with
          | zero => unfold runM at hr; rw [if_neg (fun q => hst q.2)] at hr; exact (Option.some.inj hr).symm
          | succ g => unfold runM at hr; rw [if_neg (fun q => hst q.2)] at hr; exact (Option.some.inj hr).symm
        have HBA := hide hba
        have hk' : (b.ek == 0) = true := by rw [beq_iff_eq]; exact hk
        clear hr hba
        go_wp2_with fail
        go_end0
        rw [HBA.out]
        exact ⟨rfl, HM.out, HBB.out⟩
    · have hba : q = (b, none) := by
        cases gk with
        | zero => unfold runM at hr; rw [if_neg (fun q => hk q.1)] at hr; exact (Option.some.inj hr).symm
        | succ g => unfold runM at hr; rw [if_neg (fun q => hk q.1)] at hr; exact (Option.some.inj hr).symm
      have HBA := hide hba
      have hk' : (b.ek == 0) = false := by rw [beq_eq_false_iff_ne]; exact hk
      clear hr hba
      go_wp2_with fail
      go_end0
      rw [HBA.out]
      exact ⟨rfl, HM.out, HBB.out⟩

set_option linter.unusedSimpArgs false in
set_option maxRecDepth 100000 in
set_option maxHeartbeats 2000000 in
theorem run_Wt {B : Bd} {w : World} {m : Nat} {j : JV} {s : PM} {x : Int} {r : List Int} {deep steps : Int} (h : MachP B w m j s) (hwt : s.wt = true) (hsk : s.sk = x :: r) (hn : r.length ≤ 10000) :
    Calls Tryz.prog 49 #[.pointer (some ⟨m, 0, none⟩), .int .i64 deep, .int .i64 steps] w (UpPost B w m j ({ s with ek := 2, ei := x }, none)) := by
  obtain ⟨sv, lv, av, hM⟩ := h
  have c6 : w.cell? ⟨m, 6, none⟩ = some (.bool true) := by
    have := hM.cell 6 _ rfl
    rw [show (s.mc j sv lv av).wt = true from hwt] at this
    exact this
  rw [hsk] at hM
  have CW := wait_any hM hn
  have HSK := hide hsk
  have HWT := hide hwt
  clear hM hsk hwt
  go_enter Tryz.func49, Tryz.ntmps49
  go_wp2_with (go_at_call 71; go_must (with_reducible refine CW.mono ?_; (rintro e w1 ⟨rfl, h1, hb1⟩); refine Hid.out ?_))
  refine Lib.hid ?_
  have H1 := hide (show MachP B w1 m j { s with ek := 2, ei := x } from ⟨sv, lv, av, by
    have := h1
    rw [← HSK.out] at this
    have e : (s.mc j sv lv av).wt = true := HWT.out
    simpa [PM.mc, HWT.out] using this⟩)
  have c12 : w1.cell? ⟨m, 12, none⟩ = some (.int .i64 2) := h1.cell 12 _ rfl
  have HB1 := hide hb1
  clear h1 CW c6 hb1
  go_wp2_with fail
  go_loopg [] 0 (fun _ wr => wr = w1)
  case atStart => rfl
  case round =>
    subst hrel
    go_wp2_with fail
    go_end0
    exact ⟨rfl, H1.out, HB1.out⟩
theorem run_M {B : Bd} {w w0 : World} {m : Nat} {j : JV} {s : PM} {q : PM × Option (Int × Int)} {cs : List Value} {fs : List Fun} {args : List Int} {deep steps : Int} (h : MachP B w m j s) (hJ : JobR w0 j cs fs args) (hB : B = w0.heap.size) (hb : Below B w0 w) (n : Nat) (hn : s.sk.length ≤ 10000) (hs : runW fs j.fuel deep steps n s = some q) :
    Calls Tryz.prog 49 #[.pointer (some ⟨m, 0, none⟩), .int .i64 deep, .int .i64 steps] w (UpPost B w m j q) := by
  unfold runW begM at hs
  by_cases hwt : s.wt = true
  · rw [if_pos hwt] at hs
    cases hsk : s.sk with
    | nil => rw [hsk] at hs; cases hs
    | cons x r =>
      rw [hsk] at hs
      simp only [Option.bind_some] at hs
      have hq : q = ({ s with ek := 2, ei := x }, none) := by
        cases n with
        | zero => unfold runM at hs; rw [if_neg (fun q => by simp at q)] at hs; rw [hsk]; exact (Option.some.inj hs).symm
        | succ n => unfold runM at hs; rw [if_neg (fun q => by simp at q)] at hs; rw [hsk]; exact (Option.some.inj hs).symm
      rw [hq]
      exact run_Wt h hwt hsk (by rw [hsk] at hn; simp at hn; omega)
  · rw [if_neg hwt] at hs
    exact run_L h hJ hB hb n (by simpa using hwt) hs
end Go.Proofs.YtnkfdpnommjlcaaGreatDoor
