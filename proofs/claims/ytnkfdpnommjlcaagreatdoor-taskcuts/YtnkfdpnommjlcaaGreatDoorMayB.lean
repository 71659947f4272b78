/- May, where a task can stand so, and does not wait. -/
import Derived.Test.YtnkfdpnommjlcaaGreatDoorAlive
import Derived.Test.YtnkfdpnommjlcaaGreatDoorNewM
import Derived.BigRegion
import Derived.Test.YtnkfdpnommjlcaaGreatDoorRet
namespace Go.Proofs.YtnkfdpnommjlcaaGreatDoor
open Go.RowKit Go.ChangeShapes Go.WideShapes Go.ChangeAt Go.Deep

set_option linter.unusedSimpArgs false in
set_option maxRecDepth 100000 in
set_option maxHeartbeats 4000000 in
theorem may_yes (j : JV) (cs : List Value) (fs : List Fun) (args : List Int) (fn pc : Nat) (fu kd : Int) (sa la : Option Addr) (sc lc : Nat) (st lo : List Int) (D : List Int) (f : Fun) (w : World) (hJ : JobR w j cs fs args) (hE : Env w) (hf : fs.length ≤ 9223372036854775807) (hs : ∀ f ∈ fs, f.code.length ≤ 9223372036854775807 ∧ f.name.size < 9223372036854775808)
    (hD : depsOf fs j.main args.length j.fuel j.tasks (fn : Int) = D) (hpc : D[pc]? = some (st.length : Int)) (hff : fs[fn]? = some f) (hlo : (lo.length : Int) = f.locals) (hkd : 0 ≤ kd ∧ kd ≤ 16) (hfu : 0 ≤ fu ∧ fu ≤ j.fuel) (hDl : D.length ≤ 9223372036854775807) :
    Calls Tryz.prog 11 #[.agg #[.slice j.fa j.nf j.fc, .int .i64 j.main, .slice j.aa j.na j.ac, .int .i64 j.fuel, .int .i64 j.tasks], .agg #[.int .i64 (fn : Int), .int .i64 (pc : Int), .int .i64 fu, .slice sa st.length sc, .slice la lo.length lc, .int .i64 kd, .bool false]] w fun e w' => e = .returned (.bool true) ∧ Below w.heap.size w w' := by
  have hb0 : Below w.heap.size w ((w.alloc (.cells #[.slice j.fa j.nf j.fc, .int .i64 j.main, .slice j.aa j.na j.ac, .int .i64 j.fuel, .int .i64 j.tasks] 25)).alloc (.cells #[.int .i64 (fn : Int), .int .i64 (pc : Int), .int .i64 fu, .slice sa st.length sc, .slice la lo.length lc, .int .i64 kd, .bool false] 29)) := (((Below.refl _ _).alloc (Nat.le_refl _) _).alloc (by simp) _)
  have hx : ((w.alloc (.cells #[.slice j.fa j.nf j.fc, .int .i64 j.main, .slice j.aa j.na j.ac, .int .i64 j.fuel, .int .i64 j.tasks] 25)).alloc (.cells #[.int .i64 (fn : Int), .int .i64 (pc : Int), .int .i64 fu, .slice sa st.length sc, .slice la lo.length lc, .int .i64 kd, .bool false] 29)).heap[w.heap.size]? = some (.cells #[.slice j.fa j.nf j.fc, .int .i64 j.main, .slice j.aa j.na j.ac, .int .i64 j.fuel, .int .i64 j.tasks] 25 (0, 0)) := by
    rw [heap_alloc_old _ _ (by simp), heap_alloc_new]
  have hz : ((w.alloc (.cells #[.slice j.fa j.nf j.fc, .int .i64 j.main, .slice j.aa j.na j.ac, .int .i64 j.fuel, .int .i64 j.tasks] 25)).alloc (.cells #[.int .i64 (fn : Int), .int .i64 (pc : Int), .int .i64 fu, .slice sa st.length sc, .slice la lo.length lc, .int .i64 kd, .bool false] 29)).heap[w.heap.size + 1]? = some (.cells #[.int .i64 (fn : Int), .int .i64 (pc : Int), .int .i64 fu, .slice sa st.length sc, .slice la lo.length lc, .int .i64 kd, .bool false] 29 (0, 0)) := by
    have := heap_alloc_new (w.alloc (.cells #[.slice j.fa j.nf j.fc, .int .i64 j.main, .slice j.aa j.na j.ac, .int .i64 j.fuel, .int .i64 j.tasks] 25)) (.cells #[.int .i64 (fn : Int), .int .i64 (pc : Int), .int .i64 fu, .slice sa st.length sc, .slice la lo.length lc, .int .i64 kd, .bool false] 29)
    simpa using this
  have C1 := deps_any j cs fs args (fn : Int) ((w.alloc (.cells #[.slice j.fa j.nf j.fc, .int .i64 j.main, .slice j.aa j.na j.ac, .int .i64 j.fuel, .int .i64 j.tasks] 25)).alloc (.cells #[.int .i64 (fn : Int), .int .i64 (pc : Int), .int .i64 fu, .slice sa st.length sc, .slice la lo.length lc, .int .i64 kd, .bool false] 29)) (hJ.below hb0) (hE.below hb0) hf hs
  rw [hD] at C1
  unfold DepsPost at C1
  simp only [JV.cells] at C1
  have HJ := hide hJ
  clear hJ hE hs hD
  go_enter Tryz.func11, Tryz.ntmps11
  go_wp2_with (go_at_call 31; go_must (with_reducible refine C1.mono ?_; (rintro e w2 ⟨da, dc, rfl, hrd, hb2⟩); refine Hid.out ?_))
  refine Lib.hid ?_
  have hb02 : Below w.heap.size w w2 := hb0.trans (hb2.mono (by simp; omega))
  have hx2 : w2.heap[w.heap.size]? = some (.cells #[.slice j.fa j.nf j.fc, .int .i64 j.main, .slice j.aa j.na j.ac, .int .i64 j.fuel, .int .i64 j.tasks] 25 (0, 0)) := by rw [hb2.block _ (by simp; omega)]; exact hx
  have hz2 : w2.heap[w.heap.size + 1]? = some (.cells #[.int .i64 (fn : Int), .int .i64 (pc : Int), .int .i64 fu, .slice sa st.length sc, .slice la lo.length lc, .int .i64 kd, .bool false] 29 (0, 0)) := by rw [hb2.block _ (by simp)]; exact hz
  clear C1 hx hz hb0 hb2
  obtain ⟨db, dof, rfl, dk⟩ := reads_iV hrd hpc
  have s0 : w2.cell? ⟨w.heap.size + 1, 0, none⟩ = some (.int .i64 (fn : Int)) := by simp only [World.cell?, hz2]; rfl
  have s1 : w2.cell? ⟨w.heap.size + 1, 1, none⟩ = some (.int .i64 (pc : Int)) := by simp only [World.cell?, hz2]; rfl
  have s2 : w2.cell? ⟨w.heap.size + 1, 2, none⟩ = some (.int .i64 fu) := by simp only [World.cell?, hz2]; rfl
  have s3 : w2.cell? ⟨w.heap.size + 1, 3, none⟩ = some (.slice sa st.length sc) := by simp only [World.cell?, hz2]; rfl
  have s4 : w2.cell? ⟨w.heap.size + 1, 4, none⟩ = some (.slice la lo.length lc) := by simp only [World.cell?, hz2]; rfl
  have s5 : w2.cell? ⟨w.heap.size + 1, 5, none⟩ = some (.int .i64 kd) := by simp only [World.cell?, hz2]; rfl
  have s6 : w2.cell? ⟨w.heap.size + 1, 6, none⟩ = some (.bool false) := by simp only [World.cell?, hz2]; rfl
  have x0 : w2.cell? ⟨w.heap.size, 0, none⟩ = some (.slice j.fa j.nf j.fc) := by simp only [World.cell?, hx2]; rfl
  have x1 : w2.cell? ⟨w.heap.size, 1, none⟩ = some (.int .i64 j.main) := by simp only [World.cell?, hx2]; rfl
  have x2 : w2.cell? ⟨w.heap.size, 2, none⟩ = some (.slice j.aa j.na j.ac) := by simp only [World.cell?, hx2]; rfl
  have x3 : w2.cell? ⟨w.heap.size, 3, none⟩ = some (.int .i64 j.fuel) := by simp only [World.cell?, hx2]; rfl
  have x4 : w2.cell? ⟨w.heap.size, 4, none⟩ = some (.int .i64 j.tasks) := by simp only [World.cell?, hx2]; rfl
  have hfl : fn < fs.length := (List.getElem?_eq_some_iff.1 hff).1
  have hfe : fs[fn] = f := (List.getElem?_eq_some_iff.1 hff).2
  have hpl : pc < D.length := (List.getElem?_eq_some_iff.1 hpc).1
  have T1 := fun w => thas_any (D.length : Int) (pc : Int) (by omega) w
  have hq : hasB (D.length : Int) (pc : Int) = true := by simp [hasB, inB]; omega
  rw [hq] at T1
  have hne : ((st.length : Int) != (st.length : Int)) = false := by simp
  have hpl' : (pc : Int) < (D.length : Int) := by omega
  go_wp2_with fail
  go_big_quiet (first | (go_at_call 25; with_reducible exact Calls.quiet_of_same (T1 _)))
  obtain ⟨fb, off, ca, cc, e, y0, y1, y2, y3, _, _⟩ := JobR.fun_at (HJ.out.below hb02) hfl
  rw [hfe] at y0 y1 y2 y3
  have hkn : (fn : Int) < (j.nf : Int) := by rw [HJ.out.nf]; omega
  clear hrd dk HJ
  obtain ⟨fa, nf, fc, mn, aa, na, ac, fuel, ta⟩ := j
  simp only [] at e hkn hfu x0 x1 x2 x3 x4 ⊢
  subst e
  obtain ⟨fnm, far, flo, fcode⟩ := f
  simp only [] at hlo y0 y1 y2 y3
  have hnw := heap_alloc_new (w2.drewN nq) (.cells #[.string ⟨#[]⟩, .int .i64 0, .int .i64 0, .slice none 0 0] 58)
  simp only [World.heap_drewN] at hnw
  have n0 : ((w2.drewN nq).alloc (.cells #[.string ⟨#[]⟩, .int .i64 0, .int .i64 0, .slice none 0 0] 58)).cell? ⟨w2.heap.size, 0, none⟩ = some (.string ⟨#[]⟩) := by simp only [World.cell?, hnw]; rfl
  have z0 : ((w2.drewN nq).alloc (.cells #[.string ⟨#[]⟩, .int .i64 0, .int .i64 0, .slice none 0 0] 58)).frozen? ⟨w2.heap.size, 0, none⟩ = false := by simp only [World.frozen?, hnw]; rfl
  have n1 : ((w2.drewN nq).alloc (.cells #[.string ⟨#[]⟩, .int .i64 0, .int .i64 0, .slice none 0 0] 58)).cell? ⟨w2.heap.size, 1, none⟩ = some (.int .i64 0) := by simp only [World.cell?, hnw]; rfl
  have z1 : ((w2.drewN nq).alloc (.cells #[.string ⟨#[]⟩, .int .i64 0, .int .i64 0, .slice none 0 0] 58)).frozen? ⟨w2.heap.size, 1, none⟩ = false := by simp only [World.frozen?, hnw]; rfl
  have n2 : ((w2.drewN nq).alloc (.cells #[.string ⟨#[]⟩, .int .i64 0, .int .i64 0, .slice none 0 0] 58)).cell? ⟨w2.heap.size, 2, none⟩ = some (.int .i64 0) := by simp only [World.cell?, hnw]; rfl
  have z2 : ((w2.drewN nq).alloc (.cells #[.string ⟨#[]⟩, .int .i64 0, .int .i64 0, .slice none 0 0] 58)).frozen? ⟨w2.heap.size, 2, none⟩ = false := by simp only [World.frozen?, hnw]; rfl
  have n3 : ((w2.drewN nq).alloc (.cells #[.string ⟨#[]⟩, .int .i64 0, .int .i64 0, .slice none 0 0] 58)).cell? ⟨w2.heap.size, 3, none⟩ = some (.slice none 0 0) := by simp only [World.cell?, hnw]; rfl
  have z3 : ((w2.drewN nq).alloc (.cells #[.string ⟨#[]⟩, .int .i64 0, .int .i64 0, .slice none 0 0] 58)).frozen? ⟨w2.heap.size, 3, none⟩ = false := by simp only [World.frozen?, hnw]; rfl
  clear hnw
  have hB4 : Below w2.heap.size w2 ((((((w2.drewN nq).alloc (.cells #[.string ⟨#[]⟩, .int .i64 0, .int .i64 0, .slice none 0 0] 58)).setCell ⟨w2.heap.size, 0, none⟩ (.string fnm)).setCell ⟨w2.heap.size, 1, none⟩ (.int .i64 far)).setCell ⟨w2.heap.size, 2, none⟩ (.int .i64 flo)).setCell ⟨w2.heap.size, 3, none⟩ (.slice ca fcode.length cc)) := ((((((below_drewN' (Below.refl _ _) nq).alloc (Nat.le_refl w2.heap.size) _).setCell (Nat.le_refl _) _).setCell (Nat.le_refl _) _).setCell (Nat.le_refl _) _).setCell (Nat.le_refl _) _)
  have q2 : ((((((w2.drewN nq).alloc (.cells #[.string ⟨#[]⟩, .int .i64 0, .int .i64 0, .slice none 0 0] 58)).setCell ⟨w2.heap.size, 0, none⟩ (.string fnm)).setCell ⟨w2.heap.size, 1, none⟩ (.int .i64 far)).setCell ⟨w2.heap.size, 2, none⟩ (.int .i64 flo)).setCell ⟨w2.heap.size, 3, none⟩ (.slice ca fcode.length cc)).cell? ⟨w2.heap.size, 2, none⟩ = some (.int .i64 flo) := by go_simp
  go_wp2_with fail
  generalize ((((((w2.drewN nq).alloc (.cells #[.string ⟨#[]⟩, .int .i64 0, .int .i64 0, .slice none 0 0] 58)).setCell ⟨w2.heap.size, 0, none⟩ (.string fnm)).setCell ⟨w2.heap.size, 1, none⟩ (.int .i64 far)).setCell ⟨w2.heap.size, 2, none⟩ (.int .i64 flo)).setCell ⟨w2.heap.size, 3, none⟩ (.slice ca fcode.length cc)) = w4 at hB4 q2 ⊢
  have s2' := keep_cell s2 hB4
  have s4' := keep_cell s4 hB4
  have s5' := keep_cell s5 hB4
  have s6' := keep_cell s6 hB4
  have x3' := keep_cell x3 hB4
  have HB := hide (hb02.trans (hB4.mono hb02.size))
  clear hB4 hb02 n0 n1 n2 n3 z0 z1 z2 z3 y0 y1 y2 y3 x0 x1 x2 x3 x4 s0 s1 s2 s3 s4 s5 s6 hz2 hx2 hpc T1 hne hpl hpl' hkn hq
  have hk1 : inB kd 0 16 = true := by simp [inB]; omega
  have hk2 : inB fu 0 fuel = true := by simp [inB]; omega
  have T2 := fun w => twithin_any kd 0 16 w
  have T3 := fun w => twithin_any fu 0 fuel w
  rw [hk1] at T2
  rw [hk2] at T3
  have hlq : ((lo.length : Int) == flo) = true := by simp [hlo]
  clear hlo hkd hfu hk1 hk2
  go_big_quiet (first | (go_at_call 32; first | with_reducible exact Calls.quiet_of_same (T2 _) | with_reducible exact Calls.quiet_of_same (T3 _)))
  go_wp2_with fail
  go_ret
  exact ⟨rfl, below_drewN' HB.out _⟩
end Go.Proofs.YtnkfdpnommjlcaaGreatDoor
/- May, where a task can stand so, and waits. -/

namespace Go.Proofs.YtnkfdpnommjlcaaGreatDoor
open Go.RowKit Go.ChangeShapes Go.WideShapes Go.ChangeAt Go.Deep

set_option linter.unusedSimpArgs false in
set_option maxRecDepth 100000 in
set_option maxHeartbeats 4000000 in
theorem may_waits (j : JV) (cs : List Value) (fs : List Fun) (args : List Int) (fn pc : Nat) (fu kd : Int) (sa la : Option Addr) (sc lc : Nat) (st lo : List Int) (D : List Int) (f : Fun) (w : World) (hJ : JobR w j cs fs args) (hE : Env w) (hf : fs.length ≤ 9223372036854775807) (hs : ∀ f ∈ fs, f.code.length ≤ 9223372036854775807 ∧ f.name.size < 9223372036854775808)
    (hD : depsOf fs j.main args.length j.fuel j.tasks (fn : Int) = D) (hpc : D[pc]? = some (st.length : Int)) (hff : fs[fn]? = some f) (hlo : (lo.length : Int) = f.locals) (hkd : 0 ≤ kd ∧ kd ≤ 16) (hfu : 0 ≤ fu ∧ fu ≤ j.fuel) (hDl : D.length ≤ 9223372036854775807) (hrs : Reads w sa (iV st)) (h1 : st.length ≤ 100000) (k : Int) (r : List Int) (x : Int) (hi : f.code[pc]? = some (17, k)) (hst : st = r ++ [x]) (hh : hasB kd x = true) :
    Calls Tryz.prog 11 #[.agg #[.slice j.fa j.nf j.fc, .int .i64 j.main, .slice j.aa j.na j.ac, .int .i64 j.fuel, .int .i64 j.tasks], .agg #[.int .i64 (fn : Int), .int .i64 (pc : Int), .int .i64 fu, .slice sa st.length sc, .slice la lo.length lc, .int .i64 kd, .bool true]] w fun e w' => e = .returned (.bool true) ∧ Below w.heap.size w w' := by
  have hb0 : Below w.heap.size w ((w.alloc (.cells #[.slice j.fa j.nf j.fc, .int .i64 j.main, .slice j.aa j.na j.ac, .int .i64 j.fuel, .int .i64 j.tasks] 25)).alloc (.cells #[.int .i64 (fn : Int), .int .i64 (pc : Int), .int .i64 fu, .slice sa st.length sc, .slice la lo.length lc, .int .i64 kd, .bool true] 29)) := (((Below.refl _ _).alloc (Nat.le_refl _) _).alloc (by simp) _)
  have hx : ((w.alloc (.cells #[.slice j.fa j.nf j.fc, .int .i64 j.main, .slice j.aa j.na j.ac, .int .i64 j.fuel, .int .i64 j.tasks] 25)).alloc (.cells #[.int .i64 (fn : Int), .int .i64 (pc : Int), .int .i64 fu, .slice sa st.length sc, .slice la lo.length lc, .int .i64 kd, .bool true] 29)).heap[w.heap.size]? = some (.cells #[.slice j.fa j.nf j.fc, .int .i64 j.main, .slice j.aa j.na j.ac, .int .i64 j.fuel, .int .i64 j.tasks] 25 (0, 0)) := by
    rw [heap_alloc_old _ _ (by simp), heap_alloc_new]
  have hz : ((w.alloc (.cells #[.slice j.fa j.nf j.fc, .int .i64 j.main, .slice j.aa j.na j.ac, .int .i64 j.fuel, .int .i64 j.tasks] 25)).alloc (.cells #[.int .i64 (fn : Int), .int .i64 (pc : Int), .int .i64 fu, .slice sa st.length sc, .slice la lo.length lc, .int .i64 kd, .bool true] 29)).heap[w.heap.size + 1]? = some (.cells #[.int .i64 (fn : Int), .int .i64 (pc : Int), .int .i64 fu, .slice sa st.length sc, .slice la lo.length lc, .int .i64 kd, .bool true] 29 (0, 0)) := by
    have := heap_alloc_new (w.alloc (.cells #[.slice j.fa j.nf j.fc, .int .i64 j.main, .slice j.aa j.na j.ac, .int .i64 j.fuel, .int .i64 j.tasks] 25)) (.cells #[.int .i64 (fn : Int), .int .i64 (pc : Int), .int .i64 fu, .slice sa st.length sc, .slice la lo.length lc, .int .i64 kd, .bool true] 29)
    simpa using this
  have C1 := deps_any j cs fs args (fn : Int) ((w.alloc (.cells #[.slice j.fa j.nf j.fc, .int .i64 j.main, .slice j.aa j.na j.ac, .int .i64 j.fuel, .int .i64 j.tasks] 25)).alloc (.cells #[.int .i64 (fn : Int), .int .i64 (pc : Int), .int .i64 fu, .slice sa st.length sc, .slice la lo.length lc, .int .i64 kd, .bool true] 29)) (hJ.below hb0) (hE.below hb0) hf hs
  rw [hD] at C1
  unfold DepsPost at C1
  simp only [JV.cells] at C1
  have HJ := hide hJ
  have HST := hide hst
  clear hst
  clear hJ hE hs hD
  go_enter Tryz.func11, Tryz.ntmps11
  go_wp2_with (go_at_call 31; go_must (with_reducible refine C1.mono ?_; (rintro e w2 ⟨da, dc, rfl, hrd, hb2⟩); refine Hid.out ?_))
  refine Lib.hid ?_
  have hb02 : Below w.heap.size w w2 := hb0.trans (hb2.mono (by simp; omega))
  have hx2 : w2.heap[w.heap.size]? = some (.cells #[.slice j.fa j.nf j.fc, .int .i64 j.main, .slice j.aa j.na j.ac, .int .i64 j.fuel, .int .i64 j.tasks] 25 (0, 0)) := by rw [hb2.block _ (by simp; omega)]; exact hx
  have hz2 : w2.heap[w.heap.size + 1]? = some (.cells #[.int .i64 (fn : Int), .int .i64 (pc : Int), .int .i64 fu, .slice sa st.length sc, .slice la lo.length lc, .int .i64 kd, .bool true] 29 (0, 0)) := by rw [hb2.block _ (by simp)]; exact hz
  clear C1 hx hz hb0 hb2
  obtain ⟨db, dof, rfl, dk⟩ := reads_iV hrd hpc
  have s0 : w2.cell? ⟨w.heap.size + 1, 0, none⟩ = some (.int .i64 (fn : Int)) := by simp only [World.cell?, hz2]; rfl
  have s1 : w2.cell? ⟨w.heap.size + 1, 1, none⟩ = some (.int .i64 (pc : Int)) := by simp only [World.cell?, hz2]; rfl
  have s2 : w2.cell? ⟨w.heap.size + 1, 2, none⟩ = some (.int .i64 fu) := by simp only [World.cell?, hz2]; rfl
  have s3 : w2.cell? ⟨w.heap.size + 1, 3, none⟩ = some (.slice sa st.length sc) := by simp only [World.cell?, hz2]; rfl
  have s4 : w2.cell? ⟨w.heap.size + 1, 4, none⟩ = some (.slice la lo.length lc) := by simp only [World.cell?, hz2]; rfl
  have s5 : w2.cell? ⟨w.heap.size + 1, 5, none⟩ = some (.int .i64 kd) := by simp only [World.cell?, hz2]; rfl
  have s6 : w2.cell? ⟨w.heap.size + 1, 6, none⟩ = some (.bool true) := by simp only [World.cell?, hz2]; rfl
  have x0 : w2.cell? ⟨w.heap.size, 0, none⟩ = some (.slice j.fa j.nf j.fc) := by simp only [World.cell?, hx2]; rfl
  have x1 : w2.cell? ⟨w.heap.size, 1, none⟩ = some (.int .i64 j.main) := by simp only [World.cell?, hx2]; rfl
  have x2 : w2.cell? ⟨w.heap.size, 2, none⟩ = some (.slice j.aa j.na j.ac) := by simp only [World.cell?, hx2]; rfl
  have x3 : w2.cell? ⟨w.heap.size, 3, none⟩ = some (.int .i64 j.fuel) := by simp only [World.cell?, hx2]; rfl
  have x4 : w2.cell? ⟨w.heap.size, 4, none⟩ = some (.int .i64 j.tasks) := by simp only [World.cell?, hx2]; rfl
  have hfl : fn < fs.length := (List.getElem?_eq_some_iff.1 hff).1
  have hfe : fs[fn] = f := (List.getElem?_eq_some_iff.1 hff).2
  have hpl : pc < D.length := (List.getElem?_eq_some_iff.1 hpc).1
  have T1 := fun w => thas_any (D.length : Int) (pc : Int) (by omega) w
  have hq : hasB (D.length : Int) (pc : Int) = true := by simp [hasB, inB]; omega
  rw [hq] at T1
  have hne : ((st.length : Int) != (st.length : Int)) = false := by simp
  have hpl' : (pc : Int) < (D.length : Int) := by omega
  go_wp2_with fail
  go_big_quiet (first | (go_at_call 25; with_reducible exact Calls.quiet_of_same (T1 _)))
  obtain ⟨fb, off, ca, cc, e, y0, y1, y2, y3, hrc, _⟩ := JobR.fun_at (HJ.out.below hb02) hfl
  rw [hfe] at y0 y1 y2 y3 hrc
  obtain ⟨cb, co, rfl, ki, kn⟩ := ins_cells hrc hi
  have hpcl : pc < f.code.length := (List.getElem?_eq_some_iff.1 hi).1
  clear hrc kn
  have hkn : (fn : Int) < (j.nf : Int) := by rw [HJ.out.nf]; omega
  clear hrd dk HJ
  obtain ⟨fa, nf, fc, mn, aa, na, ac, fuel, ta⟩ := j
  simp only [] at e hkn hfu x0 x1 x2 x3 x4 ⊢
  subst e
  obtain ⟨fnm, far, flo, fcode⟩ := f
  simp only [] at hlo y0 y1 y2 y3 hi hpcl
  have hnw := heap_alloc_new (w2.drewN nq) (.cells #[.string ⟨#[]⟩, .int .i64 0, .int .i64 0, .slice none 0 0] 58)
  simp only [World.heap_drewN] at hnw
  have n0 : ((w2.drewN nq).alloc (.cells #[.string ⟨#[]⟩, .int .i64 0, .int .i64 0, .slice none 0 0] 58)).cell? ⟨w2.heap.size, 0, none⟩ = some (.string ⟨#[]⟩) := by simp only [World.cell?, hnw]; rfl
  have z0 : ((w2.drewN nq).alloc (.cells #[.string ⟨#[]⟩, .int .i64 0, .int .i64 0, .slice none 0 0] 58)).frozen? ⟨w2.heap.size, 0, none⟩ = false := by simp only [World.frozen?, hnw]; rfl
  have n1 : ((w2.drewN nq).alloc (.cells #[.string ⟨#[]⟩, .int .i64 0, .int .i64 0, .slice none 0 0] 58)).cell? ⟨w2.heap.size, 1, none⟩ = some (.int .i64 0) := by simp only [World.cell?, hnw]; rfl
  have z1 : ((w2.drewN nq).alloc (.cells #[.string ⟨#[]⟩, .int .i64 0, .int .i64 0, .slice none 0 0] 58)).frozen? ⟨w2.heap.size, 1, none⟩ = false := by simp only [World.frozen?, hnw]; rfl
  have n2 : ((w2.drewN nq).alloc (.cells #[.string ⟨#[]⟩, .int .i64 0, .int .i64 0, .slice none 0 0] 58)).cell? ⟨w2.heap.size, 2, none⟩ = some (.int .i64 0) := by simp only [World.cell?, hnw]; rfl
  have z2 : ((w2.drewN nq).alloc (.cells #[.string ⟨#[]⟩, .int .i64 0, .int .i64 0, .slice none 0 0] 58)).frozen? ⟨w2.heap.size, 2, none⟩ = false := by simp only [World.frozen?, hnw]; rfl
  have n3 : ((w2.drewN nq).alloc (.cells #[.string ⟨#[]⟩, .int .i64 0, .int .i64 0, .slice none 0 0] 58)).cell? ⟨w2.heap.size, 3, none⟩ = some (.slice none 0 0) := by simp only [World.cell?, hnw]; rfl
  have z3 : ((w2.drewN nq).alloc (.cells #[.string ⟨#[]⟩, .int .i64 0, .int .i64 0, .slice none 0 0] 58)).frozen? ⟨w2.heap.size, 3, none⟩ = false := by simp only [World.frozen?, hnw]; rfl
  clear hnw
  have hB4 : Below w2.heap.size w2 ((((((w2.drewN nq).alloc (.cells #[.string ⟨#[]⟩, .int .i64 0, .int .i64 0, .slice none 0 0] 58)).setCell ⟨w2.heap.size, 0, none⟩ (.string fnm)).setCell ⟨w2.heap.size, 1, none⟩ (.int .i64 far)).setCell ⟨w2.heap.size, 2, none⟩ (.int .i64 flo)).setCell ⟨w2.heap.size, 3, none⟩ (.slice (some ⟨cb, co, none⟩) fcode.length cc)) := ((((((below_drewN' (Below.refl _ _) nq).alloc (Nat.le_refl w2.heap.size) _).setCell (Nat.le_refl _) _).setCell (Nat.le_refl _) _).setCell (Nat.le_refl _) _).setCell (Nat.le_refl _) _)
  have q2 : ((((((w2.drewN nq).alloc (.cells #[.string ⟨#[]⟩, .int .i64 0, .int .i64 0, .slice none 0 0] 58)).setCell ⟨w2.heap.size, 0, none⟩ (.string fnm)).setCell ⟨w2.heap.size, 1, none⟩ (.int .i64 far)).setCell ⟨w2.heap.size, 2, none⟩ (.int .i64 flo)).setCell ⟨w2.heap.size, 3, none⟩ (.slice (some ⟨cb, co, none⟩) fcode.length cc)).cell? ⟨w2.heap.size, 2, none⟩ = some (.int .i64 flo) := by go_simp
  have q3 : ((((((w2.drewN nq).alloc (.cells #[.string ⟨#[]⟩, .int .i64 0, .int .i64 0, .slice none 0 0] 58)).setCell ⟨w2.heap.size, 0, none⟩ (.string fnm)).setCell ⟨w2.heap.size, 1, none⟩ (.int .i64 far)).setCell ⟨w2.heap.size, 2, none⟩ (.int .i64 flo)).setCell ⟨w2.heap.size, 3, none⟩ (.slice (some ⟨cb, co, none⟩) fcode.length cc)).cell? ⟨w2.heap.size, 3, none⟩ = some (.slice (some ⟨cb, co, none⟩) fcode.length cc) := by go_simp
  go_wp2_with fail
  generalize ((((((w2.drewN nq).alloc (.cells #[.string ⟨#[]⟩, .int .i64 0, .int .i64 0, .slice none 0 0] 58)).setCell ⟨w2.heap.size, 0, none⟩ (.string fnm)).setCell ⟨w2.heap.size, 1, none⟩ (.int .i64 far)).setCell ⟨w2.heap.size, 2, none⟩ (.int .i64 flo)).setCell ⟨w2.heap.size, 3, none⟩ (.slice (some ⟨cb, co, none⟩) fcode.length cc)) = w4 at hB4 q2 q3 ⊢
  have s1' := keep_cell s1 hB4
  have s3' := keep_cell s3 hB4
  have ki' := keep_cell ki hB4
  have s2' := keep_cell s2 hB4
  have s4' := keep_cell s4 hB4
  have s5' := keep_cell s5 hB4
  have s6' := keep_cell s6 hB4
  have x3' := keep_cell x3 hB4
  have hr4 := hrs.below (hb02.trans (hB4.mono hb02.size))
  have HB := hide (hb02.trans (hB4.mono hb02.size))
  clear hB4 hb02 n0 n1 n2 n3 z0 z1 z2 z3 y0 y1 y2 y3 x0 x1 x2 x3 x4 s0 s1 s2 s3 s4 s5 s6 hz2 hx2 hpc T1 hne hpl hpl' hkn hq ki hrs
  have hst := HST.out
  subst hst
  have T4 := fun n => top_any sa sc r x (w4.drewN n) (hr4.below (below_drewN' (Below.refl _ _) n)) (by simp at h1; omega)
  have T5 := fun w => thas_any kd x (by omega) w
  rw [hh] at T5
  rw [show (r ++ [x]).length = r.length + 1 by simp] at s3'
  have hpcl' : (pc : Int) < (fcode.length : Int) := by omega
  have hk1 : inB kd 0 16 = true := by simp [inB]; omega
  have hk2 : inB fu 0 fuel = true := by simp [inB]; omega
  have T2 := fun w => twithin_any kd 0 16 w
  have T3 := fun w => twithin_any fu 0 fuel w
  rw [hk1] at T2
  rw [hk2] at T3
  have hlq : ((lo.length : Int) == flo) = true := by simp [hlo]
  clear hlo hkd hfu hk1 hk2 hr4 hi hh
  go_big_quiet (first | (go_at_call 32; first | with_reducible exact Calls.quiet_of_same (T2 _) | with_reducible exact Calls.quiet_of_same (T3 _)) | (go_at_call 33; with_reducible exact Calls.quiet_of_same (T4 _)) | (go_at_call 25; with_reducible exact Calls.quiet_of_same (T5 _)))
  go_wp2_with fail
  go_ret
  exact ⟨rfl, below_drewN' HB.out _⟩
theorem may_yes2 (j : JV) (cs : List Value) (fs : List Fun) (args : List Int) (fn pc : Nat) (fu kd : Int) (wt : Bool) (sa la : Option Addr) (sc lc : Nat) (st lo : List Int) (D : List Int) (f : Fun) (w : World) (hJ : JobR w j cs fs args) (hE : Env w) (hrs : Reads w sa (iV st)) (hf : fs.length ≤ 9223372036854775807) (hs : ∀ f ∈ fs, f.code.length ≤ 9223372036854775807 ∧ f.name.size < 9223372036854775808)
    (hD : depsOf fs j.main args.length j.fuel j.tasks (fn : Int) = D) (hpc : D[pc]? = some (st.length : Int)) (hff : fs[fn]? = some f) (hlo : (lo.length : Int) = f.locals) (hkd : 0 ≤ kd ∧ kd ≤ 16) (hfu : 0 ≤ fu ∧ fu ≤ j.fuel) (hDl : D.length ≤ 9223372036854775807) (h1 : st.length ≤ 100000) (hw : wt = true → ∃ k r x, f.code[pc]? = some (17, k) ∧ st = r ++ [x] ∧ hasB kd x = true) :
    Calls Tryz.prog 11 #[.agg #[.slice j.fa j.nf j.fc, .int .i64 j.main, .slice j.aa j.na j.ac, .int .i64 j.fuel, .int .i64 j.tasks], .agg #[.int .i64 (fn : Int), .int .i64 (pc : Int), .int .i64 fu, .slice sa st.length sc, .slice la lo.length lc, .int .i64 kd, .bool wt]] w fun e w' => e = .returned (.bool true) ∧ Below w.heap.size w w' := by
  cases wt with
  | false => exact may_yes j cs fs args fn pc fu kd sa la sc lc st lo D f w hJ hE hf hs hD hpc hff hlo hkd hfu hDl
  | true =>
    obtain ⟨k, r, x, hi, hst, hh⟩ := hw rfl
    exact may_waits j cs fs args fn pc fu kd sa la sc lc st lo D f w hJ hE hf hs hD hpc hff hlo hkd hfu hDl hrs h1 k r x hi hst hh
end Go.Proofs.YtnkfdpnommjlcaaGreatDoor
