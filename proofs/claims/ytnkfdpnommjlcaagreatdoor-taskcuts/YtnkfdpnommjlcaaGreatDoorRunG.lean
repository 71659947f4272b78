/- Run, by RunKnown. -/
import Derived.Test.YtnkfdpnommjlcaaGreatDoorRunK
import Derived.Test.YtnkfdpnommjlcaaGreatDoorMayB
namespace Go.Proofs.YtnkfdpnommjlcaaGreatDoor
open Go.RowKit Go.ChangeShapes Go.WideShapes Go.ChangeAt Go.Deep

set_option linter.unusedSimpArgs false in
theorem rune_idle (a b c d : Nat) (w : World) :
    CallsD Tryz.prog 27 #[.pointer (some ⟨a, 0, none⟩), .pointer (some ⟨b, 0, none⟩), .pointer (some ⟨c, 0, none⟩), .pointer (some ⟨d, 0, none⟩)] .returning w fun e u' w' => e = .returned (.tuple #[]) ∧ u' = .returning ∧ Below w.heap.size w w' := by
  refine callsD_of_wpS Tryz.func27 rfl fun c₀ cs hu => ?_
  apply wpS_seq
  apply wpS_region
  simp [wpOpsS, go_sem, recoverD, hu, Tryz.ntmps27, Exit.thenS, Array.replicate]
  refine (wentUp_nil w).mono ?_
  rintro e w1 ⟨rfl, hb1⟩
  have hnw := heap_alloc_new w1 (.cells #[.int .i64 0, .int .i64 0] 35)
  have n0 : (w1.alloc (.cells #[.int .i64 0, .int .i64 0] 35)).cell? ⟨w1.heap.size, 0, none⟩ = some (.int .i64 0) := by simp only [World.cell?, hnw]; rfl
  have n1 : (w1.alloc (.cells #[.int .i64 0, .int .i64 0] 35)).cell? ⟨w1.heap.size, 1, none⟩ = some (.int .i64 0) := by simp only [World.cell?, hnw]; rfl
  have z0 : (w1.alloc (.cells #[.int .i64 0, .int .i64 0] 35)).frozen? ⟨w1.heap.size, 0, none⟩ = false := by simp only [World.frozen?, hnw]; rfl
  have z1 : (w1.alloc (.cells #[.int .i64 0, .int .i64 0] 35)).frozen? ⟨w1.heap.size, 1, none⟩ = false := by simp only [World.frozen?, hnw]; rfl
  clear hnw
  simp [go_sem, Exit.thenS, n0, n1, z0, z1]
  have hbel : Below w.heap.size w (w1.alloc (.cells #[.int .i64 0, .int .i64 0] 35)) := hb1.alloc hb1.size _
  clear n0 n1 z0 z1 hb1
  refine wpS_of_wp ?_
  generalize w1.alloc (.cells #[.int .i64 0, .int .i64 0] 35) = w2 at hbel ⊢
  go_wp2
  cases c₀
  simp_all [bodyPostS, results, Tryz.results27]

set_option linter.unusedSimpArgs false in
set_option maxRecDepth 100000 in
set_option maxHeartbeats 4000000 in
theorem run_via (j : JV) (fn pc fu : Nat) (kd deep steps : Int) (wt : Bool) (sa la : Option Addr) (ns sc nl lc : Nat) (q1 : PM) (w : World)
    (HM : ∀ W, Below w.heap.size w W → Calls Tryz.prog 11 #[.agg #[.slice j.fa j.nf j.fc, .int .i64 j.main, .slice j.aa j.na j.ac, .int .i64 j.fuel, .int .i64 j.tasks], .agg #[.int .i64 (fn : Int), .int .i64 (pc : Int), .int .i64 (fu : Int), .slice sa ns sc, .slice la nl lc, .int .i64 kd, .bool wt]] W fun e w' => e = .returned (.bool true) ∧ Below W.heap.size W w')
    (HK : ∀ W, Below w.heap.size w W → Calls Tryz.prog 30 #[.agg #[.slice j.fa j.nf j.fc, .int .i64 j.main, .slice j.aa j.na j.ac, .int .i64 j.fuel, .int .i64 j.tasks], .agg #[.int .i64 (fn : Int), .int .i64 (pc : Int), .int .i64 (fu : Int), .slice sa ns sc, .slice la nl lc, .int .i64 kd, .bool wt], .int .i64 deep, .int .i64 steps] W (RunPost j W q1)) :
    Calls Tryz.prog 10 #[.agg #[.slice j.fa j.nf j.fc, .int .i64 j.main, .slice j.aa j.na j.ac, .int .i64 j.fuel, .int .i64 j.tasks], .agg #[.int .i64 (fn : Int), .int .i64 (pc : Int), .int .i64 (fu : Int), .slice sa ns sc, .slice la nl lc, .int .i64 kd, .bool wt], .int .i64 deep, .int .i64 steps] w (RunPost j w q1) := by
  have hmf : ∀ (fn : Fn) (first cap : Array Value) (w : World), (Instr.makeFunc fn first cap).run Tryz.prog w = .ok (.func fn first cap) w := fun _ _ _ _ => rfl
  obtain ⟨hb0, hsz, p1, p2, p3, p4⟩ := four_blocks w (.cells #[.slice j.fa j.nf j.fc, .int .i64 j.main, .slice j.aa j.na j.ac, .int .i64 j.fuel, .int .i64 j.tasks] 25) (.cells #[.int .i64 (fn : Int), .int .i64 (pc : Int), .int .i64 (fu : Int), .slice sa ns sc, .slice la nl lc, .int .i64 kd, .bool wt] 29) (.cells #[.int .i64 0, .int .i64 0, .int .i64 0, .slice none 0 0, .slice none 0 0, .int .i64 0, .bool false] 29) (.cells #[.int .i64 0, .int .i64 0, .int .i64 0, .int .i64 0, .slice none 0 0, .int .i64 0, .int .i64 0] 37)
  have HP3 := hide p3
  have HP4 := hide p4
  have HMM := hide HM
  have HKK := hide HK
  clear HM HK
  go_enter_defers Tryz.func10, Tryz.ntmps10
  go_upto_region 1 with fail
  generalize ((((w.alloc (.cells #[.slice j.fa j.nf j.fc, .int .i64 j.main, .slice j.aa j.na j.ac, .int .i64 j.fuel, .int .i64 j.tasks] 25)).alloc (.cells #[.int .i64 (fn : Int), .int .i64 (pc : Int), .int .i64 (fu : Int), .slice sa ns sc, .slice la nl lc, .int .i64 kd, .bool wt] 29)).alloc (.cells #[.int .i64 0, .int .i64 0, .int .i64 0, .slice none 0 0, .slice none 0 0, .int .i64 0, .bool false] 29)).alloc (.cells #[.int .i64 0, .int .i64 0, .int .i64 0, .int .i64 0, .slice none 0 0, .int .i64 0, .int .i64 0] 37)) = w0 at *
  have HB0 := hide hb0
  have HSZ := hide hsz
  clear p3 p4 hb0 hsz
  have j0 : w0.cell? ⟨w.heap.size, 0, none⟩ = some (.slice j.fa j.nf j.fc) := by simp only [World.cell?, p1]; rfl
  have j1 : w0.cell? ⟨w.heap.size, 1, none⟩ = some (.int .i64 j.main) := by simp only [World.cell?, p1]; rfl
  have j2 : w0.cell? ⟨w.heap.size, 2, none⟩ = some (.slice j.aa j.na j.ac) := by simp only [World.cell?, p1]; rfl
  have j3 : w0.cell? ⟨w.heap.size, 3, none⟩ = some (.int .i64 j.fuel) := by simp only [World.cell?, p1]; rfl
  have j4 : w0.cell? ⟨w.heap.size, 4, none⟩ = some (.int .i64 j.tasks) := by simp only [World.cell?, p1]; rfl
  have s0 : w0.cell? ⟨w.heap.size + 1, 0, none⟩ = some (.int .i64 (fn : Int)) := by simp only [World.cell?, p2]; rfl
  have s1 : w0.cell? ⟨w.heap.size + 1, 1, none⟩ = some (.int .i64 (pc : Int)) := by simp only [World.cell?, p2]; rfl
  have s2 : w0.cell? ⟨w.heap.size + 1, 2, none⟩ = some (.int .i64 (fu : Int)) := by simp only [World.cell?, p2]; rfl
  have s3 : w0.cell? ⟨w.heap.size + 1, 3, none⟩ = some (.slice sa ns sc) := by simp only [World.cell?, p2]; rfl
  have s4 : w0.cell? ⟨w.heap.size + 1, 4, none⟩ = some (.slice la nl lc) := by simp only [World.cell?, p2]; rfl
  have s5 : w0.cell? ⟨w.heap.size + 1, 5, none⟩ = some (.int .i64 kd) := by simp only [World.cell?, p2]; rfl
  have s6 : w0.cell? ⟨w.heap.size + 1, 6, none⟩ = some (.bool wt) := by simp only [World.cell?, p2]; rfl
  clear p1 p2
  have C2 := HMM.out w0 HB0.out
  have C3 := fun W => tneed_yes 1 W
  go_wp2_with (first
    | (go_at_call 11; go_must (with_reducible refine C2.mono ?_; (rintro e w3 ⟨rfl, hb3⟩); refine Hid.out ?_))
    | (go_at_call 24; go_must (with_reducible refine (C3 _).mono ?_; (rintro e w3 ⟨rfl, rfl⟩); refine Hid.out ?_)))
  refine Lib.hid ?_
  have hb03 : Below w.heap.size w w3 := chain HB0.out hb3
  have C4 := HKK.out w3 hb03
  replace j0 := keep_cell j0 hb3
  replace j1 := keep_cell j1 hb3
  replace j2 := keep_cell j2 hb3
  replace j3 := keep_cell j3 hb3
  replace j4 := keep_cell j4 hb3
  replace s0 := keep_cell s0 hb3
  replace s1 := keep_cell s1 hb3
  replace s2 := keep_cell s2 hb3
  replace s3 := keep_cell s3 hb3
  replace s4 := keep_cell s4 hb3
  replace s5 := keep_cell s5 hb3
  replace s6 := keep_cell s6 hb3
  have hp3 := (hb3.block (w.heap.size + 1 + 1) (by rw [HSZ.out]; omega)).trans HP3.out
  have hq3 := (hb3.block (w.heap.size + 1 + 1 + 1) (by rw [HSZ.out]; omega)).trans HP4.out
  have hlt3 : w.heap.size + 4 ≤ w3.heap.size := by have := hb3.size; rw [HSZ.out] at this; exact this
  obtain ⟨fn', pc', fu', sk', lo', kd', wt', ek', ef', ei', es', ar', er', ev'⟩ := q1
  unfold RunPost at C4
  simp only [PM.mc, Mc.stV, Mc.evV] at C4
  clear C2 HMM HKK HP3 HP4 HSZ HB0
  go_wp2_with (first
    | (go_at_call 24; go_must (with_reducible refine (C3 _).mono ?_; (rintro e wz ⟨rfl, hwz⟩; replace hwz := hwz.symm; subst hwz)))
    | (go_at_call 30; go_must (with_reducible refine C4.mono ?_; (rintro e w4 ⟨B, m, sv, lv, av, rfl, hBn, hM4, hb4⟩); refine Hid.out ?_)))
  refine Lib.hid ?_
  have hb34 := hb4
  have hp7 := (hb4.block (w.heap.size + 1 + 1) (by omega)).trans hp3
  have hq7 := (hb4.block (w.heap.size + 1 + 1 + 1) (by omega)).trans hq3
  have hb7 : Below w.heap.size w w4 := chain hb03 hb4
  obtain ⟨sa4, sc4, rfl, _⟩ := slice_form (n := sk'.length) hM4.own (by simp)
  obtain ⟨la4, lc4, rfl, _⟩ := slice_form hM4.loc rfl
  obtain ⟨aa4, ac4, rfl, _⟩ := slice_form hM4.arg rfl
  have z0 : w4.cell? ⟨w.heap.size + 1 + 1, 0, none⟩ = some (.int .i64 0) := by simp [World.cell?, hp7]
  have zf0 : w4.frozen? ⟨w.heap.size + 1 + 1, 0, none⟩ = false := by simp [World.frozen?, hp7]
  have y0 : w4.cell? ⟨w.heap.size + 1 + 1 + 1, 0, none⟩ = some (.int .i64 0) := by simp [World.cell?, hq7]
  have yf0 : w4.frozen? ⟨w.heap.size + 1 + 1 + 1, 0, none⟩ = false := by simp [World.frozen?, hq7]
  have z1 : w4.cell? ⟨w.heap.size + 1 + 1, 1, none⟩ = some (.int .i64 0) := by simp [World.cell?, hp7]
  have zf1 : w4.frozen? ⟨w.heap.size + 1 + 1, 1, none⟩ = false := by simp [World.frozen?, hp7]
  have y1 : w4.cell? ⟨w.heap.size + 1 + 1 + 1, 1, none⟩ = some (.int .i64 0) := by simp [World.cell?, hq7]
  have yf1 : w4.frozen? ⟨w.heap.size + 1 + 1 + 1, 1, none⟩ = false := by simp [World.frozen?, hq7]
  have z2 : w4.cell? ⟨w.heap.size + 1 + 1, 2, none⟩ = some (.int .i64 0) := by simp [World.cell?, hp7]
  have zf2 : w4.frozen? ⟨w.heap.size + 1 + 1, 2, none⟩ = false := by simp [World.frozen?, hp7]
  have y2 : w4.cell? ⟨w.heap.size + 1 + 1 + 1, 2, none⟩ = some (.int .i64 0) := by simp [World.cell?, hq7]
  have yf2 : w4.frozen? ⟨w.heap.size + 1 + 1 + 1, 2, none⟩ = false := by simp [World.frozen?, hq7]
  have z3 : w4.cell? ⟨w.heap.size + 1 + 1, 3, none⟩ = some (.slice none 0 0) := by simp [World.cell?, hp7]
  have zf3 : w4.frozen? ⟨w.heap.size + 1 + 1, 3, none⟩ = false := by simp [World.frozen?, hp7]
  have y3 : w4.cell? ⟨w.heap.size + 1 + 1 + 1, 3, none⟩ = some (.int .i64 0) := by simp [World.cell?, hq7]
  have yf3 : w4.frozen? ⟨w.heap.size + 1 + 1 + 1, 3, none⟩ = false := by simp [World.frozen?, hq7]
  have z4 : w4.cell? ⟨w.heap.size + 1 + 1, 4, none⟩ = some (.slice none 0 0) := by simp [World.cell?, hp7]
  have zf4 : w4.frozen? ⟨w.heap.size + 1 + 1, 4, none⟩ = false := by simp [World.frozen?, hp7]
  have y4 : w4.cell? ⟨w.heap.size + 1 + 1 + 1, 4, none⟩ = some (.slice none 0 0) := by simp [World.cell?, hq7]
  have yf4 : w4.frozen? ⟨w.heap.size + 1 + 1 + 1, 4, none⟩ = false := by simp [World.frozen?, hq7]
  have z5 : w4.cell? ⟨w.heap.size + 1 + 1, 5, none⟩ = some (.int .i64 0) := by simp [World.cell?, hp7]
  have zf5 : w4.frozen? ⟨w.heap.size + 1 + 1, 5, none⟩ = false := by simp [World.frozen?, hp7]
  have y5 : w4.cell? ⟨w.heap.size + 1 + 1 + 1, 5, none⟩ = some (.int .i64 0) := by simp [World.cell?, hq7]
  have yf5 : w4.frozen? ⟨w.heap.size + 1 + 1 + 1, 5, none⟩ = false := by simp [World.frozen?, hq7]
  have z6 : w4.cell? ⟨w.heap.size + 1 + 1, 6, none⟩ = some (.bool false) := by simp [World.cell?, hp7]
  have zf6 : w4.frozen? ⟨w.heap.size + 1 + 1, 6, none⟩ = false := by simp [World.frozen?, hp7]
  have y6 : w4.cell? ⟨w.heap.size + 1 + 1 + 1, 6, none⟩ = some (.int .i64 0) := by simp [World.cell?, hq7]
  have yf6 : w4.frozen? ⟨w.heap.size + 1 + 1 + 1, 6, none⟩ = false := by simp [World.frozen?, hq7]
  have H7 := hide hM4
  have HB7 := hide hb7
  have HS7 := hide hp7
  have HE7 := hide hq7
  have HSW := hide (show w.heap.size ≤ B.n by omega)
  clear hM4 hb7 hp7 hq7 hp3 hq3 hb3 hb4 hb34 hb03 C4 C3 j0 j1 j2 j3 j4 s0 s1 s2 s3 s4 s5 s6
  go_wp2_with fail
  clear z0 zf0 y0 yf0 z1 zf1 y1 yf1 z2 zf2 y2 yf2 z3 zf3 y3 yf3 z4 zf4 y4 yf4 z5 zf5 y5 yf5 z6 zf6 y6 yf6
  show bodyPostD _ _ _ Exit.ret _ ((w4.setCells (w.heap.size + 1 + 1) 0 [.int .i64 (fn' : Int), .int .i64 (pc' : Int), .int .i64 (fu' : Int), .slice sa4 sk'.length sc4, .slice la4 lo'.length lc4, .int .i64 kd', .bool wt']).setCells (w.heap.size + 1 + 1 + 1) 0 [.int .i64 ek', .int .i64 ef', .int .i64 ei', .int .i64 (es' : Int), .slice aa4 ar'.length ac4, .int .i64 er', .int .i64 ev'])
  obtain ⟨S, hS⟩ : ∃ S : List Value, S = [.int .i64 (fn' : Int), .int .i64 (pc' : Int), .int .i64 (fu' : Int), .slice sa4 sk'.length sc4, .slice la4 lo'.length lc4, .int .i64 kd', .bool wt'] := ⟨_, rfl⟩
  obtain ⟨E, hE⟩ : ∃ E : List Value, E = [.int .i64 ek', .int .i64 ef', .int .i64 ei', .int .i64 (es' : Int), .slice aa4 ar'.length ac4, .int .i64 er', .int .i64 ev'] := ⟨_, rfl⟩
  have lS : S.length = 7 := by rw [hS]; rfl
  have lE : E.length = 7 := by rw [hE]; rfl
  rw [← hS, ← hE]
  have he8 := (setCells_other (k := w.heap.size + 1 + 1 + 1) (b := w.heap.size + 1 + 1) (by omega) S 0 w4).trans HE7.out
  have HX1 := hide (show ((w4.setCells (w.heap.size + 1 + 1) 0 S).setCells (w.heap.size + 1 + 1 + 1) 0 E).heap[w.heap.size + 1 + 1]? = some (.cells S.toArray 29 (0, 0)) from by
    show ((w4.setCells (w.heap.size + 1 + 1) 0 S).setCells (w.heap.size + 1 + 1 + 1) 0 E).heap[w.heap.size + 1 + 1]? = _
    rw [setCells_other (k := w.heap.size + 1 + 1) (b := w.heap.size + 1 + 1 + 1) (by omega) E 0 _]
    exact setCells_row HS7.out (by rw [lS]; rfl))
  have HX2 := hide (show ((w4.setCells (w.heap.size + 1 + 1) 0 S).setCells (w.heap.size + 1 + 1 + 1) 0 E).heap[w.heap.size + 1 + 1 + 1]? = some (.cells E.toArray 37 (0, 0)) from setCells_row he8 (by rw [lE]; rfl))
  have HM9 := hide (H7.out.far (w' := ((w4.setCells (w.heap.size + 1 + 1) 0 S).setCells (w.heap.size + 1 + 1 + 1) 0 E)) (fun g c t ht hg => by
    rw [setCells_other (k := g) (b := w.heap.size + 1 + 1 + 1) (by intro e; rw [e, HE7.out] at hg; simp only [Option.some.injEq, Obj.cells.injEq] at hg; rcases ht with q | q | q <;> (rw [q] at hg; exact absurd hg.2.1 (by decide))) E 0 _, setCells_other (k := g) (b := w.heap.size + 1 + 1) (by intro e; rw [e, HS7.out] at hg; simp only [Option.some.injEq, Obj.cells.injEq] at hg; rcases ht with q | q | q <;> (rw [q] at hg; exact absurd hg.2.1 (by decide))) S 0 _]))
  have HB9 := hide (show Below w.heap.size w ((w4.setCells (w.heap.size + 1 + 1) 0 S).setCells (w.heap.size + 1 + 1 + 1) 0 E) from setCells_below (by omega) _ _ (setCells_below (by omega) _ _ HB7.out))
  generalize ((w4.setCells (w.heap.size + 1 + 1) 0 S).setCells (w.heap.size + 1 + 1 + 1) 0 E) = w9 at *
  clear he8 lS lE H7 HB7 HS7 HE7
  subst hS
  subst hE
  refine leaves_cons (f := 27) (args := #[.pointer (some ⟨w.heap.size, 0, none⟩), .pointer (some ⟨w.heap.size + 1, 0, none⟩), .pointer (some ⟨w.heap.size + 1 + 1, 0, none⟩), .pointer (some ⟨w.heap.size + 1 + 1 + 1, 0, none⟩)]) (by simp) (by simp [go_sem]) ?_
  refine (rune_idle (w.heap.size) (w.heap.size + 1) (w.heap.size + 1 + 1) (w.heap.size + 1 + 1 + 1) w9).mono ?_
  rintro e u' wz ⟨rfl, rfl, hbz⟩
  have x0 := cell_row (i := 0) (heap_row HX1.out hbz) rfl
  have v0 := cell_row (i := 0) (heap_row HX2.out hbz) rfl
  have x1 := cell_row (i := 1) (heap_row HX1.out hbz) rfl
  have v1 := cell_row (i := 1) (heap_row HX2.out hbz) rfl
  have x2 := cell_row (i := 2) (heap_row HX1.out hbz) rfl
  have v2 := cell_row (i := 2) (heap_row HX2.out hbz) rfl
  have x3 := cell_row (i := 3) (heap_row HX1.out hbz) rfl
  have v3 := cell_row (i := 3) (heap_row HX2.out hbz) rfl
  have x4 := cell_row (i := 4) (heap_row HX1.out hbz) rfl
  have v4 := cell_row (i := 4) (heap_row HX2.out hbz) rfl
  have x5 := cell_row (i := 5) (heap_row HX1.out hbz) rfl
  have v5 := cell_row (i := 5) (heap_row HX2.out hbz) rfl
  have x6 := cell_row (i := 6) (heap_row HX1.out hbz) rfl
  have v6 := cell_row (i := 6) (heap_row HX2.out hbz) rfl
  refine ⟨.tuple #[.agg #[.int .i64 (fn' : Int), .int .i64 (pc' : Int), .int .i64 (fu' : Int), .slice sa4 sk'.length sc4, .slice la4 lo'.length lc4, .int .i64 kd', .bool wt'], .agg #[.int .i64 ek', .int .i64 ef', .int .i64 ei', .int .i64 (es' : Int), .slice aa4 ar'.length ac4, .int .i64 er', .int .i64 ev']], ?_, ⟨_, m, _, _, _, rfl, HSW.out, HM9.out.below hbz, chain HB9.out hbz⟩⟩
  simp [results, Tryz.results10, go_sem, x0, v0, x1, v1, x2, v2, x3, v3, x4, v4, x5, v5, x6, v6]
theorem run_G (j : JV) (cs : List Value) (fs : List Fun) (args : List Int) (fn pc fu : Nat) (kd deep steps : Int) (wt : Bool) (sa la : Option Addr) (sc lc : Nat) (st lo : List Int) (D : List Int) (f : Fun) (q : PM × Option (Int × Int)) (n : Nat) (w : World) (hJ : JobR w j cs fs args) (hE : Env w) (hf : fs.length ≤ 9223372036854775807) (hs : ∀ f ∈ fs, f.code.length ≤ 9223372036854775807 ∧ f.name.size < 9223372036854775808)
    (hD : depsOf fs j.main args.length j.fuel j.tasks (fn : Int) = D) (hpc : D[pc]? = some (st.length : Int)) (hff : fs[fn]? = some f) (hlo : (lo.length : Int) = f.locals) (hkd : 0 ≤ kd ∧ kd ≤ 16) (hfu : (fu : Int) ≤ j.fuel) (hDl : D.length ≤ 9223372036854775807)
    (hrs : Reads w sa (iV st)) (hrl : Reads w la (iV lo)) (hsn : sa = none → st.length = 0 ∧ sc = 0) (hln : la = none → lo.length = 0 ∧ lc = 0) (h1 : st.length ≤ 100000) (h2 : lo.length ≤ 100000) (hls : st.length ≤ 10000) (hw : wt = true → ∃ k r x, f.code[pc]? = some (17, k) ∧ st = r ++ [x] ∧ hasB kd x = true)
    (hR : runW fs j.fuel deep steps n ⟨fn, pc, fu, st.reverse, lo, kd, wt, 0, 0, 0, 0, [], 0, 0⟩ = some q) :
    Calls Tryz.prog 10 #[.agg #[.slice j.fa j.nf j.fc, .int .i64 j.main, .slice j.aa j.na j.ac, .int .i64 j.fuel, .int .i64 j.tasks], .agg #[.int .i64 (fn : Int), .int .i64 (pc : Int), .int .i64 (fu : Int), .slice sa st.length sc, .slice la lo.length lc, .int .i64 kd, .bool wt], .int .i64 deep, .int .i64 steps] w (RunPost j w (finM q)) :=
  run_via j fn pc fu kd deep steps wt sa la st.length sc lo.length lc (finM q) w
    (fun W hb => may_yes2 j cs fs args fn pc (fu : Int) kd wt sa la sc lc st lo D f W (hJ.below hb) (hE.below hb) (hrs.below hb) hf hs hD hpc hff hlo hkd (by omega) hDl h1 hw)
    (fun W hb => run_K j cs fs args fn pc fu kd deep steps wt sa la sc lc st lo q n W (hJ.below hb) (hE.below hb) (hrs.below hb) (hrl.below hb) hsn hln h1 h2 hls hR)
end Go.Proofs.YtnkfdpnommjlcaaGreatDoor
