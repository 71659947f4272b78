/- Run, whatever it comes to. -/
import Derived.Test.YtnkfdpnommjlcaaGreatDoorAlive
import Derived.BigRegion
import Derived.Test.YtnkfdpnommjlcaaGreatDoorRunU
import Derived.Test.YtnkfdpnommjlcaaGreatDoorStpM
namespace Go.Proofs.YtnkfdpnommjlcaaGreatDoor
open Go.RowKit Go.ChangeShapes Go.WideShapes Go.ChangeAt Go.Deep

theorem four_blocks (w : World) (a b c d : Obj) : Below w.heap.size w ((((w.alloc a).alloc b).alloc c).alloc d) ∧ ((((w.alloc a).alloc b).alloc c).alloc d).heap.size = w.heap.size + 4 ∧ ((((w.alloc a).alloc b).alloc c).alloc d).heap[w.heap.size]? = some a ∧ ((((w.alloc a).alloc b).alloc c).alloc d).heap[w.heap.size + 1]? = some b ∧ ((((w.alloc a).alloc b).alloc c).alloc d).heap[w.heap.size + 1 + 1]? = some c ∧ ((((w.alloc a).alloc b).alloc c).alloc d).heap[w.heap.size + 1 + 1 + 1]? = some d := by
  refine ⟨((((Below.refl _ _).alloc (Nat.le_refl _) _).alloc (by simp) _).alloc (by simp <;> omega) _).alloc (by simp <;> omega) _, by simp, ?_, ?_, ?_, ?_⟩
  · rw [heap_alloc_old _ _ (by simp <;> omega), heap_alloc_old _ _ (by simp <;> omega), heap_alloc_old _ _ (by simp), heap_alloc_new]
  · rw [heap_alloc_old _ _ (by simp <;> omega), heap_alloc_old _ _ (by simp)]
    have := heap_alloc_new (w.alloc a) b
    simpa using this
  · rw [heap_alloc_old _ _ (by simp)]
    have := heap_alloc_new ((w.alloc a).alloc b) c
    simpa using this
  · have := heap_alloc_new (((w.alloc a).alloc b).alloc c) d
    simpa using this

def RunPost (j : JV) (w : World) (q : PM) (e : Ending) (w' : World) : Prop := ∃ B m sv lv av, e = .returned (.tuple #[(q.mc j sv lv av).stV, (q.mc j sv lv av).evV]) ∧ w.heap.size ≤ Bd.n B ∧ Mach B w' m (q.mc j sv lv av) q.sk.reverse q.lo q.ar ∧ Below w.heap.size w w'

set_option linter.unusedSimpArgs false in
set_option maxRecDepth 100000 in
set_option maxHeartbeats 4000000 in
theorem run_K (j : JV) (cs : List Value) (fs : List Fun) (args : List Int) (fn pc fu : Nat) (kd deep steps : Int) (wt : Bool) (sa la : Option Addr) (sc lc : Nat) (st lo : List Int) (q : PM × Option (Int × Int)) (n : Nat) (w : World) (hJ : JobR w j cs fs args) (hE : Env w)
    (hrs : Reads w sa (iV st)) (hrl : Reads w la (iV lo)) (hsn : sa = none → st.length = 0 ∧ sc = 0) (hln : la = none → lo.length = 0 ∧ lc = 0) (h1 : st.length ≤ 100000) (h2 : lo.length ≤ 100000) (hls : st.length ≤ 10000)
    (hR : runW fs j.fuel deep steps n ⟨fn, pc, fu, st.reverse, lo, kd, wt, 0, 0, 0, 0, [], 0, 0⟩ = some q) :
    Calls Tryz.prog 30 #[.agg #[.slice j.fa j.nf j.fc, .int .i64 j.main, .slice j.aa j.na j.ac, .int .i64 j.fuel, .int .i64 j.tasks], .agg #[.int .i64 (fn : Int), .int .i64 (pc : Int), .int .i64 (fu : Int), .slice sa st.length sc, .slice la lo.length lc, .int .i64 kd, .bool wt], .int .i64 deep, .int .i64 steps] w (RunPost j w (finM q)) := by
  have hmf : ∀ (fn : Fn) (first cap : Array Value) (w : World), (Instr.makeFunc fn first cap).run Tryz.prog w = .ok (.func fn first cap) w := fun _ _ _ _ => rfl
  obtain ⟨hb0, hsz, p1, p2, p3, p4⟩ := four_blocks w (.cells #[.slice j.fa j.nf j.fc, .int .i64 j.main, .slice j.aa j.na j.ac, .int .i64 j.fuel, .int .i64 j.tasks] 25) (.cells #[.int .i64 (fn : Int), .int .i64 (pc : Int), .int .i64 (fu : Int), .slice sa st.length sc, .slice la lo.length lc, .int .i64 kd, .bool wt] 29) (.cells #[.int .i64 0, .int .i64 0, .int .i64 0, .slice none 0 0, .slice none 0 0, .int .i64 0, .bool false] 29) (.cells #[.int .i64 0, .int .i64 0, .int .i64 0, .int .i64 0, .slice none 0 0, .int .i64 0, .int .i64 0] 37)
  have HP3 := hide p3
  have HP4 := hide p4
  have hJ0 := hJ.below hb0
  have hE0 := hE.below hb0
  have C1 := newMachine_any j (fn : Int) (pc : Int) (fu : Int) kd wt sa la sc lc st lo _ (hrs.below hb0) (hrl.below hb0) hsn hln h1 h2
  go_enter_defers Tryz.func30, Tryz.ntmps30
  go_upto_region 1 with fail
  generalize ((((w.alloc (.cells #[.slice j.fa j.nf j.fc, .int .i64 j.main, .slice j.aa j.na j.ac, .int .i64 j.fuel, .int .i64 j.tasks] 25)).alloc (.cells #[.int .i64 (fn : Int), .int .i64 (pc : Int), .int .i64 (fu : Int), .slice sa st.length sc, .slice la lo.length lc, .int .i64 kd, .bool wt] 29)).alloc (.cells #[.int .i64 0, .int .i64 0, .int .i64 0, .slice none 0 0, .slice none 0 0, .int .i64 0, .bool false] 29)).alloc (.cells #[.int .i64 0, .int .i64 0, .int .i64 0, .int .i64 0, .slice none 0 0, .int .i64 0, .int .i64 0] 37)) = w0 at *
  have HJ := hide (fun (W : World) (hb : Below w0.heap.size w0 W) => hJ0.below hb)
  have HR := hide hR
  have HB0 := hide hb0
  have HSW := hide hb0.size
  have HSZ := hide hsz
  have HJ0 := hide hJ0
  have HG0 := hide hE0.err
  have HLS := hide hls
  clear hJ hE hrs hrl hR hJ0 hE0 p3 p4 hb0 hsz hls
  have j0 : w0.cell? ⟨w.heap.size, 0, none⟩ = some (.slice j.fa j.nf j.fc) := by simp only [World.cell?, p1]; rfl
  have j1 : w0.cell? ⟨w.heap.size, 1, none⟩ = some (.int .i64 j.main) := by simp only [World.cell?, p1]; rfl
  have j2 : w0.cell? ⟨w.heap.size, 2, none⟩ = some (.slice j.aa j.na j.ac) := by simp only [World.cell?, p1]; rfl
  have j3 : w0.cell? ⟨w.heap.size, 3, none⟩ = some (.int .i64 j.fuel) := by simp only [World.cell?, p1]; rfl
  have j4 : w0.cell? ⟨w.heap.size, 4, none⟩ = some (.int .i64 j.tasks) := by simp only [World.cell?, p1]; rfl
  have s0 : w0.cell? ⟨w.heap.size + 1, 0, none⟩ = some (.int .i64 (fn : Int)) := by simp only [World.cell?, p2]; rfl
  have s1 : w0.cell? ⟨w.heap.size + 1, 1, none⟩ = some (.int .i64 (pc : Int)) := by simp only [World.cell?, p2]; rfl
  have s2 : w0.cell? ⟨w.heap.size + 1, 2, none⟩ = some (.int .i64 (fu : Int)) := by simp only [World.cell?, p2]; rfl
  have s3 : w0.cell? ⟨w.heap.size + 1, 3, none⟩ = some (.slice sa st.length sc) := by simp only [World.cell?, p2]; rfl
  have s4 : w0.cell? ⟨w.heap.size + 1, 4, none⟩ = some (.slice la lo.length lc) := by simp only [World.cell?, p2]; rfl
  have s5 : w0.cell? ⟨w.heap.size + 1, 5, none⟩ = some (.int .i64 kd) := by simp only [World.cell?, p2]; rfl
  have s6 : w0.cell? ⟨w.heap.size + 1, 6, none⟩ = some (.bool wt) := by simp only [World.cell?, p2]; rfl
  clear p1 p2
  go_wp2_with (go_at_call 28; go_must (with_reducible refine C1.mono ?_; (rintro e w1 ⟨m, sv, lv, rfl, hM1, hb1⟩); refine Hid.out ?_))
  refine Lib.hid ?_
  have hb2 := alloc_below w1 (.cells #[.pointer (some ⟨m, 0, none⟩)] 66)
  have hk2 := heap_alloc_new w1 (.cells #[.pointer (some ⟨m, 0, none⟩)] 66)
  clear C1
  go_upto_region 3 with fail
  generalize w1.alloc (.cells #[.pointer (some ⟨m, 0, none⟩)] 66) = w2 at hb2 hk2 ⊢
  have hM2 := (hM1.below hb2).box _ _ hk2
  have HL1 := hide hb1.size
  have hb02 : Below w0.heap.size w0 w2 := hb1.trans (hb2.mono hb1.size)
  replace j0 := keep_cell j0 hb02
  replace j1 := keep_cell j1 hb02
  replace j2 := keep_cell j2 hb02
  replace j3 := keep_cell j3 hb02
  replace j4 := keep_cell j4 hb02
  replace s0 := keep_cell s0 hb02
  replace s1 := keep_cell s1 hb02
  replace s2 := keep_cell s2 hb02
  replace s3 := keep_cell s3 hb02
  replace s4 := keep_cell s4 hb02
  replace s5 := keep_cell s5 hb02
  replace s6 := keep_cell s6 hb02
  clear hk2 hb1 hb2
  have hM3 := hM2
  have hb03 := hb02
  have k3 : w2.cell? ⟨w1.heap.size, 0, none⟩ = some (.pointer (some ⟨m, 0, none⟩)) := cell_row (cs := [.pointer (some ⟨m, 0, none⟩)]) (i := 0) (hM3.kept _ _ rfl) rfl
  have C4 := run_M (B := ⟨w0.heap.size, some (w1.heap.size, .pointer (some ⟨m, 0, none⟩))⟩) (w := w2) (m := m) (j := j) (s := ⟨fn, pc, fu, st.reverse, lo, kd, wt, 0, 0, 0, 0, [], 0, 0⟩) (deep := deep) (steps := steps) ⟨sv, lv, .slice none 0 0, by simpa [PM.mc] using hM3⟩ HJ0.out rfl hb03 n (by show st.reverse.length ≤ 10000; simp; exact HLS.out) HR.out
  clear j0 j1 j2 j3 j4 s0 s1 s2 s3 s4 s5 s6 hM2 hM1 hb02 hM3 HR HJ HJ0
  obtain ⟨q1, q2⟩ := q
  unfold UpPost at C4
  simp only at C4
  cases q2 with
  | some ev =>
    obtain ⟨xe, xv⟩ := ev
    simp only [upM, upF, failV] at C4
    go_wp2_with (first
      | (go_at_call 49; go_must (with_reducible refine C4.mono ?_; (rintro e w4 ⟨rfl, hA4, hb4⟩); refine Hid.out ?_)))
    refine Lib.hid ?_
    have hb04 : Below w0.heap.size w0 w4 := hb03.trans hb4
    obtain ⟨sv4, lv4, av4, hM4⟩ := hA4
    have hp7 := (hb04.block (w.heap.size + 1 + 1) (by rw [HSZ.out]; omega)).trans HP3.out
    have hq7 := (hb04.block (w.heap.size + 1 + 1 + 1) (by rw [HSZ.out]; omega)).trans HP4.out
    have hb7 : Below w.heap.size w w4 := HB0.out.trans (hb04.mono HB0.out.size)
    have hg4 := keep_cell HG0.out hb04
    clear k3 C4 hb03 hb4 hb04 HP3 HP4 HB0
    go_wp2_with fail
    refine leaves_cons (f := 48) (args := #[.pointer (some ⟨w1.heap.size, 0, none⟩), .pointer (some ⟨w.heap.size + 1 + 1, 0, none⟩), .pointer (some ⟨w.heap.size + 1 + 1 + 1, 0, none⟩)]) (by simp) (by simp [go_sem]) ?_
    refine (rund_up hM4 (w1.heap.size) (w.heap.size + 1 + 1) (w.heap.size + 1 + 1 + 1) rfl xe xv _ _ _ _ _ _ _ _ _ _ _ _ _ _ hp7 hq7 (by show _ < w0.heap.size; rw [HSZ.out]; omega) (by show _ < w0.heap.size; rw [HSZ.out]; omega) [] hg4 w.heap.size (by omega) (by omega)).mono ?_
    rintro e u' wz ⟨rfl, rfl, hMz, hSz, hEz, hbz⟩
    have x0 := cell_row (i := 0) hSz rfl
    have v0 := cell_row (i := 0) hEz rfl
    have x1 := cell_row (i := 1) hSz rfl
    have v1 := cell_row (i := 1) hEz rfl
    have x2 := cell_row (i := 2) hSz rfl
    have v2 := cell_row (i := 2) hEz rfl
    have x3 := cell_row (i := 3) hSz rfl
    have v3 := cell_row (i := 3) hEz rfl
    have x4 := cell_row (i := 4) hSz rfl
    have v4 := cell_row (i := 4) hEz rfl
    have x5 := cell_row (i := 5) hSz rfl
    have v5 := cell_row (i := 5) hEz rfl
    have x6 := cell_row (i := 6) hSz rfl
    have v6 := cell_row (i := 6) hEz rfl
    refine ⟨.tuple #[((finM (q1, some (xe, xv))).mc j sv4 lv4 av4).stV, ((finM (q1, some (xe, xv))).mc j sv4 lv4 av4).evV], ?_, ⟨_, m, sv4, lv4, av4, rfl, (show w.heap.size ≤ w0.heap.size by rw [HSZ.out]; omega), hMz, hb7.trans hbz⟩⟩
    simp [results, Tryz.results30, go_sem, x0, v0, x1, v1, x2, v2, x3, v3, x4, v4, x5, v5, x6, v6, finM, PM.mc, Mc.stV, Mc.evV]
  | none =>
    simp only [upM] at C4
    go_wp2_with (first
      | (go_at_call 49; go_must (with_reducible refine C4.mono ?_; (rintro e w4 ⟨rfl, hA4, hb4⟩); refine Hid.out ?_)))
    refine Lib.hid ?_
    have hb04 : Below w0.heap.size w0 w4 := hb03.trans hb4
    obtain ⟨sv4, lv4, av4, hM4⟩ := hA4
    have hp7 := (hb04.block (w.heap.size + 1 + 1) (by rw [HSZ.out]; omega)).trans HP3.out
    have hq7 := (hb04.block (w.heap.size + 1 + 1 + 1) (by rw [HSZ.out]; omega)).trans HP4.out
    have hb7 : Below w.heap.size w w4 := HB0.out.trans (hb04.mono HB0.out.size)
    have k4 : w4.cell? ⟨w1.heap.size, 0, none⟩ = some (.pointer (some ⟨m, 0, none⟩)) := cell_row (cs := [.pointer (some ⟨m, 0, none⟩)]) (i := 0) (hM4.kept _ _ rfl) rfl
    have hm4 : w0.heap.size ≤ m := hM4.bm
    have hl1 : w0.heap.size ≤ w1.heap.size := HL1.out
    rw [HSZ.out] at hm4 hl1
    have e1 : w1.heap.size ≠ w.heap.size + 1 + 1 := by omega
    have e2 : w1.heap.size ≠ w.heap.size + 1 + 1 + 1 := by omega
    have e3 : m ≠ w.heap.size + 1 + 1 := by omega
    have e4 : m ≠ w.heap.size + 1 + 1 + 1 := by omega
    have e5 := e1.symm
    have e6 := e2.symm
    have e7 := e3.symm
    have e8 := e4.symm
    clear hm4 hl1 HL1
    clear k3 C4 hb03 hb4 hb04 HP3 HP4 HB0 HSZ
    obtain ⟨fn', pc', fu', sk', lo', kd', wt', ek', ef', ei', es', ar', er', ev'⟩ := q1
    simp only [PM.mc] at hM4
    obtain ⟨sa4, sc4, rfl, _⟩ := slice_form (n := sk'.length) hM4.own (by simp)
    obtain ⟨la4, lc4, rfl, _⟩ := slice_form hM4.loc rfl
    obtain ⟨aa4, ac4, rfl, _⟩ := slice_form hM4.arg rfl
    have cs' := fun i u hu => hM4.cell i u hu
    have c0 := cs' 0 _ rfl
    have c1 := cs' 1 _ rfl
    have c2 := cs' 2 _ rfl
    have c3 := cs' 3 _ rfl
    have c4 := cs' 4 _ rfl
    have c5 := cs' 5 _ rfl
    have c6 := cs' 6 _ rfl
    have c12 := cs' 12 _ rfl
    have c13 := cs' 13 _ rfl
    have c14 := cs' 14 _ rfl
    have c15 := cs' 15 _ rfl
    have c16 := cs' 16 _ rfl
    have c17 := cs' 17 _ rfl
    have c18 := cs' 18 _ rfl
    have z0 : w4.cell? ⟨w.heap.size + 1 + 1, 0, none⟩ = some (.int .i64 0) := by simp [World.cell?, hp7]
    have zf0 : w4.frozen? ⟨w.heap.size + 1 + 1, 0, none⟩ = false := by simp [World.frozen?, hp7]
    have y0 : w4.cell? ⟨w.heap.size + 1 + 1 + 1, 0, none⟩ = some (.int .i64 0) := by simp [World.cell?, hq7]
    have yf0 : w4.frozen? ⟨w.heap.size + 1 + 1 + 1, 0, none⟩ = false := by simp [World.frozen?, hq7]
    have z1 : w4.cell? ⟨w.heap.size + 1 + 1, 1, none⟩ = some (.int .i64 0) := by simp [World.cell?, hp7]
    have zf1 : w4.frozen? ⟨w.heap.size + 1 + 1, 1, none⟩ = false := by simp [World.frozen?, hp7]
    have y1 : w4.cell? ⟨w.heap.size + 1 + 1 + 1, 1, none⟩ = some (.int .i64 0) := by simp [World.cell?, hq7]
    have yf1 : w4.frozen? ⟨w.heap.size + 1 + 1 + 1, 1, none⟩ = false := by simp [World.frozen?, hq7]
    have z2 : w4.cell? ⟨w.heap.size + 1 + 1, 2, none⟩ = some (.int .i64 0) := by simp [World.cell?, hp7]
    have zf2 : w4.frozen? ⟨w.heap.size + 1 + 1, 2, none⟩ = false := by simp [World.frozen?, hp7]
    have y2 : w4.cell? ⟨w.heap.size + 1 + 1 + 1, 2, none⟩ = some (.int .i64 0) := by simp [World.cell?, hq7]
    have yf2 : w4.frozen? ⟨w.heap.size + 1 + 1 + 1, 2, none⟩ = false := by simp [World.frozen?, hq7]
    have z3 : w4.cell? ⟨w.heap.size + 1 + 1, 3, none⟩ = some (.slice none 0 0) := by simp [World.cell?, hp7]
    have zf3 : w4.frozen? ⟨w.heap.size + 1 + 1, 3, none⟩ = false := by simp [World.frozen?, hp7]
    have y3 : w4.cell? ⟨w.heap.size + 1 + 1 + 1, 3, none⟩ = some (.int .i64 0) := by simp [World.cell?, hq7]
    have yf3 : w4.frozen? ⟨w.heap.size + 1 + 1 + 1, 3, none⟩ = false := by simp [World.frozen?, hq7]
    have z4 : w4.cell? ⟨w.heap.size + 1 + 1, 4, none⟩ = some (.slice none 0 0) := by simp [World.cell?, hp7]
    have zf4 : w4.frozen? ⟨w.heap.size + 1 + 1, 4, none⟩ = false := by simp [World.frozen?, hp7]
    have y4 : w4.cell? ⟨w.heap.size + 1 + 1 + 1, 4, none⟩ = some (.slice none 0 0) := by simp [World.cell?, hq7]
    have yf4 : w4.frozen? ⟨w.heap.size + 1 + 1 + 1, 4, none⟩ = false := by simp [World.frozen?, hq7]
    have z5 : w4.cell? ⟨w.heap.size + 1 + 1, 5, none⟩ = some (.int .i64 0) := by simp [World.cell?, hp7]
    have zf5 : w4.frozen? ⟨w.heap.size + 1 + 1, 5, none⟩ = false := by simp [World.frozen?, hp7]
    have y5 : w4.cell? ⟨w.heap.size + 1 + 1 + 1, 5, none⟩ = some (.int .i64 0) := by simp [World.cell?, hq7]
    have yf5 : w4.frozen? ⟨w.heap.size + 1 + 1 + 1, 5, none⟩ = false := by simp [World.frozen?, hq7]
    have z6 : w4.cell? ⟨w.heap.size + 1 + 1, 6, none⟩ = some (.bool false) := by simp [World.cell?, hp7]
    have zf6 : w4.frozen? ⟨w.heap.size + 1 + 1, 6, none⟩ = false := by simp [World.frozen?, hp7]
    have y6 : w4.cell? ⟨w.heap.size + 1 + 1 + 1, 6, none⟩ = some (.int .i64 0) := by simp [World.cell?, hq7]
    have yf6 : w4.frozen? ⟨w.heap.size + 1 + 1 + 1, 6, none⟩ = false := by simp [World.frozen?, hq7]
    clear cs'
    have H7 := hide hM4
    have HB7 := hide hb7
    have HS7 := hide hp7
    have HE7 := hide hq7
    clear hM4 hb7 hp7 hq7
    go_wp2_with fail
    go_big_region
    clear z0 zf0 y0 yf0 z1 zf1 y1 yf1 z2 zf2 y2 yf2 z3 zf3 y3 yf3 z4 zf4 y4 yf4 z5 zf5 y5 yf5 z6 zf6 y6 yf6 c0 c1 c2 c3 c4 c5 c6 c12 c13 c14 c15 c16 c17 c18
    show Exit.then _ _ Exit.normal _ (((w4.setCells (w.heap.size + 1 + 1) 0 [.int .i64 (fn' : Int), .int .i64 (pc' : Int), .int .i64 (fu' : Int), .slice sa4 sk'.length sc4, .slice la4 lo'.length lc4, .int .i64 kd', .bool wt']).setCells (w.heap.size + 1 + 1 + 1) 0 [.int .i64 ek', .int .i64 ef', .int .i64 ei', .int .i64 (es' : Int), .slice aa4 ar'.length ac4, .int .i64 er', .int .i64 ev']).drew)
    obtain ⟨S, hS⟩ : ∃ S : List Value, S = [.int .i64 (fn' : Int), .int .i64 (pc' : Int), .int .i64 (fu' : Int), .slice sa4 sk'.length sc4, .slice la4 lo'.length lc4, .int .i64 kd', .bool wt'] := ⟨_, rfl⟩
    obtain ⟨E, hE⟩ : ∃ E : List Value, E = [.int .i64 ek', .int .i64 ef', .int .i64 ei', .int .i64 (es' : Int), .slice aa4 ar'.length ac4, .int .i64 er', .int .i64 ev'] := ⟨_, rfl⟩
    have lS : S.length = 7 := by rw [hS]; rfl
    have lE : E.length = 7 := by rw [hE]; rfl
    rw [← hS, ← hE]
    have he8 := (setCells_other (k := w.heap.size + 1 + 1 + 1) (b := w.heap.size + 1 + 1) (by omega) S 0 w4).trans HE7.out
    have HX1 := hide (show (((w4.setCells (w.heap.size + 1 + 1) 0 S).setCells (w.heap.size + 1 + 1 + 1) 0 E).drew).heap[w.heap.size + 1 + 1]? = some (.cells S.toArray 29 (0, 0)) from by
      show ((w4.setCells (w.heap.size + 1 + 1) 0 S).setCells (w.heap.size + 1 + 1 + 1) 0 E).heap[w.heap.size + 1 + 1]? = _
      rw [setCells_other (k := w.heap.size + 1 + 1) (b := w.heap.size + 1 + 1 + 1) (by omega) E 0 _]
      exact setCells_row HS7.out (by rw [lS]; rfl))
    have HX2 := hide (show (((w4.setCells (w.heap.size + 1 + 1) 0 S).setCells (w.heap.size + 1 + 1 + 1) 0 E).drew).heap[w.heap.size + 1 + 1 + 1]? = some (.cells E.toArray 37 (0, 0)) from setCells_row he8 (by rw [lE]; rfl))
    have HM9 := hide ((H7.out.far (w' := ((w4.setCells (w.heap.size + 1 + 1) 0 S).setCells (w.heap.size + 1 + 1 + 1) 0 E)) (fun g c t ht hg => by
      rw [setCells_other (k := g) (b := w.heap.size + 1 + 1 + 1) (by intro e; rw [e, HE7.out] at hg; simp only [Option.some.injEq, Obj.cells.injEq] at hg; rcases ht with q | q | q <;> (rw [q] at hg; exact absurd hg.2.1 (by decide))) E 0 _, setCells_other (k := g) (b := w.heap.size + 1 + 1) (by intro e; rw [e, HS7.out] at hg; simp only [Option.some.injEq, Obj.cells.injEq] at hg; rcases ht with q | q | q <;> (rw [q] at hg; exact absurd hg.2.1 (by decide))) S 0 _])).below ((Below.refl _ _).drew))
    have HB9 := hide (show Below w.heap.size w (((w4.setCells (w.heap.size + 1 + 1) 0 S).setCells (w.heap.size + 1 + 1 + 1) 0 E).drew) from (setCells_below (by omega) _ _ (setCells_below (by omega) _ _ HB7.out)).drew)
    generalize ((w4.setCells (w.heap.size + 1 + 1) 0 S).setCells (w.heap.size + 1 + 1 + 1) 0 E).drew = w9 at *
    clear he8 lS lE H7 HB7 HS7 HE7
    subst hS
    subst hE
    go_wp2_with fail
    refine leaves_cons (f := 48) (args := #[.pointer (some ⟨w1.heap.size, 0, none⟩), .pointer (some ⟨w.heap.size + 1 + 1, 0, none⟩), .pointer (some ⟨w.heap.size + 1 + 1 + 1, 0, none⟩)]) (by simp) (by simp [go_sem]) ?_
    refine (rund_idle (w1.heap.size) (w.heap.size + 1 + 1) (w.heap.size + 1 + 1 + 1) w9).mono ?_
    rintro e u' wz ⟨rfl, rfl, hbz⟩
    have x0 := cell_row (i := 0) (heap_row HX1.out hbz) rfl
    have v0 := cell_row (i := 0) (heap_row HX2.out hbz) rfl
    have x1 := cell_row (i := 1) (heap_row HX1.out hbz) rfl
    have v1 := cell_row (i := 1) (heap_row HX2.out hbz) rfl
    have x2 := cell_row (i := 2) (heap_row HX1.out hbz) rfl
    have v2 := cell_row (i := 2) (heap_row HX2.out hbz) rfl
    have x3 := cell_row (i := 3) (heap_row HX1.out hbz) rfl
    have v3 := cell_row (i := 3) (heap_row HX2.out hbz) rfl
    have x4 := cell_row (i := 4) (heap_row HX1.out hbz) rfl
    have v4 := cell_row (i := 4) (heap_row HX2.out hbz) rfl
    have x5 := cell_row (i := 5) (heap_row HX1.out hbz) rfl
    have v5 := cell_row (i := 5) (heap_row HX2.out hbz) rfl
    have x6 := cell_row (i := 6) (heap_row HX1.out hbz) rfl
    have v6 := cell_row (i := 6) (heap_row HX2.out hbz) rfl
    refine ⟨.tuple #[.agg #[.int .i64 (fn' : Int), .int .i64 (pc' : Int), .int .i64 (fu' : Int), .slice sa4 sk'.length sc4, .slice la4 lo'.length lc4, .int .i64 kd', .bool wt'], .agg #[.int .i64 ek', .int .i64 ef', .int .i64 ei', .int .i64 (es' : Int), .slice aa4 ar'.length ac4, .int .i64 er', .int .i64 ev']], ?_, ⟨_, m, _, _, _, rfl, HSW.out, HM9.out.below hbz, chain HB9.out hbz⟩⟩
    simp [results, Tryz.results30, go_sem, x0, v0, x1, v1, x2, v2, x3, v3, x4, v4, x5, v5, x6, v6]
end Go.Proofs.YtnkfdpnommjlcaaGreatDoor
