/- Begin, of a function of no arguments. -/
import Derived.Test.YtnkfdpnommjlcaaGreatDoorMade
import Derived.Laws.CopyOwn
import Derived.Test.YtnkfdpnommjlcaaGreatDoorAlive
import Derived.Test.YtnkfdpnommjlcaaGreatDoorTallW
import Derived.Test.YtnkfdpnommjlcaaGreatDoorRunG
import Derived.Test.YtnkfdpnommjlcaaGreatDoorBegX
namespace Go.Proofs.YtnkfdpnommjlcaaGreatDoor
open Go.RowKit Go.ChangeShapes Go.WideShapes Go.ChangeAt Go.Deep

set_option maxHeartbeats 2000000 in
set_option maxRecDepth 100000 in
theorem locals_none (n : Nat) (hn : n ≤ 1000000000) (w : World) : Calls Tryz.prog 26 #[.int .i64 (n : Int), .slice none 0 0] w fun e w' => e = .returned (.slice (some ⟨w.heap.size, 0, none⟩) n n) ∧ w' = w.alloc (.cells (iV (List.replicate n 0)).toArray 3) := by
  have hmk := mk_ints n hn
  have hcp := fun (b : Nat) (w : World) => run_copy_none (P := Tryz.prog) w 23 23 3 3 (some ⟨b, 0, none⟩) none n n 0 0 Tryz.underlying23 (by kernel_rfl) (by simp)
  go_enter Tryz.func26, Tryz.ntmps26
  go_wp2_with fail
  go_ret
  exact ⟨rfl, rfl⟩

set_option linter.unusedSimpArgs false in
set_option maxRecDepth 100000 in
set_option maxHeartbeats 4000000 in
theorem begin_zero (j : JV) (cs : List Value) (fs : List Fun) (args : List Int) (fn : Nat) (f : Fun) (n : Nat) (w : World) (hJ : JobR w j cs fs args) (hE : Env w) (hf : fs.length ≤ 9223372036854775807) (hs : ∀ f ∈ fs, f.code.length ≤ 9223372036854775807 ∧ f.name.size < 9223372036854775808)
    (hC : (checkL fs j.main args.length j.fuel j.tasks).2.2 = 0) (hff : fs[fn]? = some f) (ha : f.args = 0) (hn : f.locals = (n : Int)) (hnl : n ≤ 1000000000) :
    Calls Tryz.prog 8 #[.agg #[.slice j.fa j.nf j.fc, .int .i64 j.main, .slice j.aa j.na j.ac, .int .i64 j.fuel, .int .i64 j.tasks], .int .i64 (fn : Int), .slice none 0 0] w fun e w' => ∃ b, e = .returned (.tuple #[.agg #[.int .i64 (fn : Int), .int .i64 0, .int .i64 0, .slice none 0 0, .slice (some ⟨b, 0, none⟩) n n, .int .i64 0, .bool false], .int .i64 0]) ∧ w'.heap[b]? = some (.cells (iV (List.replicate n 0)).toArray 3 (0, 0)) ∧ Below w.heap.size w w' := by
  have hmf : ∀ (fn : Fn) (first cap : Array Value) (w : World), (Instr.makeFunc fn first cap).run Tryz.prog w = .ok (.func fn first cap) w := fun _ _ _ _ => rfl
  obtain ⟨hb0, hsz, p1, p3, p4⟩ := three_blocks w (.cells #[.slice j.fa j.nf j.fc, .int .i64 j.main, .slice j.aa j.na j.ac, .int .i64 j.fuel, .int .i64 j.tasks] 25) (.cells #[.int .i64 0, .int .i64 0, .int .i64 0, .slice none 0 0, .slice none 0 0, .int .i64 0, .bool false] 29) (.cells #[.int .i64 0] 30)
  have C1 := check_any j cs fs args _ (hJ.below hb0) (hE.below hb0) hf hs
  unfold CheckPost at C1
  rw [hC] at C1
  simp only [JV.cells] at C1
  have hfl : fn < fs.length := (List.getElem?_eq_some_iff.1 hff).1
  have hfe : fs[fn] = f := (List.getElem?_eq_some_iff.1 hff).2
  have HFE := hide hfe
  have HHA := hide ha
  have HHN := hide hn
  clear hfe ha hn hff
  have hJ0 := hJ.below hb0
  have HNF := hide hJ.nf
  go_enter_defers Tryz.func8, Tryz.ntmps8
  go_upto_region 2 with fail
  generalize (((w.alloc (.cells #[.slice j.fa j.nf j.fc, .int .i64 j.main, .slice j.aa j.na j.ac, .int .i64 j.fuel, .int .i64 j.tasks] 25)).alloc (.cells #[.int .i64 0, .int .i64 0, .int .i64 0, .slice none 0 0, .slice none 0 0, .int .i64 0, .bool false] 29)).alloc (.cells #[.int .i64 0] 30)) = w0 at *
  have j0 : w0.cell? ⟨w.heap.size, 0, none⟩ = some (.slice j.fa j.nf j.fc) := by simp only [World.cell?, p1]; rfl
  have j1 : w0.cell? ⟨w.heap.size, 1, none⟩ = some (.int .i64 j.main) := by simp only [World.cell?, p1]; rfl
  have j2 : w0.cell? ⟨w.heap.size, 2, none⟩ = some (.slice j.aa j.na j.ac) := by simp only [World.cell?, p1]; rfl
  have j3 : w0.cell? ⟨w.heap.size, 3, none⟩ = some (.int .i64 j.fuel) := by simp only [World.cell?, p1]; rfl
  have j4 : w0.cell? ⟨w.heap.size, 4, none⟩ = some (.int .i64 j.tasks) := by simp only [World.cell?, p1]; rfl
  have HB0 := hide hb0
  have HP3 := hide p3
  have HP4 := hide p4
  have HJ0 := hide hJ0
  clear hJ hE hs hb0 p1 p3 p4 hJ0 hC
  go_wp2_with (go_at_call 23; go_must (with_reducible refine C1.mono ?_; (rintro e w1 ⟨rfl, hb1⟩); refine Hid.out ?_))
  refine Lib.hid ?_
  clear C1
  have hb01 := hb1
  replace j0 := keep_cell j0 hb1
  obtain ⟨fb, off, ca, cc, ef, y0, y1, y2, y3, _, _⟩ := JobR.fun_at (HJ0.out.below hb1) hfl
  rw [HFE.out] at y0 y1 y2 y3
  rw [HHA.out] at y1
  rw [HHN.out] at y2
  have hkn : (fn : Int) < (j.nf : Int) := by rw [HNF.out]; omega
  have T1 := fun w => thas_any (j.nf : Int) (fn : Int) (by rw [HNF.out]; omega) w
  have hq : hasB (j.nf : Int) (fn : Int) = true := by simp [hasB, inB]; omega
  rw [hq] at T1
  rw [ef] at j0
  have C3 := fun (e : Int) W => tneed_yes e W
  clear j1 j2 j3 j4 hb1
  have C4 := fun W => locals_none n hnl W
  clear hq
  go_wp2_with (first
    | (go_at_call 24; go_must (with_reducible refine (C3 _ _).mono ?_; (rintro e w3' ⟨rfl, rfl⟩); refine Hid.out ?_)))
  refine Lib.hid ?_
  go_wp2_with (first
    | (go_at_call 25; go_must (with_reducible refine (T1 _).mono ?_; (rintro e w3' ⟨rfl, rfl⟩); refine Hid.out ?_)))
  refine Lib.hid ?_
  go_wp2_with (first
    | (go_at_call 24; go_must (with_reducible refine (C3 _ _).mono ?_; (rintro e w3' ⟨rfl, rfl⟩); refine Hid.out ?_)))
  refine Lib.hid ?_
  go_wp2_with (first
    | (go_at_call 24; go_must (with_reducible refine (C3 _ _).mono ?_; (rintro e w3' ⟨rfl, rfl⟩); refine Hid.out ?_)))
  refine Lib.hid ?_
  go_wp2_with (first
    | (go_at_call 26; go_must (with_reducible refine (C4 _).mono ?_; (rintro e w3' ⟨rfl, rfl⟩); refine Hid.out ?_)))
  refine Lib.hid ?_
  have hb5 : Below w0.heap.size w0 (w3'.alloc (.cells (iV (List.replicate n 0)).toArray 3)) := hb01.alloc hb01.size _
  have q3 := heap_alloc_new w3' (.cells (iV (List.replicate n 0)).toArray 3)
  have hbw := HB0.out.trans (hb5.mono HB0.out.size)
  have q1 := (hb5.block (w.heap.size + 1) (by rw [hsz]; omega)).trans HP3.out
  have q2 := (hb5.block (w.heap.size + 1 + 1) (by rw [hsz]; omega)).trans HP4.out
  have hlt3 : w.heap.size + 3 ≤ w3'.heap.size := by have := hb01.size; omega
  generalize w3'.alloc (.cells (iV (List.replicate n 0)).toArray 3) = w5 at q3 hbw q1 q2 ⊢
  generalize w3'.heap.size = b at q3 hlt3 ⊢
  have z0 : w5.cell? ⟨w.heap.size + 1, 0, none⟩ = some (.int .i64 0) := by simp [World.cell?, q1]
  have zf0 : w5.frozen? ⟨w.heap.size + 1, 0, none⟩ = false := by simp [World.frozen?, q1]
  have z1 : w5.cell? ⟨w.heap.size + 1, 1, none⟩ = some (.int .i64 0) := by simp [World.cell?, q1]
  have zf1 : w5.frozen? ⟨w.heap.size + 1, 1, none⟩ = false := by simp [World.frozen?, q1]
  have z2 : w5.cell? ⟨w.heap.size + 1, 2, none⟩ = some (.int .i64 0) := by simp [World.cell?, q1]
  have zf2 : w5.frozen? ⟨w.heap.size + 1, 2, none⟩ = false := by simp [World.frozen?, q1]
  have z3 : w5.cell? ⟨w.heap.size + 1, 3, none⟩ = some (.slice none 0 0) := by simp [World.cell?, q1]
  have zf3 : w5.frozen? ⟨w.heap.size + 1, 3, none⟩ = false := by simp [World.frozen?, q1]
  have z4 : w5.cell? ⟨w.heap.size + 1, 4, none⟩ = some (.slice none 0 0) := by simp [World.cell?, q1]
  have zf4 : w5.frozen? ⟨w.heap.size + 1, 4, none⟩ = false := by simp [World.frozen?, q1]
  have z5 : w5.cell? ⟨w.heap.size + 1, 5, none⟩ = some (.int .i64 0) := by simp [World.cell?, q1]
  have zf5 : w5.frozen? ⟨w.heap.size + 1, 5, none⟩ = false := by simp [World.frozen?, q1]
  have z6 : w5.cell? ⟨w.heap.size + 1, 6, none⟩ = some (.bool false) := by simp [World.cell?, q1]
  have zf6 : w5.frozen? ⟨w.heap.size + 1, 6, none⟩ = false := by simp [World.frozen?, q1]
  have y0' : w5.cell? ⟨w.heap.size + 1 + 1, 0, none⟩ = some (.int .i64 0) := by simp [World.cell?, q2]
  have yf0 : w5.frozen? ⟨w.heap.size + 1 + 1, 0, none⟩ = false := by simp [World.frozen?, q2]
  have HQ1 := hide q1
  have HQ2 := hide q2
  have HQ3 := hide q3
  clear q1 q2 q3 T1 C3 C4 y0 y1 y2 y3 j0 hsz HB0 hb01 hb5
  go_wp2_with fail
  have x0 : ((((((((((w5.setCell ⟨w.heap.size + 1, 0, none⟩ (.int .i64 0)).setCell ⟨w.heap.size + 1, 1, none⟩ (.int .i64 0)).setCell ⟨w.heap.size + 1, 2, none⟩ (.int .i64 0)).setCell ⟨w.heap.size + 1, 3, none⟩ (.slice none 0 0)).setCell ⟨w.heap.size + 1, 4, none⟩ (.slice none 0 0)).setCell ⟨w.heap.size + 1, 5, none⟩ (.int .i64 0)).setCell ⟨w.heap.size + 1, 6, none⟩ (.bool false)).setCell ⟨w.heap.size + 1, 0, none⟩ (.int .i64 (fn : Int))).setCell ⟨w.heap.size + 1, 4, none⟩ (.slice (some ⟨b, 0, none⟩) n n)).setCell ⟨w.heap.size + 1 + 1, 0, none⟩ (.int .i64 0)).cell? ⟨w.heap.size + 1, 0, none⟩ = some (.int .i64 (fn : Int)) := by go_simp
  have x1 : ((((((((((w5.setCell ⟨w.heap.size + 1, 0, none⟩ (.int .i64 0)).setCell ⟨w.heap.size + 1, 1, none⟩ (.int .i64 0)).setCell ⟨w.heap.size + 1, 2, none⟩ (.int .i64 0)).setCell ⟨w.heap.size + 1, 3, none⟩ (.slice none 0 0)).setCell ⟨w.heap.size + 1, 4, none⟩ (.slice none 0 0)).setCell ⟨w.heap.size + 1, 5, none⟩ (.int .i64 0)).setCell ⟨w.heap.size + 1, 6, none⟩ (.bool false)).setCell ⟨w.heap.size + 1, 0, none⟩ (.int .i64 (fn : Int))).setCell ⟨w.heap.size + 1, 4, none⟩ (.slice (some ⟨b, 0, none⟩) n n)).setCell ⟨w.heap.size + 1 + 1, 0, none⟩ (.int .i64 0)).cell? ⟨w.heap.size + 1, 1, none⟩ = some (.int .i64 0) := by go_simp
  have x2 : ((((((((((w5.setCell ⟨w.heap.size + 1, 0, none⟩ (.int .i64 0)).setCell ⟨w.heap.size + 1, 1, none⟩ (.int .i64 0)).setCell ⟨w.heap.size + 1, 2, none⟩ (.int .i64 0)).setCell ⟨w.heap.size + 1, 3, none⟩ (.slice none 0 0)).setCell ⟨w.heap.size + 1, 4, none⟩ (.slice none 0 0)).setCell ⟨w.heap.size + 1, 5, none⟩ (.int .i64 0)).setCell ⟨w.heap.size + 1, 6, none⟩ (.bool false)).setCell ⟨w.heap.size + 1, 0, none⟩ (.int .i64 (fn : Int))).setCell ⟨w.heap.size + 1, 4, none⟩ (.slice (some ⟨b, 0, none⟩) n n)).setCell ⟨w.heap.size + 1 + 1, 0, none⟩ (.int .i64 0)).cell? ⟨w.heap.size + 1, 2, none⟩ = some (.int .i64 0) := by go_simp
  have x3 : ((((((((((w5.setCell ⟨w.heap.size + 1, 0, none⟩ (.int .i64 0)).setCell ⟨w.heap.size + 1, 1, none⟩ (.int .i64 0)).setCell ⟨w.heap.size + 1, 2, none⟩ (.int .i64 0)).setCell ⟨w.heap.size + 1, 3, none⟩ (.slice none 0 0)).setCell ⟨w.heap.size + 1, 4, none⟩ (.slice none 0 0)).setCell ⟨w.heap.size + 1, 5, none⟩ (.int .i64 0)).setCell ⟨w.heap.size + 1, 6, none⟩ (.bool false)).setCell ⟨w.heap.size + 1, 0, none⟩ (.int .i64 (fn : Int))).setCell ⟨w.heap.size + 1, 4, none⟩ (.slice (some ⟨b, 0, none⟩) n n)).setCell ⟨w.heap.size + 1 + 1, 0, none⟩ (.int .i64 0)).cell? ⟨w.heap.size + 1, 3, none⟩ = some (.slice none 0 0) := by go_simp
  have x4a : ((((((((w5.setCell ⟨w.heap.size + 1, 0, none⟩ (.int .i64 0)).setCell ⟨w.heap.size + 1, 1, none⟩ (.int .i64 0)).setCell ⟨w.heap.size + 1, 2, none⟩ (.int .i64 0)).setCell ⟨w.heap.size + 1, 3, none⟩ (.slice none 0 0)).setCell ⟨w.heap.size + 1, 4, none⟩ (.slice none 0 0)).setCell ⟨w.heap.size + 1, 5, none⟩ (.int .i64 0)).setCell ⟨w.heap.size + 1, 6, none⟩ (.bool false)).setCell ⟨w.heap.size + 1, 0, none⟩ (.int .i64 (fn : Int))).cell? ⟨w.heap.size + 1, 4, none⟩ = some (.slice none 0 0) := by go_simp
  have x4 : ((((((((((w5.setCell ⟨w.heap.size + 1, 0, none⟩ (.int .i64 0)).setCell ⟨w.heap.size + 1, 1, none⟩ (.int .i64 0)).setCell ⟨w.heap.size + 1, 2, none⟩ (.int .i64 0)).setCell ⟨w.heap.size + 1, 3, none⟩ (.slice none 0 0)).setCell ⟨w.heap.size + 1, 4, none⟩ (.slice none 0 0)).setCell ⟨w.heap.size + 1, 5, none⟩ (.int .i64 0)).setCell ⟨w.heap.size + 1, 6, none⟩ (.bool false)).setCell ⟨w.heap.size + 1, 0, none⟩ (.int .i64 (fn : Int))).setCell ⟨w.heap.size + 1, 4, none⟩ (.slice (some ⟨b, 0, none⟩) n n)).setCell ⟨w.heap.size + 1 + 1, 0, none⟩ (.int .i64 0)).cell? ⟨w.heap.size + 1, 4, none⟩ = some (.slice (some ⟨b, 0, none⟩) n n) := by go_simp
  have x5 : ((((((((((w5.setCell ⟨w.heap.size + 1, 0, none⟩ (.int .i64 0)).setCell ⟨w.heap.size + 1, 1, none⟩ (.int .i64 0)).setCell ⟨w.heap.size + 1, 2, none⟩ (.int .i64 0)).setCell ⟨w.heap.size + 1, 3, none⟩ (.slice none 0 0)).setCell ⟨w.heap.size + 1, 4, none⟩ (.slice none 0 0)).setCell ⟨w.heap.size + 1, 5, none⟩ (.int .i64 0)).setCell ⟨w.heap.size + 1, 6, none⟩ (.bool false)).setCell ⟨w.heap.size + 1, 0, none⟩ (.int .i64 (fn : Int))).setCell ⟨w.heap.size + 1, 4, none⟩ (.slice (some ⟨b, 0, none⟩) n n)).setCell ⟨w.heap.size + 1 + 1, 0, none⟩ (.int .i64 0)).cell? ⟨w.heap.size + 1, 5, none⟩ = some (.int .i64 0) := by go_simp
  have x6 : ((((((((((w5.setCell ⟨w.heap.size + 1, 0, none⟩ (.int .i64 0)).setCell ⟨w.heap.size + 1, 1, none⟩ (.int .i64 0)).setCell ⟨w.heap.size + 1, 2, none⟩ (.int .i64 0)).setCell ⟨w.heap.size + 1, 3, none⟩ (.slice none 0 0)).setCell ⟨w.heap.size + 1, 4, none⟩ (.slice none 0 0)).setCell ⟨w.heap.size + 1, 5, none⟩ (.int .i64 0)).setCell ⟨w.heap.size + 1, 6, none⟩ (.bool false)).setCell ⟨w.heap.size + 1, 0, none⟩ (.int .i64 (fn : Int))).setCell ⟨w.heap.size + 1, 4, none⟩ (.slice (some ⟨b, 0, none⟩) n n)).setCell ⟨w.heap.size + 1 + 1, 0, none⟩ (.int .i64 0)).cell? ⟨w.heap.size + 1, 6, none⟩ = some (.bool false) := by go_simp
  have v0 : ((((((((((w5.setCell ⟨w.heap.size + 1, 0, none⟩ (.int .i64 0)).setCell ⟨w.heap.size + 1, 1, none⟩ (.int .i64 0)).setCell ⟨w.heap.size + 1, 2, none⟩ (.int .i64 0)).setCell ⟨w.heap.size + 1, 3, none⟩ (.slice none 0 0)).setCell ⟨w.heap.size + 1, 4, none⟩ (.slice none 0 0)).setCell ⟨w.heap.size + 1, 5, none⟩ (.int .i64 0)).setCell ⟨w.heap.size + 1, 6, none⟩ (.bool false)).setCell ⟨w.heap.size + 1, 0, none⟩ (.int .i64 (fn : Int))).setCell ⟨w.heap.size + 1, 4, none⟩ (.slice (some ⟨b, 0, none⟩) n n)).setCell ⟨w.heap.size + 1 + 1, 0, none⟩ (.int .i64 0)).cell? ⟨w.heap.size + 1 + 1, 0, none⟩ = some (.int .i64 0) := by go_simp
  have HB9 := hide (show Below w.heap.size w ((((((((((w5.setCell ⟨w.heap.size + 1, 0, none⟩ (.int .i64 0)).setCell ⟨w.heap.size + 1, 1, none⟩ (.int .i64 0)).setCell ⟨w.heap.size + 1, 2, none⟩ (.int .i64 0)).setCell ⟨w.heap.size + 1, 3, none⟩ (.slice none 0 0)).setCell ⟨w.heap.size + 1, 4, none⟩ (.slice none 0 0)).setCell ⟨w.heap.size + 1, 5, none⟩ (.int .i64 0)).setCell ⟨w.heap.size + 1, 6, none⟩ (.bool false)).setCell ⟨w.heap.size + 1, 0, none⟩ (.int .i64 (fn : Int))).setCell ⟨w.heap.size + 1, 4, none⟩ (.slice (some ⟨b, 0, none⟩) n n)).setCell ⟨w.heap.size + 1 + 1, 0, none⟩ (.int .i64 0)) from ((((((((((hbw.setCell (p := ⟨w.heap.size + 1, 0, none⟩) (by simp) _).setCell (p := ⟨w.heap.size + 1, 1, none⟩) (by simp) _).setCell (p := ⟨w.heap.size + 1, 2, none⟩) (by simp) _).setCell (p := ⟨w.heap.size + 1, 3, none⟩) (by simp) _).setCell (p := ⟨w.heap.size + 1, 4, none⟩) (by simp) _).setCell (p := ⟨w.heap.size + 1, 5, none⟩) (by simp) _).setCell (p := ⟨w.heap.size + 1, 6, none⟩) (by simp) _).setCell (p := ⟨w.heap.size + 1, 0, none⟩) (by simp) _).setCell (p := ⟨w.heap.size + 1, 4, none⟩) (by simp) _).setCell (p := ⟨w.heap.size + 1 + 1, 0, none⟩) (by simp <;> omega) _))
  have HR9 : Hid (((((((((((w5.setCell ⟨w.heap.size + 1, 0, none⟩ (.int .i64 0)).setCell ⟨w.heap.size + 1, 1, none⟩ (.int .i64 0)).setCell ⟨w.heap.size + 1, 2, none⟩ (.int .i64 0)).setCell ⟨w.heap.size + 1, 3, none⟩ (.slice none 0 0)).setCell ⟨w.heap.size + 1, 4, none⟩ (.slice none 0 0)).setCell ⟨w.heap.size + 1, 5, none⟩ (.int .i64 0)).setCell ⟨w.heap.size + 1, 6, none⟩ (.bool false)).setCell ⟨w.heap.size + 1, 0, none⟩ (.int .i64 (fn : Int))).setCell ⟨w.heap.size + 1, 4, none⟩ (.slice (some ⟨b, 0, none⟩) n n)).setCell ⟨w.heap.size + 1 + 1, 0, none⟩ (.int .i64 0)).heap[b]? = some (.cells (iV (List.replicate n 0)).toArray 3 (0, 0))) := by
    rw [heap_setCell_other _ _ _ _ (by simp; omega), heap_setCell_other _ _ _ _ (by simp; omega), heap_setCell_other _ _ _ _ (by simp; omega), heap_setCell_other _ _ _ _ (by simp; omega), heap_setCell_other _ _ _ _ (by simp; omega), heap_setCell_other _ _ _ _ (by simp; omega), heap_setCell_other _ _ _ _ (by simp; omega), heap_setCell_other _ _ _ _ (by simp; omega), heap_setCell_other _ _ _ _ (by simp; omega), heap_setCell_other _ _ _ _ (by simp; omega)]
    exact HQ3.out
  generalize ((((((((((w5.setCell ⟨w.heap.size + 1, 0, none⟩ (.int .i64 0)).setCell ⟨w.heap.size + 1, 1, none⟩ (.int .i64 0)).setCell ⟨w.heap.size + 1, 2, none⟩ (.int .i64 0)).setCell ⟨w.heap.size + 1, 3, none⟩ (.slice none 0 0)).setCell ⟨w.heap.size + 1, 4, none⟩ (.slice none 0 0)).setCell ⟨w.heap.size + 1, 5, none⟩ (.int .i64 0)).setCell ⟨w.heap.size + 1, 6, none⟩ (.bool false)).setCell ⟨w.heap.size + 1, 0, none⟩ (.int .i64 (fn : Int))).setCell ⟨w.heap.size + 1, 4, none⟩ (.slice (some ⟨b, 0, none⟩) n n)).setCell ⟨w.heap.size + 1 + 1, 0, none⟩ (.int .i64 0)) = w9 at x0 x1 x2 x3 x4 x5 x6 v0 HB9 HR9 ⊢
  refine leaves_cons (f := 21) (args := #[.pointer (some ⟨w.heap.size + 1 + 1, 0, none⟩)]) (by simp) (by simp [go_sem]) ?_
  refine (begd_idle (w.heap.size + 1 + 1) w9).mono ?_
  rintro e u' wz ⟨rfl, rfl, hbz⟩
  replace x0 := keep_cell x0 hbz
  replace x1 := keep_cell x1 hbz
  replace x2 := keep_cell x2 hbz
  replace x3 := keep_cell x3 hbz
  replace x4 := keep_cell x4 hbz
  replace x5 := keep_cell x5 hbz
  replace x6 := keep_cell x6 hbz
  replace v0 := keep_cell v0 hbz
  refine ⟨.tuple #[.agg #[.int .i64 (fn : Int), .int .i64 0, .int .i64 0, .slice none 0 0, .slice (some ⟨b, 0, none⟩) n n, .int .i64 0, .bool false], .int .i64 0], ?_, ⟨b, rfl, (hbz.block b (lt_row HR9.out)).trans HR9.out, chain HB9.out hbz⟩⟩
  simp [results, Tryz.results8, go_sem, x0, x1, x2, x3, x4, x5, x6, v0]
end Go.Proofs.YtnkfdpnommjlcaaGreatDoor
/- The job of one function: begun and run. -/

namespace Go.Proofs.YtnkfdpnommjlcaaGreatDoor
open Go.RowKit Go.ChangeShapes Go.WideShapes Go.ChangeAt Go.Deep

theorem one_small {code : List (Int × Int)} {n : Nat} (hn : code.length = n) (hb : n ≤ 1000000000) : ∀ f ∈ oneF code, f.code.length ≤ 9223372036854775807 ∧ f.name.size < 9223372036854775808 := fun f hf => by
  simp [oneF] at hf
  subst hf
  exact ⟨by show code.length ≤ _; omega, by show fnm.size < _; decide⟩

theorem one_begin {w : World} {h : Nat} {a : Option Addr} {n cap : Nat} (code : List (Int × Int)) (hrow : w.heap[h]? = some (.cells [.string fnm, .int .i64 0, .int .i64 0, .slice a n cap].toArray 58 (0, 0))) (hn : code.length = n) (hr : Reads w a (insV code)) (hE : Env w) (hb : n ≤ 1000000000) (hC : oneL code = (0, 0, 0)) :
    Calls Tryz.prog 8 #[.agg #[.slice (some ⟨h, 0, none⟩) 1 1, .int .i64 0, .slice none 0 0, .int .i64 100, .int .i64 50], .int .i64 0, .slice none 0 0] w fun e w' => ∃ b, e = .returned (.tuple #[.agg #[.int .i64 0, .int .i64 0, .int .i64 0, .slice none 0 0, .slice (some ⟨b, 0, none⟩) 0 0, .int .i64 0, .bool false], .int .i64 0]) ∧ Below w.heap.size w w' := by
  have C := begin_zero (oneJ h) _ (oneF code) [] 0 ⟨fnm, 0, 0, code⟩ 0 w (job_one hrow hn hr) hE (by simp [oneF]) (one_small hn hb) (by show (oneL code).2.2 = 0; rw [hC]) rfl rfl rfl (by omega)
  refine C.mono ?_
  rintro e w' ⟨b, rfl, _, h3⟩
  exact ⟨b, rfl, h3⟩

theorem tnum_any (x : Int) (w : World) : Calls Tryz.prog 9 #[.int .i64 x] w fun r w' => r = .returned (.int .i64 x) ∧ w' = w := by
  go_enter Tryz.func9, Tryz.ntmps9
  go_wp2
  go_ret
  exact ⟨rfl, rfl⟩

/-- What Run answers: a state and an event, in memory of their own. -/
def RunQ (w : World) (q : PM) (e : Ending) (w' : World) : Prop := ∃ sa sc la lc aa ac, e = .returned (.tuple #[.agg #[.int .i64 (q.fn : Int), .int .i64 (q.pc : Int), .int .i64 (q.fu : Int), .slice sa q.sk.length sc, .slice la q.lo.length lc, .int .i64 q.kd, .bool q.wt], .agg #[.int .i64 q.ek, .int .i64 q.ef, .int .i64 q.ei, .int .i64 (q.es : Int), .slice aa q.ar.length ac, .int .i64 q.er, .int .i64 q.ev]]) ∧
  Reads w' sa (iV q.sk.reverse) ∧ (sa = none → q.sk.length = 0 ∧ sc = 0) ∧ Reads w' la (iV q.lo) ∧ (la = none → q.lo.length = 0 ∧ lc = 0) ∧ Reads w' aa (iV q.ar) ∧ (aa = none → q.ar.length = 0 ∧ ac = 0) ∧ ((∀ x, sa = some x → w.heap.size ≤ x.block) ∧ (∀ x, la = some x → w.heap.size ≤ x.block) ∧ (∀ x, aa = some x → w.heap.size ≤ x.block)) ∧ Below w.heap.size w w'
theorem run_Q (j : JV) (cs : List Value) (fs : List Fun) (args : List Int) (fn pc fu : Nat) (kd deep steps : Int) (wt : Bool) (sa la : Option Addr) (sc lc : Nat) (sk lo : List Int) (D : List Int) (f : Fun) (q : PM × Option (Int × Int)) (n : Nat) (w : World) (hJ : JobR w j cs fs args) (hE : Env w) (hf : fs.length ≤ 9223372036854775807) (hs : ∀ f ∈ fs, f.code.length ≤ 9223372036854775807 ∧ f.name.size < 9223372036854775808)
    (hD : depsOf fs j.main args.length j.fuel j.tasks (fn : Int) = D) (hpc : D[pc]? = some (sk.length : Int)) (hff : fs[fn]? = some f) (hlo : (lo.length : Int) = f.locals) (hkd : 0 ≤ kd ∧ kd ≤ 16) (hfu : (fu : Int) ≤ j.fuel) (hDl : D.length ≤ 9223372036854775807)
    (hrs : Reads w sa (iV sk.reverse)) (hrl : Reads w la (iV lo)) (hsn : sa = none → sk.length = 0 ∧ sc = 0) (hln : la = none → lo.length = 0 ∧ lc = 0) (h1 : sk.length ≤ 10000) (h2 : lo.length ≤ 100000) (hw : wt = true → ∃ k x r, f.code[pc]? = some (17, k) ∧ sk = x :: r ∧ hasB kd x = true)
    (hR : runW fs j.fuel deep steps n ⟨fn, pc, fu, sk, lo, kd, wt, 0, 0, 0, 0, [], 0, 0⟩ = some q) :
    Calls Tryz.prog 10 #[.agg #[.slice j.fa j.nf j.fc, .int .i64 j.main, .slice j.aa j.na j.ac, .int .i64 j.fuel, .int .i64 j.tasks], .agg #[.int .i64 (fn : Int), .int .i64 (pc : Int), .int .i64 (fu : Int), .slice sa sk.length sc, .slice la lo.length lc, .int .i64 kd, .bool wt], .int .i64 deep, .int .i64 steps] w (RunQ w (finM q)) := by
  have C := run_G j cs fs args fn pc fu kd deep steps wt sa la sc lc sk.reverse lo D f q n w hJ hE hf hs hD (by simpa using hpc) hff hlo hkd hfu hDl hrs hrl (by simpa using hsn) hln (by simp; omega) h2 (by simpa using h1) (fun h => by
    obtain ⟨k, x, r, e1, e2, e3⟩ := hw h
    exact ⟨k, r.reverse, x, e1, by simp [e2], e3⟩) (by simpa using hR)
  rw [List.length_reverse] at C
  refine C.mono ?_
  rintro e w' ⟨B, m, sv, lv, av, rfl, hBn, hM, hB⟩
  obtain ⟨sa', sc', e1, _, n1, r1, b1⟩ := own_formI hM.own
  obtain ⟨la', lc', e2, _, n2, r2, b2⟩ := own_formI hM.loc
  obtain ⟨aa', ac', e3, _, n3, r3, b3⟩ := own_formI hM.arg
  simp only [PM.mc, List.length_reverse] at e1 e2 e3 n1
  subst e1 e2 e3
  have f : ∀ (a : Option Addr) (n c : Nat), (∀ g, (Value.slice a n c).ownBlock = some g → B.n ≤ g ∧ g < w'.heap.size) → ∀ x, a = some x → w.heap.size ≤ x.block := fun a n c h x hx => by
    subst hx
    have := (h x.block rfl).1
    omega
  exact ⟨sa', sc', la', lc', aa', ac', rfl, r1, n1, r2, n2, r3, n3, ⟨f _ _ _ b1, f _ _ _ b2, f _ _ _ b3⟩, hB⟩
theorem reads_setCells {w : World} {a : Option Addr} {xs vs : List Value} {b : Nat} (h : Reads w a xs) (hb : ∀ x, a = some x → x.block ≠ b) (o : Nat) : Reads (w.setCells b o vs) a xs := by
  rcases h with h | ⟨k, off, rfl, h⟩
  · exact .inl h
  · refine .inr ⟨k, off, rfl, fun j u hu => ?_⟩
    rw [World.cell?_of_block (setCells_other (k := k) (b := b) (hb _ rfl) vs o w)]
    exact h j u hu
theorem one_runQ {w : World} {h : Nat} {a : Option Addr} {n cap : Nat} (code : List (Int × Int)) (hrow : w.heap[h]? = some (.cells [.string fnm, .int .i64 0, .int .i64 0, .slice a n cap].toArray 58 (0, 0))) (hn : code.length = n) (hr : Reads w a (insV code)) (hE : Env w) (hb : n ≤ 1000000000) (pc fu : Nat) (kd deep steps : Int) (wt : Bool) (sa la : Option Addr) (sc lc : Nat) (sk : List Int) (D : List Int) (k : Nat) (q : PM × Option (Int × Int))
    (hD : depsOf (oneF code) 0 0 100 50 0 = D) (hpc : D[pc]? = some (sk.length : Int)) (hDl : D.length ≤ 9223372036854775807) (hkd : 0 ≤ kd ∧ kd ≤ 16) (hfu : fu ≤ 100) (hrs : Reads w sa (iV sk.reverse)) (hsn : sa = none → sk.length = 0 ∧ sc = 0) (hln : la = none → lc = 0) (h1 : sk.length ≤ 10000) (hw : wt = true → ∃ k x r, code[pc]? = some (17, k) ∧ sk = x :: r ∧ hasB kd x = true)
    (hR : runW (oneF code) 100 deep steps k ⟨0, pc, fu, sk, [], kd, wt, 0, 0, 0, 0, [], 0, 0⟩ = some q) :
    Calls Tryz.prog 10 #[.agg #[.slice (some ⟨h, 0, none⟩) 1 1, .int .i64 0, .slice none 0 0, .int .i64 100, .int .i64 50], .agg #[.int .i64 0, .int .i64 (pc : Int), .int .i64 (fu : Int), .slice sa sk.length sc, .slice la 0 lc, .int .i64 kd, .bool wt], .int .i64 deep, .int .i64 steps] w (RunQ w (finM q)) :=
  run_Q (oneJ h) _ (oneF code) [] 0 pc fu kd deep steps wt sa la sc lc sk [] D ⟨fnm, 0, 0, code⟩ q k w (job_one hrow hn hr) hE (by simp [oneF]) (one_small hn hb) hD hpc rfl rfl hkd (by show (fu : Int) ≤ 100; omega) hDl hrs (.inl rfl) hsn (fun h => ⟨rfl, hln h⟩) h1 (by simp) hw hR
set_option linter.unusedSimpArgs false in
set_option maxRecDepth 100000 in
set_option maxHeartbeats 4000000 in
theorem talive_any (w : World) (hE : Env w) : Calls Tryz.prog 6 #[] w fun r w' => r = .returned (.bool true) ∧ Below w.heap.size w w' := by
  have L2 : oneL [(1, 5), (18, 0)] = (0, 0, 0) := by decide +kernel
  have LD : depsOf (oneF [(1, 5), (18, 0)]) 0 0 100 50 0 = [0, 1] := by decide +kernel
  have LR : runW (oneF [(1, 5), (18, 0)]) 100 0 10 11 ⟨0, 0, 0, [], [], 0, false, 0, 0, 0, 0, [], 0, 0⟩ = some (⟨0, 1, 2, [5], [], 0, false, 3, 0, 0, 2, [], 0, 5⟩, none) := by kernel_rfl
  have hb1 := alloc_below w (.cells #[.int .i64 1, .int .i64 5, .int .i64 18, .int .i64 0] 55)
  have r1 : Reads (w.alloc (.cells #[.int .i64 1, .int .i64 5, .int .i64 18, .int .i64 0] 55)) (some ⟨w.heap.size, 0, none⟩) (insV [(1, 5), (18, 0)]) := reads_new w _ _
  have C1 := one_any (some ⟨w.heap.size, 0, none⟩) 2 2 (w.alloc (.cells #[.int .i64 1, .int .i64 5, .int .i64 18, .int .i64 0] 55))
  unfold OnePost at C1
  go_enter Tryz.func6, Tryz.ntmps6
  go_wp2_with (go_at_call 20; go_must (with_reducible refine C1.mono ?_; (rintro e w1 ⟨h1, rfl, hrow1, hb2⟩); refine Hid.out ?_))
  refine Lib.hid ?_
  have hb02 := chain hb1 hb2
  simp only [oneJ, JV.cells]
  have r2 := r1.below hb2
  have hba := alloc_below w1 (.cells #[.slice (some ⟨h1, 0, none⟩) 1 1, .int .i64 0, .slice none 0 0, .int .i64 100, .int .i64 50] 25)
  have hja := heap_alloc_new w1 (.cells #[.slice (some ⟨h1, 0, none⟩) 1 1, .int .i64 0, .slice none 0 0, .int .i64 100, .int .i64 50] 25)
  clear C1 hb1 hb2 r1
  go_upto_region 2 with fail
  generalize w1.alloc (.cells #[.slice (some ⟨h1, 0, none⟩) 1 1, .int .i64 0, .slice none 0 0, .int .i64 100, .int .i64 50] 25) = w2 at *
  have hrow2 := heap_row hrow1 hba
  have r3 := r2.below hba
  have hb03 := chain hb02 hba
  have C2 := one_begin [(1, 5), (18, 0)] hrow2 rfl r3 (hE.below hb03) (by omega) L2
  have j0 : w2.cell? ⟨w1.heap.size, 0, none⟩ = some (.slice (some ⟨h1, 0, none⟩) 1 1) := by simp only [World.cell?, hja]; rfl
  have j1 : w2.cell? ⟨w1.heap.size, 1, none⟩ = some (.int .i64 0) := by simp only [World.cell?, hja]; rfl
  have j2 : w2.cell? ⟨w1.heap.size, 2, none⟩ = some (.slice none 0 0) := by simp only [World.cell?, hja]; rfl
  have j3 : w2.cell? ⟨w1.heap.size, 3, none⟩ = some (.int .i64 100) := by simp only [World.cell?, hja]; rfl
  have j4 : w2.cell? ⟨w1.heap.size, 4, none⟩ = some (.int .i64 50) := by simp only [World.cell?, hja]; rfl
  clear hja hba hrow1 r2 hb02
  generalize w1.heap.size = jb at *
  go_wp2_with (go_at_call 8; go_must (with_reducible refine C2.mono ?_; (rintro e w3 ⟨b, rfl, hb4⟩); refine Hid.out ?_))
  refine Lib.hid ?_
  have hbb := alloc_below w3 (.cells #[.int .i64 0, .int .i64 0, .int .i64 0, .slice none 0 0, .slice (some ⟨b, 0, none⟩) 0 0, .int .i64 0, .bool false] 29)
  have hsb := heap_alloc_new w3 (.cells #[.int .i64 0, .int .i64 0, .int .i64 0, .slice none 0 0, .slice (some ⟨b, 0, none⟩) 0 0, .int .i64 0, .bool false] 29)
  have hb23 := chain hb4 hbb
  clear C2 hb4 hbb
  go_upto_region 3 with fail
  generalize w3.alloc (.cells #[.int .i64 0, .int .i64 0, .int .i64 0, .slice none 0 0, .slice (some ⟨b, 0, none⟩) 0 0, .int .i64 0, .bool false] 29) = w4 at *
  have hrow4 := heap_row hrow2 hb23
  have r4 := r3.below hb23
  have hb04 := chain hb03 hb23
  have C3 : Calls Tryz.prog 10 #[.agg #[.slice (some ⟨h1, 0, none⟩) 1 1, .int .i64 0, .slice none 0 0, .int .i64 100, .int .i64 50], .agg #[.int .i64 0, .int .i64 0, .int .i64 0, .slice none 0 0, .slice (some ⟨b, 0, none⟩) 0 0, .int .i64 0, .bool false], .int .i64 0, .int .i64 10] w4 fun e w' => ∃ sa sc la lc aa ac, e = .returned (.tuple #[.agg #[.int .i64 0, .int .i64 1, .int .i64 2, .slice sa 1 sc, .slice la 0 lc, .int .i64 0, .bool false], .agg #[.int .i64 3, .int .i64 0, .int .i64 0, .int .i64 2, .slice aa 0 ac, .int .i64 0, .int .i64 5]]) ∧ Below w4.heap.size w4 w' :=
    (one_runQ [(1, 5), (18, 0)] hrow4 rfl r4 (hE.below hb04) (by omega) 0 0 0 0 10 false none (some ⟨b, 0, none⟩) 0 0 [] [0, 1] 11 _ LD rfl (by simp) (by omega) (by omega) (.inl rfl) (fun _ => ⟨rfl, rfl⟩) (fun h => by cases h) (by simp) (fun h => by cases h) LR).mono fun e w' ⟨sa, sc, la, lc, aa, ac, h, _, _, _, _, _, _, _, hb⟩ => ⟨sa, sc, la, lc, aa, ac, h, hb⟩
  replace j0 := keep_cell j0 hb23
  replace j1 := keep_cell j1 hb23
  replace j2 := keep_cell j2 hb23
  replace j3 := keep_cell j3 hb23
  replace j4 := keep_cell j4 hb23
  have s0 : w4.cell? ⟨w3.heap.size, 0, none⟩ = some (.int .i64 0) := by simp only [World.cell?, hsb]; rfl
  have s1 : w4.cell? ⟨w3.heap.size, 1, none⟩ = some (.int .i64 0) := by simp only [World.cell?, hsb]; rfl
  have s2 : w4.cell? ⟨w3.heap.size, 2, none⟩ = some (.int .i64 0) := by simp only [World.cell?, hsb]; rfl
  have s3 : w4.cell? ⟨w3.heap.size, 3, none⟩ = some (.slice none 0 0) := by simp only [World.cell?, hsb]; rfl
  have s4 : w4.cell? ⟨w3.heap.size, 4, none⟩ = some (.slice (some ⟨b, 0, none⟩) 0 0) := by simp only [World.cell?, hsb]; rfl
  have s5 : w4.cell? ⟨w3.heap.size, 5, none⟩ = some (.int .i64 0) := by simp only [World.cell?, hsb]; rfl
  have s6 : w4.cell? ⟨w3.heap.size, 6, none⟩ = some (.bool false) := by simp only [World.cell?, hsb]; rfl
  clear hsb hb23 hrow2 r3 hb03 hrow4 r4
  generalize w3.heap.size = sb at *
  go_wp2_with (go_at_call 10; go_must (with_reducible refine C3.mono ?_; (rintro e w5 ⟨sa, sc, la, lc, aa, ac, rfl, hb5⟩); refine Hid.out ?_))
  refine Lib.hid ?_
  have hb05 := chain hb04 hb5
  clear C3 j0 j1 j2 j3 j4 s0 s1 s2 s3 s4 s5 s6 hb5 hb04 
  go_upto_region 4 with fail
  have hbz : Below w.heap.size w ((w5.alloc (.cells #[.int .i64 0, .int .i64 1, .int .i64 2, .slice sa 1 sc, .slice la 0 lc, .int .i64 0, .bool false] 29)).alloc (.cells #[.int .i64 3, .int .i64 0, .int .i64 0, .int .i64 2, .slice aa 0 ac, .int .i64 0, .int .i64 5] 37)) := (hb05.alloc hb05.size _).alloc (by have := hb05.size; simp; omega) _
  have hez : ((w5.alloc (.cells #[.int .i64 0, .int .i64 1, .int .i64 2, .slice sa 1 sc, .slice la 0 lc, .int .i64 0, .bool false] 29)).alloc (.cells #[.int .i64 3, .int .i64 0, .int .i64 0, .int .i64 2, .slice aa 0 ac, .int .i64 0, .int .i64 5] 37)).heap[w5.heap.size + 1]? = some (.cells #[.int .i64 3, .int .i64 0, .int .i64 0, .int .i64 2, .slice aa 0 ac, .int .i64 0, .int .i64 5] 37 (0, 0)) := by
    have := heap_alloc_new (w5.alloc (.cells #[.int .i64 0, .int .i64 1, .int .i64 2, .slice sa 1 sc, .slice la 0 lc, .int .i64 0, .bool false] 29)) (.cells #[.int .i64 3, .int .i64 0, .int .i64 0, .int .i64 2, .slice aa 0 ac, .int .i64 0, .int .i64 5] 37)
    simpa using this
  generalize ((w5.alloc (.cells #[.int .i64 0, .int .i64 1, .int .i64 2, .slice sa 1 sc, .slice la 0 lc, .int .i64 0, .bool false] 29)).alloc (.cells #[.int .i64 3, .int .i64 0, .int .i64 0, .int .i64 2, .slice aa 0 ac, .int .i64 0, .int .i64 5] 37)) = w6 at hbz hez ⊢
  have e0 : w6.cell? ⟨w5.heap.size + 1, 0, none⟩ = some (.int .i64 3) := by simp only [World.cell?, hez]; rfl
  have e3 : w6.cell? ⟨w5.heap.size + 1, 3, none⟩ = some (.int .i64 2) := by simp only [World.cell?, hez]; rfl
  have e6 : w6.cell? ⟨w5.heap.size + 1, 6, none⟩ = some (.int .i64 5) := by simp only [World.cell?, hez]; rfl
  have TN := tnum_any
  clear hez hb05
  go_wp2_with (go_at_call 9; go_must (with_reducible refine (TN _ _).mono ?_; (rintro e w7 ⟨rfl, rfl⟩); refine Hid.out ?_))
  refine Lib.hid ?_
  go_wp2_with fail
  go_ret
  exact ⟨rfl, hbz⟩
end Go.Proofs.YtnkfdpnommjlcaaGreatDoor
