/- Begin, of a function of no arguments. -/
import Derived.Test.YtbpcibnomkfglaaGreatDoorRunU
import Derived.Test.YtbpcibnomkfglaaGreatDoorRow
import Derived.Laws.CopyOwn
import Derived.Test.YtbpcibnomkfglaaGreatDoorAlive
import Derived.Test.YtbpcibnomkfglaaGreatDoorTallW
import Derived.Test.YtbpcibnomkfglaaGreatDoorRunK
namespace Go.Proofs.YtbpcibnomkfglaaGreatDoor
open Go.RowKit Go.ChangeShapes Go.WideShapes Go.ChangeAt Go.Deep

/-- Three new blocks. -/
theorem three_blocks (w : World) (a b c : Obj) : Below w.heap.size w (((w.alloc a).alloc b).alloc c) ∧ (((w.alloc a).alloc b).alloc c).heap.size = w.heap.size + 3 ∧ (((w.alloc a).alloc b).alloc c).heap[w.heap.size]? = some a ∧ (((w.alloc a).alloc b).alloc c).heap[w.heap.size + 1]? = some b ∧ (((w.alloc a).alloc b).alloc c).heap[w.heap.size + 1 + 1]? = some c := by
  refine ⟨(((Below.refl _ _).alloc (Nat.le_refl _) _).alloc (by simp) _).alloc (by simp <;> omega) _, by simp, ?_, ?_, ?_⟩
  · rw [heap_alloc_old _ _ (by simp <;> omega), heap_alloc_old _ _ (by simp), heap_alloc_new]
  · rw [heap_alloc_old _ _ (by simp)]
    have := heap_alloc_new (w.alloc a) b
    simpa using this
  · have := heap_alloc_new ((w.alloc a).alloc b) c
    simpa using this

set_option maxHeartbeats 2000000 in
set_option maxRecDepth 100000 in
theorem locals_none (n : Nat) (hn : n ≤ 1000000000) (w : World) : Calls Tryz.prog 55 #[.int .i64 (n : Int), .slice none 0 0] w fun e w' => e = .returned (.slice (some ⟨w.heap.size, 0, none⟩) n n) ∧ w' = w.alloc (.cells (iV (List.replicate n 0)).toArray 3) := by
  have hmk := mk_ints n hn
  have hcp := fun (b : Nat) (w : World) => run_copy_none (P := Tryz.prog) w 28 28 3 3 (some ⟨b, 0, none⟩) none n n 0 0 Tryz.underlying28 (by kernel_rfl) (by simp)
  go_enter Tryz.func55, Tryz.ntmps55
  go_wp2_with fail
  go_ret
  exact ⟨rfl, rfl⟩

set_option maxHeartbeats 2000000 in
set_option maxRecDepth 100000 in
set_option linter.unusedSimpArgs false in
theorem begd_idle (a : Nat) (w : World) :
    CallsD Tryz.prog 51 #[.pointer (some ⟨a, 0, none⟩)] .returning w fun e u' w' => e = .returned (.tuple #[]) ∧ u' = .returning ∧ Below w.heap.size w w' := by
  refine callsD_of_wpS Tryz.func51 rfl fun c₀ cs hu => ?_
  apply wpS_seq
  apply wpS_region
  simp [wpOpsS, go_sem, recoverD, hu, Tryz.ntmps51, Exit.thenS, Array.replicate]
  refine (wentUp_nil w).mono ?_
  rintro e w1 ⟨rfl, hb1⟩
  have hnw := heap_alloc_new w1 (.cells #[.int .i64 0, .int .i64 0] 34)
  have n0 : (w1.alloc (.cells #[.int .i64 0, .int .i64 0] 34)).cell? ⟨w1.heap.size, 0, none⟩ = some (.int .i64 0) := by simp only [World.cell?, hnw]; rfl
  have n1 : (w1.alloc (.cells #[.int .i64 0, .int .i64 0] 34)).cell? ⟨w1.heap.size, 1, none⟩ = some (.int .i64 0) := by simp only [World.cell?, hnw]; rfl
  have z0 : (w1.alloc (.cells #[.int .i64 0, .int .i64 0] 34)).frozen? ⟨w1.heap.size, 0, none⟩ = false := by simp only [World.frozen?, hnw]; rfl
  have z1 : (w1.alloc (.cells #[.int .i64 0, .int .i64 0] 34)).frozen? ⟨w1.heap.size, 1, none⟩ = false := by simp only [World.frozen?, hnw]; rfl
  clear hnw
  simp [go_sem, Exit.thenS, n0, n1, z0, z1]
  have hbel : Below w.heap.size w (w1.alloc (.cells #[.int .i64 0, .int .i64 0] 34)) := hb1.alloc hb1.size _
  clear n0 n1 z0 z1 hb1
  refine wpS_of_wp ?_
  generalize w1.alloc (.cells #[.int .i64 0, .int .i64 0] 34) = w2 at hbel ⊢
  go_wp2
  cases c₀
  simp_all [bodyPostS, results, Tryz.results51]

set_option linter.unusedSimpArgs false in
set_option maxRecDepth 100000 in
set_option maxHeartbeats 4000000 in
theorem begin_zero (j : JV) (cs : List Value) (fs : List Fun) (args : List Int) (fn : Nat) (f : Fun) (n : Nat) (w : World) (hJ : JobR w j cs fs args) (hE : Env w) (hf : fs.length ≤ 1000000000) (hs : ∀ f ∈ fs, f.code.length ≤ 1000000000 ∧ f.name.size < 4294967281)
    (hC : (checkL fs j.main args.length j.fuel j.tasks).2.2 = 0) (hff : fs[fn]? = some f) (ha : f.args = 0) (hn : f.locals = (n : Int)) (hnl : n ≤ 1000000000) :
    Calls Tryz.prog 36 #[.agg #[.slice j.fa j.nf j.fc, .int .i64 j.main, .slice j.aa j.na j.ac, .int .i64 j.fuel, .int .i64 j.tasks], .int .i64 (fn : Int), .slice none 0 0] w fun e w' => ∃ b, e = .returned (.tuple #[.agg #[.int .i64 (fn : Int), .int .i64 0, .int .i64 0, .slice none 0 0, .slice (some ⟨b, 0, none⟩) n n, .int .i64 0, .bool false], .int .i64 0]) ∧ w'.heap[b]? = some (.cells (iV (List.replicate n 0)).toArray 3 (0, 0)) ∧ Below w.heap.size w w' := by
  have hmf : ∀ (fn : Fn) (first cap : Array Value) (w : World), (Instr.makeFunc fn first cap).run Tryz.prog w = .ok (.func fn first cap) w := fun _ _ _ _ => rfl
  obtain ⟨hb0, hsz, p1, p3, p4⟩ := three_blocks w (.cells #[.slice j.fa j.nf j.fc, .int .i64 j.main, .slice j.aa j.na j.ac, .int .i64 j.fuel, .int .i64 j.tasks] 30) (.cells #[.int .i64 0, .int .i64 0, .int .i64 0, .slice none 0 0, .slice none 0 0, .int .i64 0, .bool false] 70) (.cells #[.int .i64 0] 24)
  have C1 := check_any j cs fs args _ (hJ.below hb0) (hE.below hb0) hf hs
  unfold CheckPost at C1
  rw [hC] at C1
  simp only [JV.cells] at C1
  have hfl : fn < fs.length := (List.getElem?_eq_some_iff.1 hff).1
  have hfe : fs[fn] = f := (List.getElem?_eq_some_iff.1 hff).2
  have HFE := hide hfe
  have HHA := hide ha
  have HHN := hide hn
  clear hfe ha hn hff
  have hJ0 := hJ.below hb0
  have HNF := hide hJ.nf
  go_enter_defers Tryz.func36, Tryz.ntmps36
  go_upto_region 2 with fail
  generalize (((w.alloc (.cells #[.slice j.fa j.nf j.fc, .int .i64 j.main, .slice j.aa j.na j.ac, .int .i64 j.fuel, .int .i64 j.tasks] 30)).alloc (.cells #[.int .i64 0, .int .i64 0, .int .i64 0, .slice none 0 0, .slice none 0 0, .int .i64 0, .bool false] 70)).alloc (.cells #[.int .i64 0] 24)) = w0 at *
  have j0 : w0.cell? ⟨w.heap.size, 0, none⟩ = some (.slice j.fa j.nf j.fc) := by simp only [World.cell?, p1]; rfl
  have j1 : w0.cell? ⟨w.heap.size, 1, none⟩ = some (.int .i64 j.main) := by simp only [World.cell?, p1]; rfl
  have j2 : w0.cell? ⟨w.heap.size, 2, none⟩ = some (.slice j.aa j.na j.ac) := by simp only [World.cell?, p1]; rfl
  have j3 : w0.cell? ⟨w.heap.size, 3, none⟩ = some (.int .i64 j.fuel) := by simp only [World.cell?, p1]; rfl
  have j4 : w0.cell? ⟨w.heap.size, 4, none⟩ = some (.int .i64 j.tasks) := by simp only [World.cell?, p1]; rfl
  have HB0 := hide hb0
  have HP3 := hide p3
  have HP4 := hide p4
  have HJ0 := hide hJ0
  clear hJ hE hs hb0 p1 p3 p4 hJ0 hC
  go_wp2_with (go_at_call 16; go_must (with_reducible refine C1.mono ?_; (rintro e w1 ⟨rfl, hb1⟩); refine Hid.out ?_))
  refine Lib.hid ?_
  clear C1
  have hb01 := hb1
  replace j0 := keep_cell j0 hb1
  obtain ⟨fb, off, ca, cc, ef, y0, y1, y2, y3, _, _⟩ := JobR.fun_at (HJ0.out.below hb1) hfl
  rw [HFE.out] at y0 y1 y2 y3
  rw [HHA.out] at y1
  rw [HHN.out] at y2
  have hkn : (fn : Int) < (j.nf : Int) := by rw [HNF.out]; omega
  have T1 := fun w => thas_any (j.nf : Int) (fn : Int) (by rw [HNF.out]; omega) w
  have hq : hasB (j.nf : Int) (fn : Int) = true := by simp [hasB, inB]; omega
  rw [hq] at T1
  rw [ef] at j0
  have C3 := fun (e : Int) W => tneed_yes e W
  clear j1 j2 j3 j4 hb1
  have C4 := fun W => locals_none n hnl W
  clear hq
  go_wp2_with (first
    | (go_at_call 53; go_must (with_reducible refine (C3 _ _).mono ?_; (rintro e w3' ⟨rfl, rfl⟩); refine Hid.out ?_)))
  refine Lib.hid ?_
  go_wp2_with (first
    | (go_at_call 54; go_must (with_reducible refine (T1 _).mono ?_; (rintro e w3' ⟨rfl, rfl⟩); refine Hid.out ?_)))
  refine Lib.hid ?_
  go_wp2_with (first
    | (go_at_call 53; go_must (with_reducible refine (C3 _ _).mono ?_; (rintro e w3' ⟨rfl, rfl⟩); refine Hid.out ?_)))
  refine Lib.hid ?_
  go_wp2_with (first
    | (go_at_call 53; go_must (with_reducible refine (C3 _ _).mono ?_; (rintro e w3' ⟨rfl, rfl⟩); refine Hid.out ?_)))
  refine Lib.hid ?_
  go_wp2_with (first
    | (go_at_call 55; go_must (with_reducible refine (C4 _).mono ?_; (rintro e w3' ⟨rfl, rfl⟩); refine Hid.out ?_)))
  refine Lib.hid ?_
  have hb5 : Below w0.heap.size w0 (w3'.alloc (.cells (iV (List.replicate n 0)).toArray 3)) := hb01.alloc hb01.size _
  have q3 := heap_alloc_new w3' (.cells (iV (List.replicate n 0)).toArray 3)
  have hbw := HB0.out.trans (hb5.mono HB0.out.size)
  have q1 := (hb5.block (w.heap.size + 1) (by rw [hsz]; omega)).trans HP3.out
  have q2 := (hb5.block (w.heap.size + 1 + 1) (by rw [hsz]; omega)).trans HP4.out
  have hlt3 : w.heap.size + 3 ≤ w3'.heap.size := by have := hb01.size; omega
  generalize w3'.alloc (.cells (iV (List.replicate n 0)).toArray 3) = w5 at q3 hbw q1 q2 ⊢
  generalize w3'.heap.size = b at q3 hlt3 ⊢
  have z0 : w5.cell? ⟨w.heap.size + 1, 0, none⟩ = some (.int .i64 0) := by simp [World.cell?, q1]
  have zf0 : w5.frozen? ⟨w.heap.size + 1, 0, none⟩ = false := by simp [World.frozen?, q1]
  have z1 : w5.cell? ⟨w.heap.size + 1, 1, none⟩ = some (.int .i64 0) := by simp [World.cell?, q1]
  have zf1 : w5.frozen? ⟨w.heap.size + 1, 1, none⟩ = false := by simp [World.frozen?, q1]
  have z2 : w5.cell? ⟨w.heap.size + 1, 2, none⟩ = some (.int .i64 0) := by simp [World.cell?, q1]
  have zf2 : w5.frozen? ⟨w.heap.size + 1, 2, none⟩ = false := by simp [World.frozen?, q1]
  have z3 : w5.cell? ⟨w.heap.size + 1, 3, none⟩ = some (.slice none 0 0) := by simp [World.cell?, q1]
  have zf3 : w5.frozen? ⟨w.heap.size + 1, 3, none⟩ = false := by simp [World.frozen?, q1]
  have z4 : w5.cell? ⟨w.heap.size + 1, 4, none⟩ = some (.slice none 0 0) := by simp [World.cell?, q1]
  have zf4 : w5.frozen? ⟨w.heap.size + 1, 4, none⟩ = false := by simp [World.frozen?, q1]
  have z5 : w5.cell? ⟨w.heap.size + 1, 5, none⟩ = some (.int .i64 0) := by simp [World.cell?, q1]
  have zf5 : w5.frozen? ⟨w.heap.size + 1, 5, none⟩ = false := by simp [World.frozen?, q1]
  have z6 : w5.cell? ⟨w.heap.size + 1, 6, none⟩ = some (.bool false) := by simp [World.cell?, q1]
  have zf6 : w5.frozen? ⟨w.heap.size + 1, 6, none⟩ = false := by simp [World.frozen?, q1]
  have y0' : w5.cell? ⟨w.heap.size + 1 + 1, 0, none⟩ = some (.int .i64 0) := by simp [World.cell?, q2]
  have yf0 : w5.frozen? ⟨w.heap.size + 1 + 1, 0, none⟩ = false := by simp [World.frozen?, q2]
  have HQ1 := hide q1
  have HQ2 := hide q2
  have HQ3 := hide q3
  clear q1 q2 q3 T1 C3 C4 y0 y1 y2 y3 j0 hsz HB0 hb01 hb5
  go_wp2_with fail
  have x0 : ((((((((((w5.setCell ⟨w.heap.size + 1, 0, none⟩ (.int .i64 0)).setCell ⟨w.heap.size + 1, 1, none⟩ (.int .i64 0)).setCell ⟨w.heap.size + 1, 2, none⟩ (.int .i64 0)).setCell ⟨w.heap.size + 1, 3, none⟩ (.slice none 0 0)).setCell ⟨w.heap.size + 1, 4, none⟩ (.slice none 0 0)).setCell ⟨w.heap.size + 1, 5, none⟩ (.int .i64 0)).setCell ⟨w.heap.size + 1, 6, none⟩ (.bool false)).setCell ⟨w.heap.size + 1, 0, none⟩ (.int .i64 (fn : Int))).setCell ⟨w.heap.size + 1, 4, none⟩ (.slice (some ⟨b, 0, none⟩) n n)).setCell ⟨w.heap.size + 1 + 1, 0, none⟩ (.int .i64 0)).cell? ⟨w.heap.size + 1, 0, none⟩ = some (.int .i64 (fn : Int)) := by go_simp
  have x1 : ((((((((((w5.setCell ⟨w.heap.size + 1, 0, none⟩ (.int .i64 0)).setCell ⟨w.heap.size + 1, 1, none⟩ (.int .i64 0)).setCell ⟨w.heap.size + 1, 2, none⟩ (.int .i64 0)).setCell ⟨w.heap.size + 1, 3, none⟩ (.slice none 0 0)).setCell ⟨w.heap.size + 1, 4, none⟩ (.slice none 0 0)).setCell ⟨w.heap.size + 1, 5, none⟩ (.int .i64 0)).setCell ⟨w.heap.size + 1, 6, none⟩ (.bool false)).setCell ⟨w.heap.size + 1, 0, none⟩ (.int .i64 (fn : Int))).setCell ⟨w.heap.size + 1, 4, none⟩ (.slice (some ⟨b, 0, none⟩) n n)).setCell ⟨w.heap.size + 1 + 1, 0, none⟩ (.int .i64 0)).cell? ⟨w.heap.size + 1, 1, none⟩ = some (.int .i64 0) := by go_simp
  have x2 : ((((((((((w5.setCell ⟨w.heap.size + 1, 0, none⟩ (.int .i64 0)).setCell ⟨w.heap.size + 1, 1, none⟩ (.int .i64 0)).setCell ⟨w.heap.size + 1, 2, none⟩ (.int .i64 0)).setCell ⟨w.heap.size + 1, 3, none⟩ (.slice none 0 0)).setCell ⟨w.heap.size + 1, 4, none⟩ (.slice none 0 0)).setCell ⟨w.heap.size + 1, 5, none⟩ (.int .i64 0)).setCell ⟨w.heap.size + 1, 6, none⟩ (.bool false)).setCell ⟨w.heap.size + 1, 0, none⟩ (.int .i64 (fn : Int))).setCell ⟨w.heap.size + 1, 4, none⟩ (.slice (some ⟨b, 0, none⟩) n n)).setCell ⟨w.heap.size + 1 + 1, 0, none⟩ (.int .i64 0)).cell? ⟨w.heap.size + 1, 2, none⟩ = some (.int .i64 0) := by go_simp
  have x3 : ((((((((((w5.setCell ⟨w.heap.size + 1, 0, none⟩ (.int .i64 0)).setCell ⟨w.heap.size + 1, 1, none⟩ (.int .i64 0)).setCell ⟨w.heap.size + 1, 2, none⟩ (.int .i64 0)).setCell ⟨w.heap.size + 1, 3, none⟩ (.slice none 0 0)).setCell ⟨w.heap.size + 1, 4, none⟩ (.slice none 0 0)).setCell ⟨w.heap.size + 1, 5, none⟩ (.int .i64 0)).setCell ⟨w.heap.size + 1, 6, none⟩ (.bool false)).setCell ⟨w.heap.size + 1, 0, none⟩ (.int .i64 (fn : Int))).setCell ⟨w.heap.size + 1, 4, none⟩ (.slice (some ⟨b, 0, none⟩) n n)).setCell ⟨w.heap.size + 1 + 1, 0, none⟩ (.int .i64 0)).cell? ⟨w.heap.size + 1, 3, none⟩ = some (.slice none 0 0) := by go_simp
  have x4a : ((((((((w5.setCell ⟨w.heap.size + 1, 0, none⟩ (.int .i64 0)).setCell ⟨w.heap.size + 1, 1, none⟩ (.int .i64 0)).setCell ⟨w.heap.size + 1, 2, none⟩ (.int .i64 0)).setCell ⟨w.heap.size + 1, 3, none⟩ (.slice none 0 0)).setCell ⟨w.heap.size + 1, 4, none⟩ (.slice none 0 0)).setCell ⟨w.heap.size + 1, 5, none⟩ (.int .i64 0)).setCell ⟨w.heap.size + 1, 6, none⟩ (.bool false)).setCell ⟨w.heap.size + 1, 0, none⟩ (.int .i64 (fn : Int))).cell? ⟨w.heap.size + 1, 4, none⟩ = some (.slice none 0 0) := by go_simp
  have x4 : ((((((((((w5.setCell ⟨w.heap.size + 1, 0, none⟩ (.int .i64 0)).setCell ⟨w.heap.size + 1, 1, none⟩ (.int .i64 0)).setCell ⟨w.heap.size + 1, 2, none⟩ (.int .i64 0)).setCell ⟨w.heap.size + 1, 3, none⟩ (.slice none 0 0)).setCell ⟨w.heap.size + 1, 4, none⟩ (.slice none 0 0)).setCell ⟨w.heap.size + 1, 5, none⟩ (.int .i64 0)).setCell ⟨w.heap.size + 1, 6, none⟩ (.bool false)).setCell ⟨w.heap.size + 1, 0, none⟩ (.int .i64 (fn : Int))).setCell ⟨w.heap.size + 1, 4, none⟩ (.slice (some ⟨b, 0, none⟩) n n)).setCell ⟨w.heap.size + 1 + 1, 0, none⟩ (.int .i64 0)).cell? ⟨w.heap.size + 1, 4, none⟩ = some (.slice (some ⟨b, 0, none⟩) n n) := by go_simp
  have x5 : ((((((((((w5.setCell ⟨w.heap.size + 1, 0, none⟩ (.int .i64 0)).setCell ⟨w.heap.size + 1, 1, none⟩ (.int .i64 0)).setCell ⟨w.heap.size + 1, 2, none⟩ (.int .i64 0)).setCell ⟨w.heap.size + 1, 3, none⟩ (.slice none 0 0)).setCell ⟨w.heap.size + 1, 4, none⟩ (.slice none 0 0)).setCell ⟨w.heap.size + 1, 5, none⟩ (.int .i64 0)).setCell ⟨w.heap.size + 1, 6, none⟩ (.bool false)).setCell ⟨w.heap.size + 1, 0, none⟩ (.int .i64 (fn : Int))).setCell ⟨w.heap.size + 1, 4, none⟩ (.slice (some ⟨b, 0, none⟩) n n)).setCell ⟨w.heap.size + 1 + 1, 0, none⟩ (.int .i64 0)).cell? ⟨w.heap.size + 1, 5, none⟩ = some (.int .i64 0) := by go_simp
  have x6 : ((((((((((w5.setCell ⟨w.heap.size + 1, 0, none⟩ (.int .i64 0)).setCell ⟨w.heap.size + 1, 1, none⟩ (.int .i64 0)).setCell ⟨w.heap.size + 1, 2, none⟩ (.int .i64 0)).setCell ⟨w.heap.size + 1, 3, none⟩ (.slice none 0 0)).setCell ⟨w.heap.size + 1, 4, none⟩ (.slice none 0 0)).setCell ⟨w.heap.size + 1, 5, none⟩ (.int .i64 0)).setCell ⟨w.heap.size + 1, 6, none⟩ (.bool false)).setCell ⟨w.heap.size + 1, 0, none⟩ (.int .i64 (fn : Int))).setCell ⟨w.heap.size + 1, 4, none⟩ (.slice (some ⟨b, 0, none⟩) n n)).setCell ⟨w.heap.size + 1 + 1, 0, none⟩ (.int .i64 0)).cell? ⟨w.heap.size + 1, 6, none⟩ = some (.bool false) := by go_simp
  have v0 : ((((((((((w5.setCell ⟨w.heap.size + 1, 0, none⟩ (.int .i64 0)).setCell ⟨w.heap.size + 1, 1, none⟩ (.int .i64 0)).setCell ⟨w.heap.size + 1, 2, none⟩ (.int .i64 0)).setCell ⟨w.heap.size + 1, 3, none⟩ (.slice none 0 0)).setCell ⟨w.heap.size + 1, 4, none⟩ (.slice none 0 0)).setCell ⟨w.heap.size + 1, 5, none⟩ (.int .i64 0)).setCell ⟨w.heap.size + 1, 6, none⟩ (.bool false)).setCell ⟨w.heap.size + 1, 0, none⟩ (.int .i64 (fn : Int))).setCell ⟨w.heap.size + 1, 4, none⟩ (.slice (some ⟨b, 0, none⟩) n n)).setCell ⟨w.heap.size + 1 + 1, 0, none⟩ (.int .i64 0)).cell? ⟨w.heap.size + 1 + 1, 0, none⟩ = some (.int .i64 0) := by go_simp
  have HB9 := hide (show Below w.heap.size w ((((((((((w5.setCell ⟨w.heap.size + 1, 0, none⟩ (.int .i64 0)).setCell ⟨w.heap.size + 1, 1, none⟩ (.int .i64 0)).setCell ⟨w.heap.size + 1, 2, none⟩ (.int .i64 0)).setCell ⟨w.heap.size + 1, 3, none⟩ (.slice none 0 0)).setCell ⟨w.heap.size + 1, 4, none⟩ (.slice none 0 0)).setCell ⟨w.heap.size + 1, 5, none⟩ (.int .i64 0)).setCell ⟨w.heap.size + 1, 6, none⟩ (.bool false)).setCell ⟨w.heap.size + 1, 0, none⟩ (.int .i64 (fn : Int))).setCell ⟨w.heap.size + 1, 4, none⟩ (.slice (some ⟨b, 0, none⟩) n n)).setCell ⟨w.heap.size + 1 + 1, 0, none⟩ (.int .i64 0)) from ((((((((((hbw.setCell (p := ⟨w.heap.size + 1, 0, none⟩) (by simp) _).setCell (p := ⟨w.heap.size + 1, 1, none⟩) (by simp) _).setCell (p := ⟨w.heap.size + 1, 2, none⟩) (by simp) _).setCell (p := ⟨w.heap.size + 1, 3, none⟩) (by simp) _).setCell (p := ⟨w.heap.size + 1, 4, none⟩) (by simp) _).setCell (p := ⟨w.heap.size + 1, 5, none⟩) (by simp) _).setCell (p := ⟨w.heap.size + 1, 6, none⟩) (by simp) _).setCell (p := ⟨w.heap.size + 1, 0, none⟩) (by simp) _).setCell (p := ⟨w.heap.size + 1, 4, none⟩) (by simp) _).setCell (p := ⟨w.heap.size + 1 + 1, 0, none⟩) (by simp <;> omega) _))
  have HR9 : Hid (((((((((((w5.setCell ⟨w.heap.size + 1, 0, none⟩ (.int .i64 0)).setCell ⟨w.heap.size + 1, 1, none⟩ (.int .i64 0)).setCell ⟨w.heap.size + 1, 2, none⟩ (.int .i64 0)).setCell ⟨w.heap.size + 1, 3, none⟩ (.slice none 0 0)).setCell ⟨w.heap.size + 1, 4, none⟩ (.slice none 0 0)).setCell ⟨w.heap.size + 1, 5, none⟩ (.int .i64 0)).setCell ⟨w.heap.size + 1, 6, none⟩ (.bool false)).setCell ⟨w.heap.size + 1, 0, none⟩ (.int .i64 (fn : Int))).setCell ⟨w.heap.size + 1, 4, none⟩ (.slice (some ⟨b, 0, none⟩) n n)).setCell ⟨w.heap.size + 1 + 1, 0, none⟩ (.int .i64 0)).heap[b]? = some (.cells (iV (List.replicate n 0)).toArray 3 (0, 0))) := by
    rw [heap_setCell_other _ _ _ _ (by simp; omega), heap_setCell_other _ _ _ _ (by simp; omega), heap_setCell_other _ _ _ _ (by simp; omega), heap_setCell_other _ _ _ _ (by simp; omega), heap_setCell_other _ _ _ _ (by simp; omega), heap_setCell_other _ _ _ _ (by simp; omega), heap_setCell_other _ _ _ _ (by simp; omega), heap_setCell_other _ _ _ _ (by simp; omega), heap_setCell_other _ _ _ _ (by simp; omega), heap_setCell_other _ _ _ _ (by simp; omega)]
    exact HQ3.out
  generalize ((((((((((w5.setCell ⟨w.heap.size + 1, 0, none⟩ (.int .i64 0)).setCell ⟨w.heap.size + 1, 1, none⟩ (.int .i64 0)).setCell ⟨w.heap.size + 1, 2, none⟩ (.int .i64 0)).setCell ⟨w.heap.size + 1, 3, none⟩ (.slice none 0 0)).setCell ⟨w.heap.size + 1, 4, none⟩ (.slice none 0 0)).setCell ⟨w.heap.size + 1, 5, none⟩ (.int .i64 0)).setCell ⟨w.heap.size + 1, 6, none⟩ (.bool false)).setCell ⟨w.heap.size + 1, 0, none⟩ (.int .i64 (fn : Int))).setCell ⟨w.heap.size + 1, 4, none⟩ (.slice (some ⟨b, 0, none⟩) n n)).setCell ⟨w.heap.size + 1 + 1, 0, none⟩ (.int .i64 0)) = w9 at x0 x1 x2 x3 x4 x5 x6 v0 HB9 HR9 ⊢
  refine leaves_cons (f := 51) (args := #[.pointer (some ⟨w.heap.size + 1 + 1, 0, none⟩)]) (by simp) (by simp [go_sem]) ?_
  refine (begd_idle (w.heap.size + 1 + 1) w9).mono ?_
  rintro e u' wz ⟨rfl, rfl, hbz⟩
  replace x0 := keep_cell x0 hbz
  replace x1 := keep_cell x1 hbz
  replace x2 := keep_cell x2 hbz
  replace x3 := keep_cell x3 hbz
  replace x4 := keep_cell x4 hbz
  replace x5 := keep_cell x5 hbz
  replace x6 := keep_cell x6 hbz
  replace v0 := keep_cell v0 hbz
  refine ⟨.tuple #[.agg #[.int .i64 (fn : Int), .int .i64 0, .int .i64 0, .slice none 0 0, .slice (some ⟨b, 0, none⟩) n n, .int .i64 0, .bool false], .int .i64 0], ?_, ⟨b, rfl, (hbz.block b (lt_row HR9.out)).trans HR9.out, chain HB9.out hbz⟩⟩
  simp [results, Tryz.results36, go_sem, x0, x1, x2, x3, x4, x5, x6, v0]
end Go.Proofs.YtbpcibnomkfglaaGreatDoor
/- The job of one function: begun and run. -/

namespace Go.Proofs.YtbpcibnomkfglaaGreatDoor
open Go.RowKit Go.ChangeShapes Go.WideShapes Go.ChangeAt Go.Deep

theorem one_small {code : List (Int × Int)} {n : Nat} (hn : code.length = n) (hb : n ≤ 1000000000) : ∀ f ∈ oneF code, f.code.length ≤ 1000000000 ∧ f.name.size < 4294967281 := fun f hf => by
  simp [oneF] at hf
  subst hf
  exact ⟨by show code.length ≤ _; omega, by show fnm.size < _; decide⟩

theorem one_begin {w : World} {h : Nat} {a : Option Addr} {n cap : Nat} (code : List (Int × Int)) (hrow : w.heap[h]? = some (.cells [.string fnm, .int .i64 0, .int .i64 0, .slice a n cap].toArray 43 (0, 0))) (hn : code.length = n) (hr : Reads w a (insV code)) (hE : Env w) (hb : n ≤ 1000000000) (hC : oneL code = (0, 0, 0)) :
    Calls Tryz.prog 36 #[.agg #[.slice (some ⟨h, 0, none⟩) 1 1, .int .i64 0, .slice none 0 0, .int .i64 100, .int .i64 50], .int .i64 0, .slice none 0 0] w fun e w' => ∃ b, e = .returned (.tuple #[.agg #[.int .i64 0, .int .i64 0, .int .i64 0, .slice none 0 0, .slice (some ⟨b, 0, none⟩) 0 0, .int .i64 0, .bool false], .int .i64 0]) ∧ Below w.heap.size w w' := by
  have C := begin_zero (oneJ h) _ (oneF code) [] 0 ⟨fnm, 0, 0, code⟩ 0 w (job_one hrow hn hr) hE (by simp [oneF]) (one_small hn hb) (by show (oneL code).2.2 = 0; rw [hC]) rfl rfl rfl (by omega)
  refine C.mono ?_
  rintro e w' ⟨b, rfl, _, h3⟩
  exact ⟨b, rfl, h3⟩

end Go.Proofs.YtbpcibnomkfglaaGreatDoor
/- Run and its answer, by reading; the job of one function. -/

namespace Go.Proofs.YtbpcibnomkfglaaGreatDoor
open Go.RowKit Go.ChangeShapes Go.WideShapes Go.ChangeAt Go.Deep

/-- What Run answers: a state and an event, in memory of their own. -/
def RunQ (w : World) (q : PM) (e : Ending) (w' : World) : Prop := ∃ sa sc la lc aa ac, e = .returned (.tuple #[.agg #[.int .i64 (q.fn : Int), .int .i64 (q.pc : Int), .int .i64 (q.fu : Int), .slice sa q.sk.length sc, .slice la q.lo.length lc, .int .i64 q.kd, .bool q.wt], .agg #[.int .i64 q.ek, .int .i64 q.ef, .int .i64 q.ei, .int .i64 (q.es : Int), .slice aa q.ar.length ac, .int .i64 q.er, .int .i64 q.ev]]) ∧
  Reads w' sa (iV q.sk.reverse) ∧ (sa = none → q.sk.length = 0 ∧ sc = 0) ∧ Reads w' la (iV q.lo) ∧ (la = none → q.lo.length = 0 ∧ lc = 0) ∧ Reads w' aa (iV q.ar) ∧ (aa = none → q.ar.length = 0 ∧ ac = 0) ∧ ((∀ x, sa = some x → w.heap.size ≤ x.block) ∧ (∀ x, la = some x → w.heap.size ≤ x.block) ∧ (∀ x, aa = some x → w.heap.size ≤ x.block)) ∧ Below w.heap.size w w'
theorem reads_setCells {w : World} {a : Option Addr} {xs vs : List Value} {b : Nat} (h : Reads w a xs) (hb : ∀ x, a = some x → x.block ≠ b) (o : Nat) : Reads (w.setCells b o vs) a xs := by
  rcases h with h | ⟨k, off, rfl, h⟩
  · exact .inl h
  · refine .inr ⟨k, off, rfl, fun j u hu => ?_⟩
    rw [World.cell?_of_block (setCells_other (k := k) (b := b) (hb _ rfl) vs o w)]
    exact h j u hu
end Go.Proofs.YtbpcibnomkfglaaGreatDoor
/- Begin, of a function with arguments. -/

namespace Go.Proofs.YtbpcibnomkfglaaGreatDoor
open Go.RowKit Go.ChangeShapes Go.WideShapes Go.ChangeAt Go.Deep

set_option maxHeartbeats 2000000 in
set_option maxRecDepth 100000 in
theorem locals_any (n na : Nat) (hna : na ≤ n) (hn : n ≤ 1000000000) (aa : Option Addr) (ac : Nat) (xs : List Int) (hl : xs.length = na) (w : World) (hr : Reads w aa (iV xs)) : Calls Tryz.prog 55 #[.int .i64 (n : Int), .slice aa na ac] w fun e w' => e = .returned (.slice (some ⟨w.heap.size, 0, none⟩) n n) ∧ w'.heap[w.heap.size]? = some (.cells (iV (xs ++ List.replicate (n - na) 0)).toArray 3 (0, 0)) ∧ Below w.heap.size w w' := by
  have hmk := mk_ints n hn
  have hb0 := alloc_below w (.cells (iV (List.replicate n 0)).toArray 3)
  have hcell := heap_alloc_new w (.cells (iV (List.replicate n 0)).toArray 3)
  have hr1 := hr.below hb0
  have HB0 := hide hb0
  have HC := hide hcell
  have hat : 0 < (iV xs).length → ∃ ad, aa = some ad ∧ ∀ j v, (iV xs)[j]? = some v → (w.alloc (.cells (iV (List.replicate n 0)).toArray 3)).cell? (ad.add j) = some v := fun h0 => by
    rcases hr1 with h | ⟨b, off, e, h⟩
    · rw [h] at h0; simp at h0
    · exact ⟨_, e, fun j u hu => by rw [add_none]; exact h j u hu⟩
  have HAT := hide hat
  clear hb0 hcell hr hr1 hat
  go_enter Tryz.func55, Tryz.ntmps55
  go_wp2_with (refine wpList_copy_splice rfl (.tmp 8) (.tmp 9) 28 28 rfl 3 Tryz.underlying28 (by kernel_rfl) (some ⟨w.heap.size, 0, none⟩) aa n n na ac rfl rfl w.heap.size 0 (iV (List.replicate n 0)) 3 HC.out (iV xs) (by rw [iV_len, hl]; exact (Nat.min_eq_left hna).symm) (fun h => ⟨rfl, HAT.out h⟩) (by rw [iV_len, iV_len]; simp; omega) (iV_one xs) w.heap.size w HB0.out (Nat.le_refl _) ?_; intro w2 HG2 hB2)
  have hG := HG2.out
  have hsp : splice (iV (List.replicate n 0)) 0 (iV xs) = iV (xs ++ List.replicate (n - na) 0) := by
    unfold splice
    rw [iV_app]
    simp only [List.take_zero, List.nil_append, Nat.zero_add, iV_len, hl]
    simp [iV]
  rw [hsp] at hG
  go_ret
  exact ⟨rfl, hG, hB2⟩
set_option linter.unusedSimpArgs false in
set_option maxRecDepth 100000 in
set_option maxHeartbeats 4000000 in
theorem begin_args (j : JV) (cs : List Value) (fs : List Fun) (args : List Int) (fn : Nat) (f : Fun) (n : Nat) (w : World) (hJ : JobR w j cs fs args) (hE : Env w) (hf : fs.length ≤ 1000000000) (hs : ∀ f ∈ fs, f.code.length ≤ 1000000000 ∧ f.name.size < 4294967281)
    (hC : (checkL fs j.main args.length j.fuel j.tasks).2.2 = 0) (hff : fs[fn]? = some f) (aa : Option Addr) (na ac : Nat) (xs : List Int) (hxl : xs.length = na) (hxr : Reads w aa (iV xs)) (ha : f.args = (na : Int)) (hna : na ≤ n) (hn : f.locals = (n : Int)) (hnl : n ≤ 1000000000) :
    Calls Tryz.prog 36 #[.agg #[.slice j.fa j.nf j.fc, .int .i64 j.main, .slice j.aa j.na j.ac, .int .i64 j.fuel, .int .i64 j.tasks], .int .i64 (fn : Int), .slice aa na ac] w fun e w' => ∃ b, e = .returned (.tuple #[.agg #[.int .i64 (fn : Int), .int .i64 0, .int .i64 0, .slice none 0 0, .slice (some ⟨b, 0, none⟩) n n, .int .i64 0, .bool false], .int .i64 0]) ∧ w'.heap[b]? = some (.cells (iV (xs ++ List.replicate (n - na) 0)).toArray 3 (0, 0)) ∧ w.heap.size ≤ b ∧ Below w.heap.size w w' := by
  have hmf : ∀ (fn : Fn) (first cap : Array Value) (w : World), (Instr.makeFunc fn first cap).run Tryz.prog w = .ok (.func fn first cap) w := fun _ _ _ _ => rfl
  obtain ⟨hb0, hsz, p1, p3, p4⟩ := three_blocks w (.cells #[.slice j.fa j.nf j.fc, .int .i64 j.main, .slice j.aa j.na j.ac, .int .i64 j.fuel, .int .i64 j.tasks] 30) (.cells #[.int .i64 0, .int .i64 0, .int .i64 0, .slice none 0 0, .slice none 0 0, .int .i64 0, .bool false] 70) (.cells #[.int .i64 0] 24)
  have C1 := check_any j cs fs args _ (hJ.below hb0) (hE.below hb0) hf hs
  unfold CheckPost at C1
  rw [hC] at C1
  simp only [JV.cells] at C1
  have hfl : fn < fs.length := (List.getElem?_eq_some_iff.1 hff).1
  have hfe : fs[fn] = f := (List.getElem?_eq_some_iff.1 hff).2
  have HFE := hide hfe
  have HHA := hide ha
  have HHN := hide hn
  have HXR := hide (hxr.below hb0)
  have HXL := hide hxl
  clear hfe ha hn hff hxr
  have hJ0 := hJ.below hb0
  have HNF := hide hJ.nf
  go_enter_defers Tryz.func36, Tryz.ntmps36
  go_upto_region 2 with fail
  generalize (((w.alloc (.cells #[.slice j.fa j.nf j.fc, .int .i64 j.main, .slice j.aa j.na j.ac, .int .i64 j.fuel, .int .i64 j.tasks] 30)).alloc (.cells #[.int .i64 0, .int .i64 0, .int .i64 0, .slice none 0 0, .slice none 0 0, .int .i64 0, .bool false] 70)).alloc (.cells #[.int .i64 0] 24)) = w0 at *
  have j0 : w0.cell? ⟨w.heap.size, 0, none⟩ = some (.slice j.fa j.nf j.fc) := by simp only [World.cell?, p1]; rfl
  have j1 : w0.cell? ⟨w.heap.size, 1, none⟩ = some (.int .i64 j.main) := by simp only [World.cell?, p1]; rfl
  have j2 : w0.cell? ⟨w.heap.size, 2, none⟩ = some (.slice j.aa j.na j.ac) := by simp only [World.cell?, p1]; rfl
  have j3 : w0.cell? ⟨w.heap.size, 3, none⟩ = some (.int .i64 j.fuel) := by simp only [World.cell?, p1]; rfl
  have j4 : w0.cell? ⟨w.heap.size, 4, none⟩ = some (.int .i64 j.tasks) := by simp only [World.cell?, p1]; rfl
  have HB0 := hide hb0
  have HP3 := hide p3
  have HP4 := hide p4
  have HJ0 := hide hJ0
  clear hJ hE hs hb0 p1 p3 p4 hJ0 hC
  go_wp2_with (go_at_call 16; go_must (with_reducible refine C1.mono ?_; (rintro e w1 ⟨rfl, hb1⟩); refine Hid.out ?_))
  refine Lib.hid ?_
  clear C1
  have hb01 := hb1
  replace j0 := keep_cell j0 hb1
  obtain ⟨fb, off, ca, cc, ef, y0, y1, y2, y3, _, _⟩ := JobR.fun_at (HJ0.out.below hb1) hfl
  rw [HFE.out] at y0 y1 y2 y3
  rw [HHA.out] at y1
  rw [HHN.out] at y2
  have hkn : (fn : Int) < (j.nf : Int) := by rw [HNF.out]; omega
  have T1 := fun w => thas_any (j.nf : Int) (fn : Int) (by rw [HNF.out]; omega) w
  have hq : hasB (j.nf : Int) (fn : Int) = true := by simp [hasB, inB]; omega
  rw [hq] at T1
  rw [ef] at j0
  have C3 := fun (e : Int) W => tneed_yes e W
  clear j1 j2 j3 j4 hb1
  have C4 := fun W (hW : Below w0.heap.size w0 W) => locals_any n na hna hnl aa ac xs hxl W (HXR.out.below hW)
  clear hq
  go_wp2_with (first
    | (go_at_call 53; go_must (with_reducible refine (C3 _ _).mono ?_; (rintro e w3' ⟨rfl, rfl⟩); refine Hid.out ?_)))
  refine Lib.hid ?_
  go_wp2_with (first
    | (go_at_call 54; go_must (with_reducible refine (T1 _).mono ?_; (rintro e w3' ⟨rfl, rfl⟩); refine Hid.out ?_)))
  refine Lib.hid ?_
  go_wp2_with (first
    | (go_at_call 53; go_must (with_reducible refine (C3 _ _).mono ?_; (rintro e w3' ⟨rfl, rfl⟩); refine Hid.out ?_)))
  refine Lib.hid ?_
  go_wp2_with (first
    | (go_at_call 53; go_must (with_reducible refine (C3 _ _).mono ?_; (rintro e w3' ⟨rfl, rfl⟩); refine Hid.out ?_)))
  refine Lib.hid ?_
  go_wp2_with (first
    | (go_at_call 55; go_must (with_reducible refine (C4 _ hb01).mono ?_; (rintro e w5 ⟨rfl, q3, hbn⟩); refine Hid.out ?_)))
  refine Lib.hid ?_
  have hb5 : Below w0.heap.size w0 w5 := hb01.trans (hbn.mono hb01.size)
  have hbw := HB0.out.trans (hb5.mono HB0.out.size)
  have q1 := (hb5.block (w.heap.size + 1) (by rw [hsz]; omega)).trans HP3.out
  have q2 := (hb5.block (w.heap.size + 1 + 1) (by rw [hsz]; omega)).trans HP4.out
  have hlt3 : w.heap.size + 3 ≤ w3'.heap.size := by have := hb01.size; omega
  clear hbn
  generalize w3'.heap.size = b at q3 hlt3 ⊢
  have z0 : w5.cell? ⟨w.heap.size + 1, 0, none⟩ = some (.int .i64 0) := by simp [World.cell?, q1]
  have zf0 : w5.frozen? ⟨w.heap.size + 1, 0, none⟩ = false := by simp [World.frozen?, q1]
  have z1 : w5.cell? ⟨w.heap.size + 1, 1, none⟩ = some (.int .i64 0) := by simp [World.cell?, q1]
  have zf1 : w5.frozen? ⟨w.heap.size + 1, 1, none⟩ = false := by simp [World.frozen?, q1]
  have z2 : w5.cell? ⟨w.heap.size + 1, 2, none⟩ = some (.int .i64 0) := by simp [World.cell?, q1]
  have zf2 : w5.frozen? ⟨w.heap.size + 1, 2, none⟩ = false := by simp [World.frozen?, q1]
  have z3 : w5.cell? ⟨w.heap.size + 1, 3, none⟩ = some (.slice none 0 0) := by simp [World.cell?, q1]
  have zf3 : w5.frozen? ⟨w.heap.size + 1, 3, none⟩ = false := by simp [World.frozen?, q1]
  have z4 : w5.cell? ⟨w.heap.size + 1, 4, none⟩ = some (.slice none 0 0) := by simp [World.cell?, q1]
  have zf4 : w5.frozen? ⟨w.heap.size + 1, 4, none⟩ = false := by simp [World.frozen?, q1]
  have z5 : w5.cell? ⟨w.heap.size + 1, 5, none⟩ = some (.int .i64 0) := by simp [World.cell?, q1]
  have zf5 : w5.frozen? ⟨w.heap.size + 1, 5, none⟩ = false := by simp [World.frozen?, q1]
  have z6 : w5.cell? ⟨w.heap.size + 1, 6, none⟩ = some (.bool false) := by simp [World.cell?, q1]
  have zf6 : w5.frozen? ⟨w.heap.size + 1, 6, none⟩ = false := by simp [World.frozen?, q1]
  have y0' : w5.cell? ⟨w.heap.size + 1 + 1, 0, none⟩ = some (.int .i64 0) := by simp [World.cell?, q2]
  have yf0 : w5.frozen? ⟨w.heap.size + 1 + 1, 0, none⟩ = false := by simp [World.frozen?, q2]
  have HQ1 := hide q1
  have HQ2 := hide q2
  have HQ3 := hide q3
  clear q1 q2 q3 T1 C3 C4 y0 y1 y2 y3 j0 hsz HB0 hb01 hb5
  go_wp2_with fail
  have x0 : ((((((((((w5.setCell ⟨w.heap.size + 1, 0, none⟩ (.int .i64 0)).setCell ⟨w.heap.size + 1, 1, none⟩ (.int .i64 0)).setCell ⟨w.heap.size + 1, 2, none⟩ (.int .i64 0)).setCell ⟨w.heap.size + 1, 3, none⟩ (.slice none 0 0)).setCell ⟨w.heap.size + 1, 4, none⟩ (.slice none 0 0)).setCell ⟨w.heap.size + 1, 5, none⟩ (.int .i64 0)).setCell ⟨w.heap.size + 1, 6, none⟩ (.bool false)).setCell ⟨w.heap.size + 1, 0, none⟩ (.int .i64 (fn : Int))).setCell ⟨w.heap.size + 1, 4, none⟩ (.slice (some ⟨b, 0, none⟩) n n)).setCell ⟨w.heap.size + 1 + 1, 0, none⟩ (.int .i64 0)).cell? ⟨w.heap.size + 1, 0, none⟩ = some (.int .i64 (fn : Int)) := by go_simp
  have x1 : ((((((((((w5.setCell ⟨w.heap.size + 1, 0, none⟩ (.int .i64 0)).setCell ⟨w.heap.size + 1, 1, none⟩ (.int .i64 0)).setCell ⟨w.heap.size + 1, 2, none⟩ (.int .i64 0)).setCell ⟨w.heap.size + 1, 3, none⟩ (.slice none 0 0)).setCell ⟨w.heap.size + 1, 4, none⟩ (.slice none 0 0)).setCell ⟨w.heap.size + 1, 5, none⟩ (.int .i64 0)).setCell ⟨w.heap.size + 1, 6, none⟩ (.bool false)).setCell ⟨w.heap.size + 1, 0, none⟩ (.int .i64 (fn : Int))).setCell ⟨w.heap.size + 1, 4, none⟩ (.slice (some ⟨b, 0, none⟩) n n)).setCell ⟨w.heap.size + 1 + 1, 0, none⟩ (.int .i64 0)).cell? ⟨w.heap.size + 1, 1, none⟩ = some (.int .i64 0) := by go_simp
  have x2 : ((((((((((w5.setCell ⟨w.heap.size + 1, 0, none⟩ (.int .i64 0)).setCell ⟨w.heap.size + 1, 1, none⟩ (.int .i64 0)).setCell ⟨w.heap.size + 1, 2, none⟩ (.int .i64 0)).setCell ⟨w.heap.size + 1, 3, none⟩ (.slice none 0 0)).setCell ⟨w.heap.size + 1, 4, none⟩ (.slice none 0 0)).setCell ⟨w.heap.size + 1, 5, none⟩ (.int .i64 0)).setCell ⟨w.heap.size + 1, 6, none⟩ (.bool false)).setCell ⟨w.heap.size + 1, 0, none⟩ (.int .i64 (fn : Int))).setCell ⟨w.heap.size + 1, 4, none⟩ (.slice (some ⟨b, 0, none⟩) n n)).setCell ⟨w.heap.size + 1 + 1, 0, none⟩ (.int .i64 0)).cell? ⟨w.heap.size + 1, 2, none⟩ = some (.int .i64 0) := by go_simp
  have x3 : ((((((((((w5.setCell ⟨w.heap.size + 1, 0, none⟩ (.int .i64 0)).setCell ⟨w.heap.size + 1, 1, none⟩ (.int .i64 0)).setCell ⟨w.heap.size + 1, 2, none⟩ (.int .i64 0)).setCell ⟨w.heap.size + 1, 3, none⟩ (.slice none 0 0)).setCell ⟨w.heap.size + 1, 4, none⟩ (.slice none 0 0)).setCell ⟨w.heap.size + 1, 5, none⟩ (.int .i64 0)).setCell ⟨w.heap.size + 1, 6, none⟩ (.bool false)).setCell ⟨w.heap.size + 1, 0, none⟩ (.int .i64 (fn : Int))).setCell ⟨w.heap.size + 1, 4, none⟩ (.slice (some ⟨b, 0, none⟩) n n)).setCell ⟨w.heap.size + 1 + 1, 0, none⟩ (.int .i64 0)).cell? ⟨w.heap.size + 1, 3, none⟩ = some (.slice none 0 0) := by go_simp
  have x4a : ((((((((w5.setCell ⟨w.heap.size + 1, 0, none⟩ (.int .i64 0)).setCell ⟨w.heap.size + 1, 1, none⟩ (.int .i64 0)).setCell ⟨w.heap.size + 1, 2, none⟩ (.int .i64 0)).setCell ⟨w.heap.size + 1, 3, none⟩ (.slice none 0 0)).setCell ⟨w.heap.size + 1, 4, none⟩ (.slice none 0 0)).setCell ⟨w.heap.size + 1, 5, none⟩ (.int .i64 0)).setCell ⟨w.heap.size + 1, 6, none⟩ (.bool false)).setCell ⟨w.heap.size + 1, 0, none⟩ (.int .i64 (fn : Int))).cell? ⟨w.heap.size + 1, 4, none⟩ = some (.slice none 0 0) := by go_simp
  have x4 : ((((((((((w5.setCell ⟨w.heap.size + 1, 0, none⟩ (.int .i64 0)).setCell ⟨w.heap.size + 1, 1, none⟩ (.int .i64 0)).setCell ⟨w.heap.size + 1, 2, none⟩ (.int .i64 0)).setCell ⟨w.heap.size + 1, 3, none⟩ (.slice none 0 0)).setCell ⟨w.heap.size + 1, 4, none⟩ (.slice none 0 0)).setCell ⟨w.heap.size + 1, 5, none⟩ (.int .i64 0)).setCell ⟨w.heap.size + 1, 6, none⟩ (.bool false)).setCell ⟨w.heap.size + 1, 0, none⟩ (.int .i64 (fn : Int))).setCell ⟨w.heap.size + 1, 4, none⟩ (.slice (some ⟨b, 0, none⟩) n n)).setCell ⟨w.heap.size + 1 + 1, 0, none⟩ (.int .i64 0)).cell? ⟨w.heap.size + 1, 4, none⟩ = some (.slice (some ⟨b, 0, none⟩) n n) := by go_simp
  have x5 : ((((((((((w5.setCell ⟨w.heap.size + 1, 0, none⟩ (.int .i64 0)).setCell ⟨w.heap.size + 1, 1, none⟩ (.int .i64 0)).setCell ⟨w.heap.size + 1, 2, none⟩ (.int .i64 0)).setCell ⟨w.heap.size + 1, 3, none⟩ (.slice none 0 0)).setCell ⟨w.heap.size + 1, 4, none⟩ (.slice none 0 0)).setCell ⟨w.heap.size + 1, 5, none⟩ (.int .i64 0)).setCell ⟨w.heap.size + 1, 6, none⟩ (.bool false)).setCell ⟨w.heap.size + 1, 0, none⟩ (.int .i64 (fn : Int))).setCell ⟨w.heap.size + 1, 4, none⟩ (.slice (some ⟨b, 0, none⟩) n n)).setCell ⟨w.heap.size + 1 + 1, 0, none⟩ (.int .i64 0)).cell? ⟨w.heap.size + 1, 5, none⟩ = some (.int .i64 0) := by go_simp
  have x6 : ((((((((((w5.setCell ⟨w.heap.size + 1, 0, none⟩ (.int .i64 0)).setCell ⟨w.heap.size + 1, 1, none⟩ (.int .i64 0)).setCell ⟨w.heap.size + 1, 2, none⟩ (.int .i64 0)).setCell ⟨w.heap.size + 1, 3, none⟩ (.slice none 0 0)).setCell ⟨w.heap.size + 1, 4, none⟩ (.slice none 0 0)).setCell ⟨w.heap.size + 1, 5, none⟩ (.int .i64 0)).setCell ⟨w.heap.size + 1, 6, none⟩ (.bool false)).setCell ⟨w.heap.size + 1, 0, none⟩ (.int .i64 (fn : Int))).setCell ⟨w.heap.size + 1, 4, none⟩ (.slice (some ⟨b, 0, none⟩) n n)).setCell ⟨w.heap.size + 1 + 1, 0, none⟩ (.int .i64 0)).cell? ⟨w.heap.size + 1, 6, none⟩ = some (.bool false) := by go_simp
  have v0 : ((((((((((w5.setCell ⟨w.heap.size + 1, 0, none⟩ (.int .i64 0)).setCell ⟨w.heap.size + 1, 1, none⟩ (.int .i64 0)).setCell ⟨w.heap.size + 1, 2, none⟩ (.int .i64 0)).setCell ⟨w.heap.size + 1, 3, none⟩ (.slice none 0 0)).setCell ⟨w.heap.size + 1, 4, none⟩ (.slice none 0 0)).setCell ⟨w.heap.size + 1, 5, none⟩ (.int .i64 0)).setCell ⟨w.heap.size + 1, 6, none⟩ (.bool false)).setCell ⟨w.heap.size + 1, 0, none⟩ (.int .i64 (fn : Int))).setCell ⟨w.heap.size + 1, 4, none⟩ (.slice (some ⟨b, 0, none⟩) n n)).setCell ⟨w.heap.size + 1 + 1, 0, none⟩ (.int .i64 0)).cell? ⟨w.heap.size + 1 + 1, 0, none⟩ = some (.int .i64 0) := by go_simp
  have HB9 := hide (show Below w.heap.size w ((((((((((w5.setCell ⟨w.heap.size + 1, 0, none⟩ (.int .i64 0)).setCell ⟨w.heap.size + 1, 1, none⟩ (.int .i64 0)).setCell ⟨w.heap.size + 1, 2, none⟩ (.int .i64 0)).setCell ⟨w.heap.size + 1, 3, none⟩ (.slice none 0 0)).setCell ⟨w.heap.size + 1, 4, none⟩ (.slice none 0 0)).setCell ⟨w.heap.size + 1, 5, none⟩ (.int .i64 0)).setCell ⟨w.heap.size + 1, 6, none⟩ (.bool false)).setCell ⟨w.heap.size + 1, 0, none⟩ (.int .i64 (fn : Int))).setCell ⟨w.heap.size + 1, 4, none⟩ (.slice (some ⟨b, 0, none⟩) n n)).setCell ⟨w.heap.size + 1 + 1, 0, none⟩ (.int .i64 0)) from ((((((((((hbw.setCell (p := ⟨w.heap.size + 1, 0, none⟩) (by simp) _).setCell (p := ⟨w.heap.size + 1, 1, none⟩) (by simp) _).setCell (p := ⟨w.heap.size + 1, 2, none⟩) (by simp) _).setCell (p := ⟨w.heap.size + 1, 3, none⟩) (by simp) _).setCell (p := ⟨w.heap.size + 1, 4, none⟩) (by simp) _).setCell (p := ⟨w.heap.size + 1, 5, none⟩) (by simp) _).setCell (p := ⟨w.heap.size + 1, 6, none⟩) (by simp) _).setCell (p := ⟨w.heap.size + 1, 0, none⟩) (by simp) _).setCell (p := ⟨w.heap.size + 1, 4, none⟩) (by simp) _).setCell (p := ⟨w.heap.size + 1 + 1, 0, none⟩) (by simp <;> omega) _))
  have HR9 : Hid (((((((((((w5.setCell ⟨w.heap.size + 1, 0, none⟩ (.int .i64 0)).setCell ⟨w.heap.size + 1, 1, none⟩ (.int .i64 0)).setCell ⟨w.heap.size + 1, 2, none⟩ (.int .i64 0)).setCell ⟨w.heap.size + 1, 3, none⟩ (.slice none 0 0)).setCell ⟨w.heap.size + 1, 4, none⟩ (.slice none 0 0)).setCell ⟨w.heap.size + 1, 5, none⟩ (.int .i64 0)).setCell ⟨w.heap.size + 1, 6, none⟩ (.bool false)).setCell ⟨w.heap.size + 1, 0, none⟩ (.int .i64 (fn : Int))).setCell ⟨w.heap.size + 1, 4, none⟩ (.slice (some ⟨b, 0, none⟩) n n)).setCell ⟨w.heap.size + 1 + 1, 0, none⟩ (.int .i64 0)).heap[b]? = some (.cells (iV (xs ++ List.replicate (n - na) 0)).toArray 3 (0, 0))) := by
    rw [heap_setCell_other _ _ _ _ (by simp; omega), heap_setCell_other _ _ _ _ (by simp; omega), heap_setCell_other _ _ _ _ (by simp; omega), heap_setCell_other _ _ _ _ (by simp; omega), heap_setCell_other _ _ _ _ (by simp; omega), heap_setCell_other _ _ _ _ (by simp; omega), heap_setCell_other _ _ _ _ (by simp; omega), heap_setCell_other _ _ _ _ (by simp; omega), heap_setCell_other _ _ _ _ (by simp; omega), heap_setCell_other _ _ _ _ (by simp; omega)]
    exact HQ3.out
  generalize ((((((((((w5.setCell ⟨w.heap.size + 1, 0, none⟩ (.int .i64 0)).setCell ⟨w.heap.size + 1, 1, none⟩ (.int .i64 0)).setCell ⟨w.heap.size + 1, 2, none⟩ (.int .i64 0)).setCell ⟨w.heap.size + 1, 3, none⟩ (.slice none 0 0)).setCell ⟨w.heap.size + 1, 4, none⟩ (.slice none 0 0)).setCell ⟨w.heap.size + 1, 5, none⟩ (.int .i64 0)).setCell ⟨w.heap.size + 1, 6, none⟩ (.bool false)).setCell ⟨w.heap.size + 1, 0, none⟩ (.int .i64 (fn : Int))).setCell ⟨w.heap.size + 1, 4, none⟩ (.slice (some ⟨b, 0, none⟩) n n)).setCell ⟨w.heap.size + 1 + 1, 0, none⟩ (.int .i64 0)) = w9 at x0 x1 x2 x3 x4 x5 x6 v0 HB9 HR9 ⊢
  refine leaves_cons (f := 51) (args := #[.pointer (some ⟨w.heap.size + 1 + 1, 0, none⟩)]) (by simp) (by simp [go_sem]) ?_
  refine (begd_idle (w.heap.size + 1 + 1) w9).mono ?_
  rintro e u' wz ⟨rfl, rfl, hbz⟩
  replace x0 := keep_cell x0 hbz
  replace x1 := keep_cell x1 hbz
  replace x2 := keep_cell x2 hbz
  replace x3 := keep_cell x3 hbz
  replace x4 := keep_cell x4 hbz
  replace x5 := keep_cell x5 hbz
  replace x6 := keep_cell x6 hbz
  replace v0 := keep_cell v0 hbz
  refine ⟨.tuple #[.agg #[.int .i64 (fn : Int), .int .i64 0, .int .i64 0, .slice none 0 0, .slice (some ⟨b, 0, none⟩) n n, .int .i64 0, .bool false], .int .i64 0], ?_, ⟨b, rfl, (hbz.block b (lt_row HR9.out)).trans HR9.out, by omega, chain HB9.out hbz⟩⟩
  simp [results, Tryz.results36, go_sem, x0, x1, x2, x3, x4, x5, x6, v0]
end Go.Proofs.YtbpcibnomkfglaaGreatDoor
/- Many steps in a row; out of fuel on the way. A job of one function, with arguments and locals. -/

namespace Go.Proofs.YtbpcibnomkfglaaGreatDoor
open Go.RowKit Go.ChangeShapes Go.WideShapes Go.ChangeAt Go.Deep

theorem doM_keeps {fs : List Fun} {deep : Int} {s t : PM} {op n : Int} {u : Option (Int × Int)} (h : doM fs deep s op n = some (t, u)) : t.fu = s.fu ∧ t.es = s.es ∧ t.fn = s.fn := by
  unfold doM at h
  repeat' split at h
  all_goals first
    | (cases h; done)
    | (cases h; exact ⟨rfl, rfl, rfl⟩)
theorem stepM_of {fs : List Fun} {jf deep : Int} {s : PM} {f : Fun} {op n : Int} (hj : (s.fu : Int) < jf) (hs : s.small) (hf : fs[s.fn]? = some f) (hi : f.code[s.pc]? = some (op, n)) : stepM fs jf deep s = doM fs deep { s with fu := s.fu + 1, es := s.es + 1 } op n := by
  unfold stepM
  rw [if_pos hj, if_pos hs]
  simp only [hf, hi]
/-- So many steps, none of which comes to an event but the last one. -/
def walkN (fs : List Fun) (J deep : Int) : Nat → PM → Option PM
  | 0, s => some s
  | n + 1, s => if s.ek = 0 then (match stepM fs J deep s with | some (t, none) => walkN fs J deep n t | _ => none) else none
theorem stepM_big {fs : List Fun} {J deep : Int} {s : PM} (jf : Int) (hJ : 100000 < J) (hs : s.small) (hj : (s.fu : Int) < jf) : stepM fs jf deep s = stepM fs J deep s := by
  have : (s.fu : Int) < J := by have := hs.1; omega
  unfold stepM
  rw [if_pos hj, if_pos this]
theorem stepM_keeps {fs : List Fun} {jf deep : Int} {s t : PM} (h : stepM fs jf deep s = some (t, none)) : t.fu = s.fu + 1 ∧ t.es = s.es + 1 ∧ t.fn = s.fn := by
  unfold stepM at h
  split at h
  · split at h
    · split at h
      · split at h
        · have := doM_keeps h
          exact this
        · cases h
      · cases h
    · cases h
  · simp at h
theorem stepM_small {fs : List Fun} {jf deep : Int} {s t : PM} (h : stepM fs jf deep s = some (t, none)) : s.small := by
  unfold stepM at h
  split at h
  · split at h
    · rename_i hs
      exact hs
    · cases h
  · simp at h
theorem walkN_add {fs : List Fun} {J deep : Int} : ∀ (a b : Nat) (s t u : PM), walkN fs J deep a s = some t → walkN fs J deep b t = some u → walkN fs J deep (a + b) s = some u
  | 0, b, s, t, u, h1, h2 => by
    simp only [walkN, Option.some.injEq] at h1
    subst h1
    rw [Nat.zero_add]; exact h2
  | a + 1, b, s, t, u, h1, h2 => by
    rw [show a + 1 + b = a + b + 1 by omega]
    unfold walkN at h1 ⊢
    split at h1
    · rename_i hc
      rw [if_pos hc]
      split at h1
      · rename_i t' ht
        exact walkN_add a b t' t u h1 h2
      · cases h1
    · cases h1
theorem walkN_one {fs : List Fun} {J deep : Int} (hJ : 100000 < J) {s t : PM} {f : Fun} {op n : Int} (he : s.ek = 0) (hs : s.small) (hf : fs[s.fn]? = some f) (hi : f.code[s.pc]? = some (op, n)) (hd : doM fs deep { s with fu := s.fu + 1, es := s.es + 1 } op n = some (t, none)) : walkN fs J deep 1 s = some t := by
  unfold walkN
  rw [if_pos he, stepM_of (by have := hs.1; omega) hs hf hi, hd]
  rfl
theorem walkN_keeps {fs : List Fun} {J deep : Int} : ∀ (a : Nat) (s t : PM), walkN fs J deep a s = some t → t.fu = s.fu + a ∧ t.es = s.es + a ∧ t.fn = s.fn
  | 0, s, t, h => by
    simp only [walkN, Option.some.injEq] at h
    subst h
    exact ⟨rfl, rfl, rfl⟩
  | a + 1, s, t, h => by
    unfold walkN at h
    split at h
    · split at h
      · rename_i t' ht
        obtain ⟨e1, e2, e3⟩ := stepM_keeps ht
        obtain ⟨f1, f2, f3⟩ := walkN_keeps a t' t h
        exact ⟨by omega, by omega, by omega⟩
      · cases h
    · cases h
/-- There is fuel enough. -/
theorem run_walk {fs : List Fun} {J deep steps jf : Int} (hJ : 100000 < J) {k : Nat} : ∀ (a : Nat) (s t : PM), walkN fs J deep a s = some t → ((s.es + a : Nat) : Int) ≤ steps → ((s.fu + a : Nat) : Int) ≤ jf → runM fs jf deep steps (a + k) s = runM fs jf deep steps k t
  | 0, s, t, h, _, _ => by
    simp only [walkN, Option.some.injEq] at h
    subst h
    rw [Nat.zero_add]
  | a + 1, s, t, h, h1, h2 => by
    unfold walkN at h
    split at h
    · rename_i hc
      split at h
      · rename_i t' ht
        obtain ⟨e1, e2, _⟩ := stepM_keeps ht
        rw [show a + 1 + k = a + k + 1 by omega]
        rw [runM, if_pos ⟨hc, by omega⟩, stepM_big jf hJ (stepM_small ht) (by omega), ht]
        exact run_walk hJ a t' t h (by omega) (by omega)
      · cases h
    · cases h
/-- The fuel does not reach. -/
theorem run_short {fs : List Fun} {J deep steps jf : Int} (hJ : 100000 < J) {k : Nat} : ∀ (a : Nat) (s t : PM), walkN fs J deep a s = some t → ((s.es + a : Nat) : Int) ≤ steps → (s.fu : Int) ≤ jf → jf < ((s.fu + a : Nat) : Int) → ∃ u, runM fs jf deep steps (a + k) s = some (u, some (21, 0)) ∧ (u.es : Int) = s.es + (jf - s.fu)
  | 0, s, t, h, _, h2, h3 => by omega
  | a + 1, s, t, h, h1, h2, h3 => by
    unfold walkN at h
    split at h
    · rename_i hc
      rw [show a + 1 + k = a + k + 1 by omega]
      by_cases hj : (s.fu : Int) < jf
      · split at h
        · rename_i t' ht
          obtain ⟨e1, e2, _⟩ := stepM_keeps ht
          obtain ⟨u, q1, q2⟩ := run_short (steps := steps) (jf := jf) hJ (k := k) a t' t h (by omega) (by omega) (by omega)
          refine ⟨u, ?_, by omega⟩
          rw [runM, if_pos ⟨hc, by omega⟩, stepM_big jf hJ (stepM_small ht) hj, ht]
          exact q1
        · cases h
      · refine ⟨s, ?_, by omega⟩
        rw [runM, if_pos ⟨hc, by omega⟩]
        unfold stepM
        rw [if_neg hj]
    · cases h
theorem run_done {fs : List Fun} {jf deep steps : Int} {k : Nat} {s : PM} (h : s.ek ≠ 0) : runM fs jf deep steps k s = some (s, none) := by
  cases k with
  | zero => unfold runM; rw [if_neg (fun q => h q.1)]
  | succ k => unfold runM; rw [if_neg (fun q => h q.1)]

set_option maxRecDepth 100000 in
set_option maxHeartbeats 400000 in
theorem one_new (a : Option Addr) (n cap : Nat) (w : World) : Calls Tryz.prog 14 #[.slice a n cap] w fun r w' => ∃ h, r = .returned (.agg (oneJ h).cells) ∧ w'.heap[h]? = some (.cells [.string fnm, .int .i64 0, .int .i64 0, .slice a n cap].toArray 43 (0, 0)) ∧ w.heap.size ≤ h ∧ Below w.heap.size w w' := by
  go_enter Tryz.func14, Tryz.ntmps14
  go_wp2
  refine bodyPost_ret (v := .agg #[.slice (some ⟨w.heap.size + 1, 0, none⟩) 1 1, .int .i64 0, .slice none 0 0, .int .i64 100, .int .i64 50]) (by simp [results, Tryz.results14, go_sem]) rfl ?_
  refine ⟨w.heap.size + 1, rfl, ?_, by omega, ?_⟩
  · have := heap_alloc_new (w.alloc (.cells #[.slice (some ⟨w.heap.size + 1, 0, none⟩) 1 1, .int .i64 0, .slice none 0 0, .int .i64 100, .int .i64 50] 30)) (.cells #[.string ⟨#[102]⟩, .int .i64 0, .int .i64 0, .slice a n cap] 43)
    rwa [show (w.alloc (.cells #[.slice (some ⟨w.heap.size + 1, 0, none⟩) 1 1, .int .i64 0, .slice none 0 0, .int .i64 100, .int .i64 50] 30)).heap.size = w.heap.size + 1 by simp] at this
  · exact ((Below.refl _ _).alloc (Nat.le_refl _) _).alloc (by simp) _

/-- The job of one function, whatever its numbers. -/
theorem job_gen {w : World} {h : Nat} {a : Option Addr} {n cap : Nat} {code : List (Int × Int)} (ar lo fuel tasks : Int) (aa : Option Addr) (na ac : Nat) (args : List Int) (hrow : w.heap[h]? = some (.cells [.string fnm, .int .i64 ar, .int .i64 lo, .slice a n cap].toArray 43 (0, 0))) (hn : code.length = n) (hr : Reads w a (insV code)) (hna : args.length = na) (hra : Reads w aa (iV args)) :
    JobR w ⟨some ⟨h, 0, none⟩, 1, 1, 0, aa, na, ac, fuel, tasks⟩ [.slice a n cap] [⟨fnm, ar, lo, code⟩] args :=
  ⟨rfl, Nat.le_refl _, rfl, .inr ⟨h, 0, rfl, lt_row hrow, fun j hj i v hv => by
      have hj0 : j = 0 := by simp [frs] at hj; omega
      subst hj0
      rw [show 0 + 0 * 4 + i = i by omega]
      exact cell_row hrow hv⟩, fun i h h' => by
        have hi : i = 0 := by simp at h; omega
        subst hi
        exact ⟨a, cap, by simp [hn], by simpa using hr⟩, hna.symm, hra⟩
theorem check_gen {f : Fun} {na : Nat} {fuel tasks : Int} (h1 : 1 ≤ fuel ∧ fuel ≤ 5000) (h2 : 1 ≤ tasks ∧ tasks ≤ 500) (h3 : (na : Int) = f.args) (h4 : (funcErr [f] 0 f).2 = 0) : (checkL [f] 0 na fuel tasks).2.2 = 0 := by
  have hj : jobErr [f] 0 na fuel tasks = 0 := by
    unfold jobErr
    simp [hasB, inB, h3]
    omega
  unfold checkL
  rw [if_pos hj]
  unfold checkFrom
  rw [if_pos h4]
  rfl
theorem deps_gen {f : Fun} {na : Nat} {fuel tasks : Int} {D : List Int} (hc : (checkL [f] 0 na fuel tasks).2.2 = 0) (hd : depthsL [f.args] f.code = .ok D) : depsOf [f] 0 na fuel tasks 0 = D := by
  unfold depsOf
  rw [if_pos ⟨hc, by simp [hasB, inB]⟩]
  simp [hd]
end Go.Proofs.YtbpcibnomkfglaaGreatDoor
