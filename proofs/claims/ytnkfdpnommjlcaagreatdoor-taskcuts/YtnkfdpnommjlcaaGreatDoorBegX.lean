/- Begin, of a function with arguments. -/
import Derived.Test.YtnkfdpnommjlcaaGreatDoorRunU
import Derived.Test.YtnkfdpnommjlcaaGreatDoorAlive
import Derived.Test.YtnkfdpnommjlcaaGreatDoorMade
import Derived.Laws.CopyOwn
namespace Go.Proofs.YtnkfdpnommjlcaaGreatDoor
open Go.RowKit Go.ChangeShapes Go.WideShapes Go.ChangeAt Go.Deep

/-- Three new blocks. -/
theorem three_blocks (w : World) (a b c : Obj) : Below w.heap.size w (((w.alloc a).alloc b).alloc c) ∧ (((w.alloc a).alloc b).alloc c).heap.size = w.heap.size + 3 ∧ (((w.alloc a).alloc b).alloc c).heap[w.heap.size]? = some a ∧ (((w.alloc a).alloc b).alloc c).heap[w.heap.size + 1]? = some b ∧ (((w.alloc a).alloc b).alloc c).heap[w.heap.size + 1 + 1]? = some c := by
  refine ⟨(((Below.refl _ _).alloc (Nat.le_refl _) _).alloc (by simp) _).alloc (by simp <;> omega) _, by simp, ?_, ?_, ?_⟩
  · rw [heap_alloc_old _ _ (by simp <;> omega), heap_alloc_old _ _ (by simp), heap_alloc_new]
  · rw [heap_alloc_old _ _ (by simp)]
    have := heap_alloc_new (w.alloc a) b
    simpa using this
  · have := heap_alloc_new ((w.alloc a).alloc b) c
    simpa using this

set_option maxHeartbeats 2000000 in
set_option maxRecDepth 100000 in
set_option linter.unusedSimpArgs false in
theorem begd_idle (a : Nat) (w : World) :
    CallsD Tryz.prog 21 #[.pointer (some ⟨a, 0, none⟩)] .returning w fun e u' w' => e = .returned (.tuple #[]) ∧ u' = .returning ∧ Below w.heap.size w w' := by
  refine callsD_of_wpS Tryz.func21 rfl fun c₀ cs hu => ?_
  apply wpS_seq
  apply wpS_region
  simp [wpOpsS, go_sem, recoverD, hu, Tryz.ntmps21, Exit.thenS, Array.replicate]
  refine (wentUp_nil w).mono ?_
  rintro e w1 ⟨rfl, hb1⟩
  have hnw := heap_alloc_new w1 (.cells #[.int .i64 0, .int .i64 0] 35)
  have n0 : (w1.alloc (.cells #[.int .i64 0, .int .i64 0] 35)).cell? ⟨w1.heap.size, 0, none⟩ = some (.int .i64 0) := by simp only [World.cell?, hnw]; rfl
  have n1 : (w1.alloc (.cells #[.int .i64 0, .int .i64 0] 35)).cell? ⟨w1.heap.size, 1, none⟩ = some (.int .i64 0) := by simp only [World.cell?, hnw]; rfl
  have z0 : (w1.alloc (.cells #[.int .i64 0, .int .i64 0] 35)).frozen? ⟨w1.heap.size, 0, none⟩ = false := by simp only [World.frozen?, hnw]; rfl
  have z1 : (w1.alloc (.cells #[.int .i64 0, .int .i64 0] 35)).frozen? ⟨w1.heap.size, 1, none⟩ = false := by simp only [World.frozen?, hnw]; rfl
  clear hnw
  simp [go_sem, Exit.thenS, n0, n1, z0, z1]
  have hbel : Below w.heap.size w (w1.alloc (.cells #[.int .i64 0, .int .i64 0] 35)) := hb1.alloc hb1.size _
  clear n0 n1 z0 z1 hb1
  refine wpS_of_wp ?_
  generalize w1.alloc (.cells #[.int .i64 0, .int .i64 0] 35) = w2 at hbel ⊢
  go_wp2
  cases c₀
  simp_all [bodyPostS, results, Tryz.results21]

set_option maxHeartbeats 2000000 in
set_option maxRecDepth 100000 in
theorem locals_any (n na : Nat) (hna : na ≤ n) (hn : n ≤ 1000000000) (aa : Option Addr) (ac : Nat) (xs : List Int) (hl : xs.length = na) (w : World) (hr : Reads w aa (iV xs)) : Calls Tryz.prog 26 #[.int .i64 (n : Int), .slice aa na ac] w fun e w' => e = .returned (.slice (some ⟨w.heap.size, 0, none⟩) n n) ∧ w'.heap[w.heap.size]? = some (.cells (iV (xs ++ List.replicate (n - na) 0)).toArray 3 (0, 0)) ∧ Below w.heap.size w w' := by
  have hmk := mk_ints n hn
  have hb0 := alloc_below w (.cells (iV (List.replicate n 0)).toArray 3)
  have hcell := heap_alloc_new w (.cells (iV (List.replicate n 0)).toArray 3)
  have hr1 := hr.below hb0
  have HB0 := hide hb0
  have HC := hide hcell
  have hat : 0 < (iV xs).length → ∃ ad, aa = some ad ∧ ∀ j v, (iV xs)[j]? = some v → (w.alloc (.cells (iV (List.replicate n 0)).toArray 3)).cell? (ad.add j) = some v := fun h0 => by
    rcases hr1 with h | ⟨b, off, e, h⟩
    · rw [h] at h0; simp at h0
    · exact ⟨_, e, fun j u hu => by rw [add_none]; exact h j u hu⟩
  have HAT := hide hat
  clear hb0 hcell hr hr1 hat
  go_enter Tryz.func26, Tryz.ntmps26
  go_wp2_with (refine wpList_copy_splice rfl (.tmp 8) (.tmp 9) 23 23 rfl 3 Tryz.underlying23 (by kernel_rfl) (some ⟨w.heap.size, 0, none⟩) aa n n na ac rfl rfl w.heap.size 0 (iV (List.replicate n 0)) 3 HC.out (iV xs) (by rw [iV_len, hl]; exact (Nat.min_eq_left hna).symm) (fun h => ⟨rfl, HAT.out h⟩) (by rw [iV_len, iV_len]; simp; omega) (iV_one xs) w.heap.size w HB0.out (Nat.le_refl _) ?_; intro w2 HG2 hB2)
  have hG := HG2.out
  have hsp : splice (iV (List.replicate n 0)) 0 (iV xs) = iV (xs ++ List.replicate (n - na) 0) := by
    unfold splice
    rw [iV_app]
    simp only [List.take_zero, List.nil_append, Nat.zero_add, iV_len, hl]
    simp [iV]
  rw [hsp] at hG
  go_ret
  exact ⟨rfl, hG, hB2⟩
set_option linter.unusedSimpArgs false in
set_option maxRecDepth 100000 in
set_option maxHeartbeats 4000000 in
theorem begin_args (j : JV) (cs : List Value) (fs : List Fun) (args : List Int) (fn : Nat) (f : Fun) (n : Nat) (w : World) (hJ : JobR w j cs fs args) (hE : Env w) (hf : fs.length ≤ 9223372036854775807) (hs : ∀ f ∈ fs, f.code.length ≤ 9223372036854775807 ∧ f.name.size < 9223372036854775808)
    (hC : (checkL fs j.main args.length j.fuel j.tasks).2.2 = 0) (hff : fs[fn]? = some f) (aa : Option Addr) (na ac : Nat) (xs : List Int) (hxl : xs.length = na) (hxr : Reads w aa (iV xs)) (ha : f.args = (na : Int)) (hna : na ≤ n) (hn : f.locals = (n : Int)) (hnl : n ≤ 1000000000) :
    Calls Tryz.prog 8 #[.agg #[.slice j.fa j.nf j.fc, .int .i64 j.main, .slice j.aa j.na j.ac, .int .i64 j.fuel, .int .i64 j.tasks], .int .i64 (fn : Int), .slice aa na ac] w fun e w' => ∃ b, e = .returned (.tuple #[.agg #[.int .i64 (fn : Int), .int .i64 0, .int .i64 0, .slice none 0 0, .slice (some ⟨b, 0, none⟩) n n, .int .i64 0, .bool false], .int .i64 0]) ∧ w'.heap[b]? = some (.cells (iV (xs ++ List.replicate (n - na) 0)).toArray 3 (0, 0)) ∧ Below w.heap.size w w' := by
  have hmf : ∀ (fn : Fn) (first cap : Array Value) (w : World), (Instr.makeFunc fn first cap).run Tryz.prog w = .ok (.func fn first cap) w := fun _ _ _ _ => rfl
  obtain ⟨hb0, hsz, p1, p3, p4⟩ := three_blocks w (.cells #[.slice j.fa j.nf j.fc, .int .i64 j.main, .slice j.aa j.na j.ac, .int .i64 j.fuel, .int .i64 j.tasks] 25) (.cells #[.int .i64 0, .int .i64 0, .int .i64 0, .slice none 0 0, .slice none 0 0, .int .i64 0, .bool false] 29) (.cells #[.int .i64 0] 30)
  have C1 := check_any j cs fs args _ (hJ.below hb0) (hE.below hb0) hf hs
  unfold CheckPost at C1
  rw [hC] at C1
  simp only [JV.cells] at C1
  have hfl : fn < fs.length := (List.getElem?_eq_some_iff.1 hff).1
  have hfe : fs[fn] = f := (List.getElem?_eq_some_iff.1 hff).2
  have HFE := hide hfe
  have HHA := hide ha
  have HHN := hide hn
  have HXR := hide (hxr.below hb0)
  have HXL := hide hxl
  clear hfe ha hn hff hxr
  have hJ0 := hJ.below hb0
  have HNF := hide hJ.nf
  go_enter_defers Tryz.func8, Tryz.ntmps8
  go_upto_region 2 with fail
  generalize (((w.alloc (.cells #[.slice j.fa j.nf j.fc, .int .i64 j.main, .slice j.aa j.na j.ac, .int .i64 j.fuel, .int .i64 j.tasks] 25)).alloc (.cells #[.int .i64 0, .int .i64 0, .int .i64 0, .slice none 0 0, .slice none 0 0, .int .i64 0, .bool false] 29)).alloc (.cells #[.int .i64 0] 30)) = w0 at *
  have j0 : w0.cell? ⟨w.heap.size, 0, none⟩ = some (.slice j.fa j.nf j.fc) := by simp only [World.cell?, p1]; rfl
  have j1 : w0.cell? ⟨w.heap.size, 1, none⟩ = some (.int .i64 j.main) := by simp only [World.cell?, p1]; rfl
  have j2 : w0.cell? ⟨w.heap.size, 2, none⟩ = some (.slice j.aa j.na j.ac) := by simp only [World.cell?, p1]; rfl
  have j3 : w0.cell? ⟨w.heap.size, 3, none⟩ = some (.int .i64 j.fuel) := by simp only [World.cell?, p1]; rfl
  have j4 : w0.cell? ⟨w.heap.size, 4, none⟩ = some (.int .i64 j.tasks) := by simp only [World.cell?, p1]; rfl
  have HB0 := hide hb0
  have HP3 := hide p3
  have HP4 := hide p4
  have HJ0 := hide hJ0
  clear hJ hE hs hb0 p1 p3 p4 hJ0 hC
  go_wp2_with (go_at_call 23; go_must (with_reducible refine C1.mono ?_; (rintro e w1 ⟨rfl, hb1⟩); refine Hid.out ?_))
  refine Lib.hid ?_
  clear C1
  have hb01 := hb1
  replace j0 := keep_cell j0 hb1
  obtain ⟨fb, off, ca, cc, ef, y0, y1, y2, y3, _, _⟩ := JobR.fun_at (HJ0.out.below hb1) hfl
  rw [HFE.out] at y0 y1 y2 y3
  rw [HHA.out] at y1
  rw [HHN.out] at y2
  have hkn : (fn : Int) < (j.nf : Int) := by rw [HNF.out]; omega
  have T1 := fun w => thas_any (j.nf : Int) (fn : Int) (by rw [HNF.out]; omega) w
  have hq : hasB (j.nf : Int) (fn : Int) = true := by simp [hasB, inB]; omega
  rw [hq] at T1
  rw [ef] at j0
  have C3 := fun (e : Int) W => tneed_yes e W
  clear j1 j2 j3 j4 hb1
  have C4 := fun W (hW : Below w0.heap.size w0 W) => locals_any n na hna hnl aa ac xs hxl W (HXR.out.below hW)
  clear hq
  go_wp2_with (first
    | (go_at_call 24; go_must (with_reducible refine (C3 _ _).mono ?_; (rintro e w3' ⟨rfl, rfl⟩); refine Hid.out ?_)))
  refine Lib.hid ?_
  go_wp2_with (first
    | (go_at_call 25; go_must (with_reducible refine (T1 _).mono ?_; (rintro e w3' ⟨rfl, rfl⟩); refine Hid.out ?_)))
  refine Lib.hid ?_
  go_wp2_with (first
    | (go_at_call 24; go_must (with_reducible refine (C3 _ _).mono ?_; (rintro e w3' ⟨rfl, rfl⟩); refine Hid.out ?_)))
  refine Lib.hid ?_
  go_wp2_with (first
    | (go_at_call 24; go_must (with_reducible refine (C3 _ _).mono ?_; (rintro e w3' ⟨rfl, rfl⟩); refine Hid.out ?_)))
  refine Lib.hid ?_
  go_wp2_with (first
    | (go_at_call 26; go_must (with_reducible refine (C4 _ hb01).mono ?_; (rintro e w5 ⟨rfl, q3, hbn⟩); refine Hid.out ?_)))
  refine Lib.hid ?_
  have hb5 : Below w0.heap.size w0 w5 := hb01.trans (hbn.mono hb01.size)
  have hbw := HB0.out.trans (hb5.mono HB0.out.size)
  have q1 := (hb5.block (w.heap.size + 1) (by rw [hsz]; omega)).trans HP3.out
  have q2 := (hb5.block (w.heap.size + 1 + 1) (by rw [hsz]; omega)).trans HP4.out
  have hlt3 : w.heap.size + 3 ≤ w3'.heap.size := by have := hb01.size; omega
  clear hbn
  generalize w3'.heap.size = b at q3 hlt3 ⊢
  have z0 : w5.cell? ⟨w.heap.size + 1, 0, none⟩ = some (.int .i64 0) := by simp [World.cell?, q1]
  have zf0 : w5.frozen? ⟨w.heap.size + 1, 0, none⟩ = false := by simp [World.frozen?, q1]
  have z1 : w5.cell? ⟨w.heap.size + 1, 1, none⟩ = some (.int .i64 0) := by simp [World.cell?, q1]
  have zf1 : w5.frozen? ⟨w.heap.size + 1, 1, none⟩ = false := by simp [World.frozen?, q1]
  have z2 : w5.cell? ⟨w.heap.size + 1, 2, none⟩ = some (.int .i64 0) := by simp [World.cell?, q1]
  have zf2 : w5.frozen? ⟨w.heap.size + 1, 2, none⟩ = false := by simp [World.frozen?, q1]
  have z3 : w5.cell? ⟨w.heap.size + 1, 3, none⟩ = some (.slice none 0 0) := by simp [World.cell?, q1]
  have zf3 : w5.frozen? ⟨w.heap.size + 1, 3, none⟩ = false := by simp [World.frozen?, q1]
  have z4 : w5.cell? ⟨w.heap.size + 1, 4, none⟩ = some (.slice none 0 0) := by simp [World.cell?, q1]
  have zf4 : w5.frozen? ⟨w.heap.size + 1, 4, none⟩ = false := by simp [World.frozen?, q1]
  have z5 : w5.cell? ⟨w.heap.size + 1, 5, none⟩ = some (.int .i64 0) := by simp [World.cell?, q1]
  have zf5 : w5.frozen? ⟨w.heap.size + 1, 5, none⟩ = false := by simp [World.frozen?, q1]
  have z6 : w5.cell? ⟨w.heap.size + 1, 6, none⟩ = some (.bool false) := by simp [World.cell?, q1]
  have zf6 : w5.frozen? ⟨w.heap.size + 1, 6, none⟩ = false := by simp [World.frozen?, q1]
  have y0' : w5.cell? ⟨w.heap.size + 1 + 1, 0, none⟩ = some (.int .i64 0) := by simp [World.cell?, q2]
  have yf0 : w5.frozen? ⟨w.heap.size + 1 + 1, 0, none⟩ = false := by simp [World.frozen?, q2]
  have HQ1 := hide q1
  have HQ2 := hide q2
  have HQ3 := hide q3
  clear q1 q2 q3 T1 C3 C4 y0 y1 y2 y3 j0 hsz HB0 hb01 hb5
  go_wp2_with fail
  have x0 : ((((((((((w5.setCell ⟨w.heap.size + 1, 0, none⟩ (.int .i64 0)).setCell ⟨w.heap.size + 1, 1, none⟩ (.int .i64 0)).setCell ⟨w.heap.size + 1, 2, none⟩ (.int .i64 0)).setCell ⟨w.heap.size + 1, 3, none⟩ (.slice none 0 0)).setCell ⟨w.heap.size + 1, 4, none⟩ (.slice none 0 0)).setCell ⟨w.heap.size + 1, 5, none⟩ (.int .i64 0)).setCell ⟨w.heap.size + 1, 6, none⟩ (.bool false)).setCell ⟨w.heap.size + 1, 0, none⟩ (.int .i64 (fn : Int))).setCell ⟨w.heap.size + 1, 4, none⟩ (.slice (some ⟨b, 0, none⟩) n n)).setCell ⟨w.heap.size + 1 + 1, 0, none⟩ (.int .i64 0)).cell? ⟨w.heap.size + 1, 0, none⟩ = some (.int .i64 (fn : Int)) := by go_simp
  have x1 : ((((((((((w5.setCell ⟨w.heap.size + 1, 0, none⟩ (.int .i64 0)).setCell ⟨w.heap.size + 1, 1, none⟩ (.int .i64 0)).setCell ⟨w.heap.size + 1, 2, none⟩ (.int .i64 0)).setCell ⟨w.heap.size + 1, 3, none⟩ (.slice none 0 0)).setCell ⟨w.heap.size + 1, 4, none⟩ (.slice none 0 0)).setCell ⟨w.heap.size + 1, 5, none⟩ (.int .i64 0)).setCell ⟨w.heap.size + 1, 6, none⟩ (.bool false)).setCell ⟨w.heap.size + 1, 0, none⟩ (.int .i64 (fn : Int))).setCell ⟨w.heap.size + 1, 4, none⟩ (.slice (some ⟨b, 0, none⟩) n n)).setCell ⟨w.heap.size + 1 + 1, 0, none⟩ (.int .i64 0)).cell? ⟨w.heap.size + 1, 1, none⟩ = some (.int .i64 0) := by go_simp
  have x2 : ((((((((((w5.setCell ⟨w.heap.size + 1, 0, none⟩ (.int .i64 0)).setCell ⟨w.heap.size + 1, 1, none⟩ (.int .i64 0)).setCell ⟨w.heap.size + 1, 2, none⟩ (.int .i64 0)).setCell ⟨w.heap.size + 1, 3, none⟩ (.slice none 0 0)).setCell ⟨w.heap.size + 1, 4, none⟩ (.slice none 0 0)).setCell ⟨w.heap.size + 1, 5, none⟩ (.int .i64 0)).setCell ⟨w.heap.size + 1, 6, none⟩ (.bool false)).setCell ⟨w.heap.size + 1, 0, none⟩ (.int .i64 (fn : Int))).setCell ⟨w.heap.size + 1, 4, none⟩ (.slice (some ⟨b, 0, none⟩) n n)).setCell ⟨w.heap.size + 1 + 1, 0, none⟩ (.int .i64 0)).cell? ⟨w.heap.size + 1, 2, none⟩ = some (.int .i64 0) := by go_simp
  have x3 : ((((((((((w5.setCell ⟨w.heap.size + 1, 0, none⟩ (.int .i64 0)).setCell ⟨w.heap.size + 1, 1, none⟩ (.int .i64 0)).setCell ⟨w.heap.size + 1, 2, none⟩ (.int .i64 0)).setCell ⟨w.heap.size + 1, 3, none⟩ (.slice none 0 0)).setCell ⟨w.heap.size + 1, 4, none⟩ (.slice none 0 0)).setCell ⟨w.heap.size + 1, 5, none⟩ (.int .i64 0)).setCell ⟨w.heap.size + 1, 6, none⟩ (.bool false)).setCell ⟨w.heap.size + 1, 0, none⟩ (.int .i64 (fn : Int))).setCell ⟨w.heap.size + 1, 4, none⟩ (.slice (some ⟨b, 0, none⟩) n n)).setCell ⟨w.heap.size + 1 + 1, 0, none⟩ (.int .i64 0)).cell? ⟨w.heap.size + 1, 3, none⟩ = some (.slice none 0 0) := by go_simp
  have x4a : ((((((((w5.setCell ⟨w.heap.size + 1, 0, none⟩ (.int .i64 0)).setCell ⟨w.heap.size + 1, 1, none⟩ (.int .i64 0)).setCell ⟨w.heap.size + 1, 2, none⟩ (.int .i64 0)).setCell ⟨w.heap.size + 1, 3, none⟩ (.slice none 0 0)).setCell ⟨w.heap.size + 1, 4, none⟩ (.slice none 0 0)).setCell ⟨w.heap.size + 1, 5, none⟩ (.int .i64 0)).setCell ⟨w.heap.size + 1, 6, none⟩ (.bool false)).setCell ⟨w.heap.size + 1, 0, none⟩ (.int .i64 (fn : Int))).cell? ⟨w.heap.size + 1, 4, none⟩ = some (.slice none 0 0) := by go_simp
  have x4 : ((((((((((w5.setCell ⟨w.heap.size + 1, 0, none⟩ (.int .i64 0)).setCell ⟨w.heap.size + 1, 1, none⟩ (.int .i64 0)).setCell ⟨w.heap.size + 1, 2, none⟩ (.int .i64 0)).setCell ⟨w.heap.size + 1, 3, none⟩ (.slice none 0 0)).setCell ⟨w.heap.size + 1, 4, none⟩ (.slice none 0 0)).setCell ⟨w.heap.size + 1, 5, none⟩ (.int .i64 0)).setCell ⟨w.heap.size + 1, 6, none⟩ (.bool false)).setCell ⟨w.heap.size + 1, 0, none⟩ (.int .i64 (fn : Int))).setCell ⟨w.heap.size + 1, 4, none⟩ (.slice (some ⟨b, 0, none⟩) n n)).setCell ⟨w.heap.size + 1 + 1, 0, none⟩ (.int .i64 0)).cell? ⟨w.heap.size + 1, 4, none⟩ = some (.slice (some ⟨b, 0, none⟩) n n) := by go_simp
  have x5 : ((((((((((w5.setCell ⟨w.heap.size + 1, 0, none⟩ (.int .i64 0)).setCell ⟨w.heap.size + 1, 1, none⟩ (.int .i64 0)).setCell ⟨w.heap.size + 1, 2, none⟩ (.int .i64 0)).setCell ⟨w.heap.size + 1, 3, none⟩ (.slice none 0 0)).setCell ⟨w.heap.size + 1, 4, none⟩ (.slice none 0 0)).setCell ⟨w.heap.size + 1, 5, none⟩ (.int .i64 0)).setCell ⟨w.heap.size + 1, 6, none⟩ (.bool false)).setCell ⟨w.heap.size + 1, 0, none⟩ (.int .i64 (fn : Int))).setCell ⟨w.heap.size + 1, 4, none⟩ (.slice (some ⟨b, 0, none⟩) n n)).setCell ⟨w.heap.size + 1 + 1, 0, none⟩ (.int .i64 0)).cell? ⟨w.heap.size + 1, 5, none⟩ = some (.int .i64 0) := by go_simp
  have x6 : ((((((((((w5.setCell ⟨w.heap.size + 1, 0, none⟩ (.int .i64 0)).setCell ⟨w.heap.size + 1, 1, none⟩ (.int .i64 0)).setCell ⟨w.heap.size + 1, 2, none⟩ (.int .i64 0)).setCell ⟨w.heap.size + 1, 3, none⟩ (.slice none 0 0)).setCell ⟨w.heap.size + 1, 4, none⟩ (.slice none 0 0)).setCell ⟨w.heap.size + 1, 5, none⟩ (.int .i64 0)).setCell ⟨w.heap.size + 1, 6, none⟩ (.bool false)).setCell ⟨w.heap.size + 1, 0, none⟩ (.int .i64 (fn : Int))).setCell ⟨w.heap.size + 1, 4, none⟩ (.slice (some ⟨b, 0, none⟩) n n)).setCell ⟨w.heap.size + 1 + 1, 0, none⟩ (.int .i64 0)).cell? ⟨w.heap.size + 1, 6, none⟩ = some (.bool false) := by go_simp
  have v0 : ((((((((((w5.setCell ⟨w.heap.size + 1, 0, none⟩ (.int .i64 0)).setCell ⟨w.heap.size + 1, 1, none⟩ (.int .i64 0)).setCell ⟨w.heap.size + 1, 2, none⟩ (.int .i64 0)).setCell ⟨w.heap.size + 1, 3, none⟩ (.slice none 0 0)).setCell ⟨w.heap.size + 1, 4, none⟩ (.slice none 0 0)).setCell ⟨w.heap.size + 1, 5, none⟩ (.int .i64 0)).setCell ⟨w.heap.size + 1, 6, none⟩ (.bool false)).setCell ⟨w.heap.size + 1, 0, none⟩ (.int .i64 (fn : Int))).setCell ⟨w.heap.size + 1, 4, none⟩ (.slice (some ⟨b, 0, none⟩) n n)).setCell ⟨w.heap.size + 1 + 1, 0, none⟩ (.int .i64 0)).cell? ⟨w.heap.size + 1 + 1, 0, none⟩ = some (.int .i64 0) := by go_simp
  have HB9 := hide (show Below w.heap.size w ((((((((((w5.setCell ⟨w.heap.size + 1, 0, none⟩ (.int .i64 0)).setCell ⟨w.heap.size + 1, 1, none⟩ (.int .i64 0)).setCell ⟨w.heap.size + 1, 2, none⟩ (.int .i64 0)).setCell ⟨w.heap.size + 1, 3, none⟩ (.slice none 0 0)).setCell ⟨w.heap.size + 1, 4, none⟩ (.slice none 0 0)).setCell ⟨w.heap.size + 1, 5, none⟩ (.int .i64 0)).setCell ⟨w.heap.size + 1, 6, none⟩ (.bool false)).setCell ⟨w.heap.size + 1, 0, none⟩ (.int .i64 (fn : Int))).setCell ⟨w.heap.size + 1, 4, none⟩ (.slice (some ⟨b, 0, none⟩) n n)).setCell ⟨w.heap.size + 1 + 1, 0, none⟩ (.int .i64 0)) from ((((((((((hbw.setCell (p := ⟨w.heap.size + 1, 0, none⟩) (by simp) _).setCell (p := ⟨w.heap.size + 1, 1, none⟩) (by simp) _).setCell (p := ⟨w.heap.size + 1, 2, none⟩) (by simp) _).setCell (p := ⟨w.heap.size + 1, 3, none⟩) (by simp) _).setCell (p := ⟨w.heap.size + 1, 4, none⟩) (by simp) _).setCell (p := ⟨w.heap.size + 1, 5, none⟩) (by simp) _).setCell (p := ⟨w.heap.size + 1, 6, none⟩) (by simp) _).setCell (p := ⟨w.heap.size + 1, 0, none⟩) (by simp) _).setCell (p := ⟨w.heap.size + 1, 4, none⟩) (by simp) _).setCell (p := ⟨w.heap.size + 1 + 1, 0, none⟩) (by simp <;> omega) _))
  have HR9 : Hid (((((((((((w5.setCell ⟨w.heap.size + 1, 0, none⟩ (.int .i64 0)).setCell ⟨w.heap.size + 1, 1, none⟩ (.int .i64 0)).setCell ⟨w.heap.size + 1, 2, none⟩ (.int .i64 0)).setCell ⟨w.heap.size + 1, 3, none⟩ (.slice none 0 0)).setCell ⟨w.heap.size + 1, 4, none⟩ (.slice none 0 0)).setCell ⟨w.heap.size + 1, 5, none⟩ (.int .i64 0)).setCell ⟨w.heap.size + 1, 6, none⟩ (.bool false)).setCell ⟨w.heap.size + 1, 0, none⟩ (.int .i64 (fn : Int))).setCell ⟨w.heap.size + 1, 4, none⟩ (.slice (some ⟨b, 0, none⟩) n n)).setCell ⟨w.heap.size + 1 + 1, 0, none⟩ (.int .i64 0)).heap[b]? = some (.cells (iV (xs ++ List.replicate (n - na) 0)).toArray 3 (0, 0))) := by
    rw [heap_setCell_other _ _ _ _ (by simp; omega), heap_setCell_other _ _ _ _ (by simp; omega), heap_setCell_other _ _ _ _ (by simp; omega), heap_setCell_other _ _ _ _ (by simp; omega), heap_setCell_other _ _ _ _ (by simp; omega), heap_setCell_other _ _ _ _ (by simp; omega), heap_setCell_other _ _ _ _ (by simp; omega), heap_setCell_other _ _ _ _ (by simp; omega), heap_setCell_other _ _ _ _ (by simp; omega), heap_setCell_other _ _ _ _ (by simp; omega)]
    exact HQ3.out
  generalize ((((((((((w5.setCell ⟨w.heap.size + 1, 0, none⟩ (.int .i64 0)).setCell ⟨w.heap.size + 1, 1, none⟩ (.int .i64 0)).setCell ⟨w.heap.size + 1, 2, none⟩ (.int .i64 0)).setCell ⟨w.heap.size + 1, 3, none⟩ (.slice none 0 0)).setCell ⟨w.heap.size + 1, 4, none⟩ (.slice none 0 0)).setCell ⟨w.heap.size + 1, 5, none⟩ (.int .i64 0)).setCell ⟨w.heap.size + 1, 6, none⟩ (.bool false)).setCell ⟨w.heap.size + 1, 0, none⟩ (.int .i64 (fn : Int))).setCell ⟨w.heap.size + 1, 4, none⟩ (.slice (some ⟨b, 0, none⟩) n n)).setCell ⟨w.heap.size + 1 + 1, 0, none⟩ (.int .i64 0)) = w9 at x0 x1 x2 x3 x4 x5 x6 v0 HB9 HR9 ⊢
  refine leaves_cons (f := 21) (args := #[.pointer (some ⟨w.heap.size + 1 + 1, 0, none⟩)]) (by simp) (by simp [go_sem]) ?_
  refine (begd_idle (w.heap.size + 1 + 1) w9).mono ?_
  rintro e u' wz ⟨rfl, rfl, hbz⟩
  replace x0 := keep_cell x0 hbz
  replace x1 := keep_cell x1 hbz
  replace x2 := keep_cell x2 hbz
  replace x3 := keep_cell x3 hbz
  replace x4 := keep_cell x4 hbz
  replace x5 := keep_cell x5 hbz
  replace x6 := keep_cell x6 hbz
  replace v0 := keep_cell v0 hbz
  refine ⟨.tuple #[.agg #[.int .i64 (fn : Int), .int .i64 0, .int .i64 0, .slice none 0 0, .slice (some ⟨b, 0, none⟩) n n, .int .i64 0, .bool false], .int .i64 0], ?_, ⟨b, rfl, (hbz.block b (lt_row HR9.out)).trans HR9.out, chain HB9.out hbz⟩⟩
  simp [results, Tryz.results8, go_sem, x0, x1, x2, x3, x4, x5, x6, v0]
end Go.Proofs.YtnkfdpnommjlcaaGreatDoor
namespace Go.Proofs.YtnkfdpnommjlcaaGreatDoor
open Go.RowKit Go.ChangeShapes Go.WideShapes Go.ChangeAt Go.Deep

set_option maxHeartbeats 4000000 in
set_option maxRecDepth 100000 in
set_option linter.unusedSimpArgs false in
theorem begd_up (a : Nat) (e0 x y : Int) (w : World) (hE : w.heap[a]? = some (.cells #[.int .i64 e0] 30 (0, 0))) (older : List PanicEntry) (hg : w.cell? ⟨0, 0, none⟩ = some (.iface 139 (.agg #[.pointer (some ⟨2, 89, none⟩)]))) :
    CallsD Tryz.prog 21 #[.pointer (some ⟨a, 0, none⟩)] (.panicking ({ v := failV x y, recovered := false } :: older)) w fun e u' w' =>
      e = .returned (.tuple #[]) ∧ u' = .panicking ({ v := failV x y, recovered := true } :: older) ∧ w'.heap[a]? = some (.cells #[.int .i64 x] 30 (0, 0)) ∧ Below a w w' := by
  refine callsD_of_wpS Tryz.func21 rfl fun c₀ cs hu => ?_
  apply wpS_seq
  apply wpS_region
  simp [wpOpsS, go_sem, recoverD, hu, Tryz.ntmps21, Exit.thenS, Array.replicate]
  refine (wentUp_hit x y w hg).mono ?_
  rintro e w1 ⟨rfl, hb1⟩
  have hnw := heap_alloc_new w1 (.cells #[.int .i64 0, .int .i64 0] 35)
  have n0 : (w1.alloc (.cells #[.int .i64 0, .int .i64 0] 35)).cell? ⟨w1.heap.size, 0, none⟩ = some (.int .i64 0) := by simp only [World.cell?, hnw]; rfl
  have n1 : (w1.alloc (.cells #[.int .i64 0, .int .i64 0] 35)).cell? ⟨w1.heap.size, 1, none⟩ = some (.int .i64 0) := by simp only [World.cell?, hnw]; rfl
  have z0 : (w1.alloc (.cells #[.int .i64 0, .int .i64 0] 35)).frozen? ⟨w1.heap.size, 0, none⟩ = false := by simp only [World.frozen?, hnw]; rfl
  have z1 : (w1.alloc (.cells #[.int .i64 0, .int .i64 0] 35)).frozen? ⟨w1.heap.size, 1, none⟩ = false := by simp only [World.frozen?, hnw]; rfl
  simp [go_sem, Exit.thenS, n0, n1, z0, z1]
  have hbel : Below w.heap.size w (w1.alloc (.cells #[.int .i64 x, .int .i64 y] 35)) := hb1.alloc hb1.size _
  have hr2 : (w1.alloc (.cells #[.int .i64 x, .int .i64 y] 35)).heap[w1.heap.size]? = some (.cells [.int .i64 x, .int .i64 y].toArray 35 (0, 0)) := heap_alloc_new w1 _
  clear n0 n1 z0 z1 hb1 hnw
  refine wpS_of_wp ?_
  generalize (w1.alloc (.cells #[.int .i64 x, .int .i64 y] 35)) = w2 at hbel hr2 ⊢
  generalize w1.heap.size = rb at hr2 ⊢
  have hlE := lt_row hE
  have hE2 : w2.heap[a]? = some (.cells #[.int .i64 e0] 30 (0, 0)) := (hbel.block a hlE).trans hE
  have r0 := cell_row (i := 0) hr2 rfl
  have y0 : w2.cell? ⟨a, 0, none⟩ = some (.int .i64 e0) := by simp [World.cell?, hE2]
  have yf0 : w2.frozen? ⟨a, 0, none⟩ = false := by simp [World.frozen?, hE2]
  have FIN : (w2.setCell ⟨a, 0, none⟩ (.int .i64 x)).heap[a]? = some (.cells #[.int .i64 x] 30 (0, 0)) ∧ Below a w (w2.setCell ⟨a, 0, none⟩ (.int .i64 x)) :=
    ⟨setCells_row (old := [.int .i64 e0]) (vs := [.int .i64 x]) hE2 rfl, (hbel.mono (by omega)).setCell (p := ⟨a, 0, none⟩) (by simp) _⟩
  have HF := hide FIN
  clear hE2 hr2 hE hbel FIN
  go_wp2_with fail
  cases c₀
  simp only [bodyPostS, results, Tryz.results21]
  exact ⟨trivial, _, rfl, .tuple #[], by simp [go_sem], rfl, rfl, HF.out.1, HF.out.2⟩

set_option linter.unusedSimpArgs false in
set_option maxRecDepth 100000 in
set_option maxHeartbeats 4000000 in
theorem begin_no (j : JV) (cs : List Value) (fs : List Fun) (args : List Int) (f : Int) (w : World) (hJ : JobR w j cs fs args) (hE : Env w) (hf : fs.length ≤ 9223372036854775807) (hs : ∀ f ∈ fs, f.code.length ≤ 9223372036854775807 ∧ f.name.size < 9223372036854775808)
    (xa : Option Addr) (xl xc : Nat) (hno : (checkL fs j.main args.length j.fuel j.tasks).2.2 ≠ 0 ∨ f < 0 ∨ (fs.length : Int) ≤ f ∨ ∃ k : Nat, f = (k : Int) ∧ ∃ h : k < fs.length, (xl : Int) ≠ fs[k].args) :
    Calls Tryz.prog 8 #[.agg #[.slice j.fa j.nf j.fc, .int .i64 j.main, .slice j.aa j.na j.ac, .int .i64 j.fuel, .int .i64 j.tasks], .int .i64 f, .slice xa xl xc] w fun e w' => ∃ x, x ≠ 0 ∧ e = .returned (.tuple #[.agg #[.int .i64 0, .int .i64 0, .int .i64 0, .slice none 0 0, .slice none 0 0, .int .i64 0, .bool false], .int .i64 x]) ∧ Below w.heap.size w w' := by
  have hmf : ∀ (fn : Fn) (first cap : Array Value) (w : World), (Instr.makeFunc fn first cap).run Tryz.prog w = .ok (.func fn first cap) w := fun _ _ _ _ => rfl
  obtain ⟨hb0, hsz, p1, p3, p4⟩ := three_blocks w (.cells #[.slice j.fa j.nf j.fc, .int .i64 j.main, .slice j.aa j.na j.ac, .int .i64 j.fuel, .int .i64 j.tasks] 25) (.cells #[.int .i64 0, .int .i64 0, .int .i64 0, .slice none 0 0, .slice none 0 0, .int .i64 0, .bool false] 29) (.cells #[.int .i64 0] 30)
  have C1 := check_any j cs fs args _ (hJ.below hb0) (hE.below hb0) hf hs
  unfold CheckPost at C1
  simp only [JV.cells] at C1
  have hJ0 := hJ.below hb0
  have hE0 := hE.below hb0
  have HNF := hide hJ.nf
  go_enter_defers Tryz.func8, Tryz.ntmps8
  go_upto_region 2 with fail
  generalize (((w.alloc (.cells #[.slice j.fa j.nf j.fc, .int .i64 j.main, .slice j.aa j.na j.ac, .int .i64 j.fuel, .int .i64 j.tasks] 25)).alloc (.cells #[.int .i64 0, .int .i64 0, .int .i64 0, .slice none 0 0, .slice none 0 0, .int .i64 0, .bool false] 29)).alloc (.cells #[.int .i64 0] 30)) = w0 at *
  have j0 : w0.cell? ⟨w.heap.size, 0, none⟩ = some (.slice j.fa j.nf j.fc) := by simp only [World.cell?, p1]; rfl
  have j1 : w0.cell? ⟨w.heap.size, 1, none⟩ = some (.int .i64 j.main) := by simp only [World.cell?, p1]; rfl
  have j2 : w0.cell? ⟨w.heap.size, 2, none⟩ = some (.slice j.aa j.na j.ac) := by simp only [World.cell?, p1]; rfl
  have j3 : w0.cell? ⟨w.heap.size, 3, none⟩ = some (.int .i64 j.fuel) := by simp only [World.cell?, p1]; rfl
  have j4 : w0.cell? ⟨w.heap.size, 4, none⟩ = some (.int .i64 j.tasks) := by simp only [World.cell?, p1]; rfl
  have HEND := hide (fun (W : World) (x : Int) (hx : x ≠ 0) (hW : Below w0.heap.size w0 W) => show ∃ wz, (W.heap[w.heap.size + 1 + 1]? = some (.cells #[.int .i64 0] 30 (0, 0))) ∧ W.cell? ⟨0, 0, none⟩ = some (.iface 139 (.agg #[.pointer (some ⟨2, 89, none⟩)])) ∧ W.heap[w.heap.size + 1]? = some (.cells #[.int .i64 0, .int .i64 0, .int .i64 0, .slice none 0 0, .slice none 0 0, .int .i64 0, .bool false] 29 (0, 0)) ∧ Below w.heap.size w W ∧ wz = W from
    ⟨W, (hW.block (w.heap.size + 1 + 1) (by rw [hsz]; omega)).trans p4, keep_cell (hE0.err) hW, (hW.block (w.heap.size + 1) (by rw [hsz]; omega)).trans p3, hb0.trans (hW.mono hb0.size), rfl⟩)
  have HJ0 := hide hJ0
  have HSZ := hide hsz
  clear hJ hE hs hb0 p1 p3 p4 hJ0 hE0
  have HNO := hide hno
  clear hno
  generalize hq : checkL fs j.main args.length j.fuel j.tasks = q at C1 HNO
  obtain ⟨q1, q2, q3⟩ := q
  dsimp only at C1 HNO
  clear hq
  have CN := fun (e : Int) W => tneed_no e W
  have CY := fun (e : Int) W => tneed_yes e W
  simp only [upF] at CN
  go_wp2_with (go_at_call 23; go_must (with_reducible refine C1.mono ?_; (rintro e w1 ⟨rfl, hb1⟩); refine Hid.out ?_))
  refine Lib.hid ?_
  clear C1 j1 j2 j3 j4
  have HB1 := hide hb1
  replace j0 := keep_cell j0 hb1
  by_cases h3 : q3 = 0
  · subst h3
    go_wp2_with (first
      | (go_at_call 24; go_must (with_reducible refine (CY _ _).mono ?_; (rintro e w3 ⟨rfl, rfl⟩); refine Hid.out ?_)))
    refine Lib.hid ?_
    have T1 := fun w => thas_any (j.nf : Int) f (by rw [HNF.out]; omega) w
    by_cases hb : hasB (j.nf : Int) f = true
    · rw [hb] at T1
      obtain ⟨k, rfl⟩ : ∃ k : Nat, f = (k : Int) := ⟨f.toNat, by simp [hasB, inB] at hb; omega⟩
      have hk : k < fs.length := by have := HNF.out; simp [hasB, inB] at hb; omega
      have hki : (k : Int) < (j.nf : Int) := by have := HNF.out; omega
      have hne : (xl : Int) ≠ fs[k].args := by
        rcases HNO.out with h | h | h | ⟨k', h, hk', hne⟩
        · exact absurd rfl h
        · omega
        · omega
        · have : k' = k := by omega
          subst this
          exact hne
      obtain ⟨fb, off, ca, cc, ef, y0, y1, y2, y3, -, -⟩ := JobR.fun_at (HJ0.out.below hb1) hk
      rw [ef] at j0
      have hqe : ((xl : Int) == fs[k].args) = false := by simpa using hne
      generalize fs[k].args = ar at y1 hqe
      clear hb hne y0 y2 y3 hk hb1
      go_wp2_with (first
        | (go_at_call 25; go_must (with_reducible refine (T1 _).mono ?_; (rintro e w3' ⟨rfl, rfl⟩); refine Hid.out ?_)))
      refine Lib.hid ?_
      go_wp2_with (first
        | (go_at_call 24; go_must (with_reducible refine (CY _ _).mono ?_; (rintro e w3' ⟨rfl, rfl⟩); refine Hid.out ?_)))
      refine Lib.hid ?_
      go_wp2_with (first
        | (go_at_call 24; go_must (with_reducible refine (CN _ _).mono ?_; (rintro e w3' ⟨rfl, rfl⟩); refine Hid.out ?_)))
      refine Lib.hid ?_
      obtain ⟨_, k1, k2, k3, k4, -⟩ := HEND.out _ 15 (by decide) HB1.out
      go_wp2_with fail
      refine leaves_cons (f := 21) (args := #[.pointer (some ⟨w.heap.size + 1 + 1, 0, none⟩)]) (by simp) (by simp [go_sem]) ?_
      refine (begd_up (w.heap.size + 1 + 1) 0 15 0 _ k1 [] k2).mono ?_
      rintro e u' wz ⟨rfl, rfl, hEz, hbz⟩
      have v0 := cell_row (cs := [.int .i64 15]) (i := 0) hEz rfl
      have hSz := (hbz.block (w.heap.size + 1) (by omega)).trans k3
      have x0 := cell_row (cs := [.int .i64 0, .int .i64 0, .int .i64 0, .slice none 0 0, .slice none 0 0, .int .i64 0, .bool false]) (i := 0) hSz rfl
      have x1 := cell_row (cs := [.int .i64 0, .int .i64 0, .int .i64 0, .slice none 0 0, .slice none 0 0, .int .i64 0, .bool false]) (i := 1) hSz rfl
      have x2 := cell_row (cs := [.int .i64 0, .int .i64 0, .int .i64 0, .slice none 0 0, .slice none 0 0, .int .i64 0, .bool false]) (i := 2) hSz rfl
      have x3 := cell_row (cs := [.int .i64 0, .int .i64 0, .int .i64 0, .slice none 0 0, .slice none 0 0, .int .i64 0, .bool false]) (i := 3) hSz rfl
      have x4 := cell_row (cs := [.int .i64 0, .int .i64 0, .int .i64 0, .slice none 0 0, .slice none 0 0, .int .i64 0, .bool false]) (i := 4) hSz rfl
      have x5 := cell_row (cs := [.int .i64 0, .int .i64 0, .int .i64 0, .slice none 0 0, .slice none 0 0, .int .i64 0, .bool false]) (i := 5) hSz rfl
      have x6 := cell_row (cs := [.int .i64 0, .int .i64 0, .int .i64 0, .slice none 0 0, .slice none 0 0, .int .i64 0, .bool false]) (i := 6) hSz rfl
      refine ⟨.tuple #[.agg #[.int .i64 0, .int .i64 0, .int .i64 0, .slice none 0 0, .slice none 0 0, .int .i64 0, .bool false], .int .i64 15], ?_, ⟨15, (by decide), rfl, k4.trans (hbz.mono (by omega))⟩⟩
      simp [results, Tryz.results8, go_sem, x0, x1, x2, x3, x4, x5, x6, v0]
    · have hb' : hasB (j.nf : Int) f = false := by simpa using hb
      rw [hb'] at T1
      clear hb hb1
      go_wp2_with (first
        | (go_at_call 25; go_must (with_reducible refine (T1 _).mono ?_; (rintro e w3' ⟨rfl, rfl⟩); refine Hid.out ?_)))
      refine Lib.hid ?_
      go_wp2_with (first
        | (go_at_call 24; go_must (with_reducible refine (CN _ _).mono ?_; (rintro e w3' ⟨rfl, rfl⟩); refine Hid.out ?_)))
      refine Lib.hid ?_
      obtain ⟨_, k1, k2, k3, k4, -⟩ := HEND.out _ 14 (by decide) HB1.out
      go_wp2_with fail
      refine leaves_cons (f := 21) (args := #[.pointer (some ⟨w.heap.size + 1 + 1, 0, none⟩)]) (by simp) (by simp [go_sem]) ?_
      refine (begd_up (w.heap.size + 1 + 1) 0 14 0 _ k1 [] k2).mono ?_
      rintro e u' wz ⟨rfl, rfl, hEz, hbz⟩
      have v0 := cell_row (cs := [.int .i64 14]) (i := 0) hEz rfl
      have hSz := (hbz.block (w.heap.size + 1) (by omega)).trans k3
      have x0 := cell_row (cs := [.int .i64 0, .int .i64 0, .int .i64 0, .slice none 0 0, .slice none 0 0, .int .i64 0, .bool false]) (i := 0) hSz rfl
      have x1 := cell_row (cs := [.int .i64 0, .int .i64 0, .int .i64 0, .slice none 0 0, .slice none 0 0, .int .i64 0, .bool false]) (i := 1) hSz rfl
      have x2 := cell_row (cs := [.int .i64 0, .int .i64 0, .int .i64 0, .slice none 0 0, .slice none 0 0, .int .i64 0, .bool false]) (i := 2) hSz rfl
      have x3 := cell_row (cs := [.int .i64 0, .int .i64 0, .int .i64 0, .slice none 0 0, .slice none 0 0, .int .i64 0, .bool false]) (i := 3) hSz rfl
      have x4 := cell_row (cs := [.int .i64 0, .int .i64 0, .int .i64 0, .slice none 0 0, .slice none 0 0, .int .i64 0, .bool false]) (i := 4) hSz rfl
      have x5 := cell_row (cs := [.int .i64 0, .int .i64 0, .int .i64 0, .slice none 0 0, .slice none 0 0, .int .i64 0, .bool false]) (i := 5) hSz rfl
      have x6 := cell_row (cs := [.int .i64 0, .int .i64 0, .int .i64 0, .slice none 0 0, .slice none 0 0, .int .i64 0, .bool false]) (i := 6) hSz rfl
      refine ⟨.tuple #[.agg #[.int .i64 0, .int .i64 0, .int .i64 0, .slice none 0 0, .slice none 0 0, .int .i64 0, .bool false], .int .i64 14], ?_, ⟨14, (by decide), rfl, k4.trans (hbz.mono (by omega))⟩⟩
      simp [results, Tryz.results8, go_sem, x0, x1, x2, x3, x4, x5, x6, v0]
  · have hq3 : (q3 == 0) = false := by simpa using h3
    clear hb1
    go_wp2_with (first
      | (go_at_call 24; go_must (with_reducible refine (CN _ _).mono ?_; (rintro e w3 ⟨rfl, rfl⟩); refine Hid.out ?_)))
    refine Lib.hid ?_
    obtain ⟨_, k1, k2, k3, k4, -⟩ := HEND.out _ q3 h3 HB1.out
    go_wp2_with fail
    refine leaves_cons (f := 21) (args := #[.pointer (some ⟨w.heap.size + 1 + 1, 0, none⟩)]) (by simp) (by simp [go_sem]) ?_
    refine (begd_up (w.heap.size + 1 + 1) 0 q3 0 _ k1 [] k2).mono ?_
    rintro e u' wz ⟨rfl, rfl, hEz, hbz⟩
    have v0 := cell_row (cs := [.int .i64 q3]) (i := 0) hEz rfl
    have hSz := (hbz.block (w.heap.size + 1) (by omega)).trans k3
    have x0 := cell_row (cs := [.int .i64 0, .int .i64 0, .int .i64 0, .slice none 0 0, .slice none 0 0, .int .i64 0, .bool false]) (i := 0) hSz rfl
    have x1 := cell_row (cs := [.int .i64 0, .int .i64 0, .int .i64 0, .slice none 0 0, .slice none 0 0, .int .i64 0, .bool false]) (i := 1) hSz rfl
    have x2 := cell_row (cs := [.int .i64 0, .int .i64 0, .int .i64 0, .slice none 0 0, .slice none 0 0, .int .i64 0, .bool false]) (i := 2) hSz rfl
    have x3 := cell_row (cs := [.int .i64 0, .int .i64 0, .int .i64 0, .slice none 0 0, .slice none 0 0, .int .i64 0, .bool false]) (i := 3) hSz rfl
    have x4 := cell_row (cs := [.int .i64 0, .int .i64 0, .int .i64 0, .slice none 0 0, .slice none 0 0, .int .i64 0, .bool false]) (i := 4) hSz rfl
    have x5 := cell_row (cs := [.int .i64 0, .int .i64 0, .int .i64 0, .slice none 0 0, .slice none 0 0, .int .i64 0, .bool false]) (i := 5) hSz rfl
    have x6 := cell_row (cs := [.int .i64 0, .int .i64 0, .int .i64 0, .slice none 0 0, .slice none 0 0, .int .i64 0, .bool false]) (i := 6) hSz rfl
    refine ⟨.tuple #[.agg #[.int .i64 0, .int .i64 0, .int .i64 0, .slice none 0 0, .slice none 0 0, .int .i64 0, .bool false], .int .i64 q3], ?_, ⟨q3, h3, rfl, k4.trans (hbz.mono (by omega))⟩⟩
    simp [results, Tryz.results8, go_sem, x0, x1, x2, x3, x4, x5, x6, v0]
end Go.Proofs.YtnkfdpnommjlcaaGreatDoor
