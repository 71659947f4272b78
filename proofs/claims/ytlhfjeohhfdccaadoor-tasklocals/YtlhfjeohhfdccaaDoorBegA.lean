/- Begin, of a function with arguments. -/
import Derived.Test.YtlhfjeohhfdccaaDoorPlyG
namespace Go.Proofs.YtlhfjeohhfdccaaDoor
open Go.RowKit Go.ChangeShapes Go.WideShapes Go.ChangeAt Go.Deep

set_option maxHeartbeats 2000000 in
set_option maxRecDepth 100000 in
theorem locals_any (n na : Nat) (hna : na ≤ n) (hn : n ≤ 1000000000) (aa : Option Addr) (ac : Nat) (xs : List Int) (hl : xs.length = na) (w : World) (hr : Reads w aa (iV xs)) : Calls Tryd.prog 20 #[.int .i64 (n : Int), .slice aa na ac] w fun e w' => e = .returned (.slice (some ⟨w.heap.size, 0, none⟩) n n) ∧ w'.heap[w.heap.size]? = some (.cells (iV (xs ++ List.replicate (n - na) 0)).toArray 3 (0, 0)) ∧ Below w.heap.size w w' := by
  have hmk := mk_ints n hn
  have hb0 := alloc_below w (.cells (iV (List.replicate n 0)).toArray 3)
  have hcell := heap_alloc_new w (.cells (iV (List.replicate n 0)).toArray 3)
  have hr1 := hr.below hb0
  have HB0 := hide hb0
  have HC := hide hcell
  have hat : 0 < (iV xs).length → ∃ ad, aa = some ad ∧ ∀ j v, (iV xs)[j]? = some v → (w.alloc (.cells (iV (List.replicate n 0)).toArray 3)).cell? (ad.add j) = some v := fun h0 => by
    rcases hr1 with h | ⟨b, off, e, h⟩
    · rw [h] at h0; simp at h0
    · exact ⟨_, e, fun j u hu => by rw [add_none]; exact h j u hu⟩
  have HAT := hide hat
  clear hb0 hcell hr hr1 hat
  go_enter Tryd.func20, Tryd.ntmps20
  go_wp2_with (refine wpList_copy_splice rfl (.tmp 8) (.tmp 9) 27 27 rfl 3 Tryd.underlying27 (by kernel_rfl) (some ⟨w.heap.size, 0, none⟩) aa n n na ac rfl rfl w.heap.size 0 (iV (List.replicate n 0)) 3 HC.out (iV xs) (by rw [iV_len, hl]; exact (Nat.min_eq_left hna).symm) (fun h => ⟨rfl, HAT.out h⟩) (by rw [iV_len, iV_len]; simp; omega) (iV_one xs) w.heap.size w HB0.out (Nat.le_refl _) ?_; intro w2 HG2 hB2)
  have hG := HG2.out
  have hsp : splice (iV (List.replicate n 0)) 0 (iV xs) = iV (xs ++ List.replicate (n - na) 0) := by
    unfold splice
    rw [iV_app]
    simp only [List.take_zero, List.nil_append, Nat.zero_add, iV_len, hl]
    simp [iV]
  rw [hsp] at hG
  go_ret
  exact ⟨rfl, hG, hB2⟩
set_option linter.unusedSimpArgs false in
set_option maxRecDepth 100000 in
set_option maxHeartbeats 4000000 in
theorem begin_args (j : JV) (cs : List Value) (fs : List Fun) (args : List Int) (fn : Nat) (f : Fun) (n : Nat) (w : World) (hJ : JobR w j cs fs args) (hE : Env w) (hf : fs.length ≤ 1000000000) (hs : ∀ f ∈ fs, f.code.length ≤ 1000000000 ∧ f.name.size < 4294967281)
    (hC : (checkL fs j.main args.length j.fuel j.tasks).2.2 = 0) (hff : fs[fn]? = some f) (aa : Option Addr) (na ac : Nat) (xs : List Int) (hxl : xs.length = na) (hxr : Reads w aa (iV xs)) (ha : f.args = (na : Int)) (hna : na ≤ n) (hn : f.locals = (n : Int)) (hnl : n ≤ 1000000000) :
    Calls Tryd.prog 11 #[.agg #[.slice j.fa j.nf j.fc, .int .i64 j.main, .slice j.aa j.na j.ac, .int .i64 j.fuel, .int .i64 j.tasks], .int .i64 (fn : Int), .slice aa na ac] w fun e w' => ∃ b, e = .returned (.tuple #[.agg #[.int .i64 (fn : Int), .int .i64 0, .int .i64 0, .slice none 0 0, .slice (some ⟨b, 0, none⟩) n n, .int .i64 0, .bool false], .int .i64 0]) ∧ w'.heap[b]? = some (.cells (iV (xs ++ List.replicate (n - na) 0)).toArray 3 (0, 0)) ∧ Below w.heap.size w w' := by
  have hmf : ∀ (fn : Fn) (first cap : Array Value) (w : World), (Instr.makeFunc fn first cap).run Tryd.prog w = .ok (.func fn first cap) w := fun _ _ _ _ => rfl
  obtain ⟨hb0, hsz, p1, p3, p4⟩ := three_blocks w (.cells #[.slice j.fa j.nf j.fc, .int .i64 j.main, .slice j.aa j.na j.ac, .int .i64 j.fuel, .int .i64 j.tasks] 29) (.cells #[.int .i64 0, .int .i64 0, .int .i64 0, .slice none 0 0, .slice none 0 0, .int .i64 0, .bool false] 34) (.cells #[.int .i64 0] 35)
  have C1 := check_any j cs fs args _ (hJ.below hb0) (hE.below hb0) hf hs
  unfold CheckPost at C1
  rw [hC] at C1
  simp only [JV.cells] at C1
  have hfl : fn < fs.length := (List.getElem?_eq_some_iff.1 hff).1
  have hfe : fs[fn] = f := (List.getElem?_eq_some_iff.1 hff).2
  have HFE := hide hfe
  have HHA := hide ha
  have HHN := hide hn
  have HXR := hide (hxr.below hb0)
  have HXL := hide hxl
  clear hfe ha hn hff hxr
  have hJ0 := hJ.below hb0
  have HNF := hide hJ.nf
  go_enter_defers Tryd.func11, Tryd.ntmps11
  go_upto_region 2 with fail
  generalize (((w.alloc (.cells #[.slice j.fa j.nf j.fc, .int .i64 j.main, .slice j.aa j.na j.ac, .int .i64 j.fuel, .int .i64 j.tasks] 29)).alloc (.cells #[.int .i64 0, .int .i64 0, .int .i64 0, .slice none 0 0, .slice none 0 0, .int .i64 0, .bool false] 34)).alloc (.cells #[.int .i64 0] 35)) = w0 at *
  have j0 : w0.cell? ⟨w.heap.size, 0, none⟩ = some (.slice j.fa j.nf j.fc) := by simp only [World.cell?, p1]; rfl
  have j1 : w0.cell? ⟨w.heap.size, 1, none⟩ = some (.int .i64 j.main) := by simp only [World.cell?, p1]; rfl
  have j2 : w0.cell? ⟨w.heap.size, 2, none⟩ = some (.slice j.aa j.na j.ac) := by simp only [World.cell?, p1]; rfl
  have j3 : w0.cell? ⟨w.heap.size, 3, none⟩ = some (.int .i64 j.fuel) := by simp only [World.cell?, p1]; rfl
  have j4 : w0.cell? ⟨w.heap.size, 4, none⟩ = some (.int .i64 j.tasks) := by simp only [World.cell?, p1]; rfl
  have HB0 := hide hb0
  have HP3 := hide p3
  have HP4 := hide p4
  have HJ0 := hide hJ0
  clear hJ hE hs hb0 p1 p3 p4 hJ0 hC
  go_wp2_with (go_at_call 17; go_must (with_reducible refine C1.mono ?_; (rintro e w1 ⟨rfl, hb1⟩); refine Hid.out ?_))
  refine Lib.hid ?_
  clear C1
  have hb01 := hb1
  replace j0 := keep_cell j0 hb1
  obtain ⟨fb, off, ca, cc, ef, y0, y1, y2, y3, _, _⟩ := JobR.fun_at (HJ0.out.below hb1) hfl
  rw [HFE.out] at y0 y1 y2 y3
  rw [HHA.out] at y1
  rw [HHN.out] at y2
  have hkn : (fn : Int) < (j.nf : Int) := by rw [HNF.out]; omega
  have T1 := fun w => thas_any (j.nf : Int) (fn : Int) (by rw [HNF.out]; omega) w
  have hq : hasB (j.nf : Int) (fn : Int) = true := by simp [hasB, inB]; omega
  rw [hq] at T1
  rw [ef] at j0
  have C3 := fun (e : Int) W => tneed_yes e W
  clear j1 j2 j3 j4 hb1
  have C4 := fun W (hW : Below w0.heap.size w0 W) => locals_any n na hna hnl aa ac xs hxl W (HXR.out.below hW)
  clear hq
  go_wp2_with (first
    | (go_at_call 18; go_must (with_reducible refine (C3 _ _).mono ?_; (rintro e w3' ⟨rfl, rfl⟩); refine Hid.out ?_)))
  refine Lib.hid ?_
  go_wp2_with (first
    | (go_at_call 19; go_must (with_reducible refine (T1 _).mono ?_; (rintro e w3' ⟨rfl, rfl⟩); refine Hid.out ?_)))
  refine Lib.hid ?_
  go_wp2_with (first
    | (go_at_call 18; go_must (with_reducible refine (C3 _ _).mono ?_; (rintro e w3' ⟨rfl, rfl⟩); refine Hid.out ?_)))
  refine Lib.hid ?_
  go_wp2_with (first
    | (go_at_call 18; go_must (with_reducible refine (C3 _ _).mono ?_; (rintro e w3' ⟨rfl, rfl⟩); refine Hid.out ?_)))
  refine Lib.hid ?_
  go_wp2_with (first
    | (go_at_call 20; go_must (with_reducible refine (C4 _ hb01).mono ?_; (rintro e w5 ⟨rfl, q3, hbn⟩); refine Hid.out ?_)))
  refine Lib.hid ?_
  have hb5 : Below w0.heap.size w0 w5 := hb01.trans (hbn.mono hb01.size)
  have hbw := HB0.out.trans (hb5.mono HB0.out.size)
  have q1 := (hb5.block (w.heap.size + 1) (by rw [hsz]; omega)).trans HP3.out
  have q2 := (hb5.block (w.heap.size + 1 + 1) (by rw [hsz]; omega)).trans HP4.out
  have hlt3 : w.heap.size + 3 ≤ w3'.heap.size := by have := hb01.size; omega
  clear hbn
  generalize w3'.heap.size = b at q3 hlt3 ⊢
  have z0 : w5.cell? ⟨w.heap.size + 1, 0, none⟩ = some (.int .i64 0) := by simp [World.cell?, q1]
  have zf0 : w5.frozen? ⟨w.heap.size + 1, 0, none⟩ = false := by simp [World.frozen?, q1]
  have z1 : w5.cell? ⟨w.heap.size + 1, 1, none⟩ = some (.int .i64 0) := by simp [World.cell?, q1]
  have zf1 : w5.frozen? ⟨w.heap.size + 1, 1, none⟩ = false := by simp [World.frozen?, q1]
  have z2 : w5.cell? ⟨w.heap.size + 1, 2, none⟩ = some (.int .i64 0) := by simp [World.cell?, q1]
  have zf2 : w5.frozen? ⟨w.heap.size + 1, 2, none⟩ = false := by simp [World.frozen?, q1]
  have z3 : w5.cell? ⟨w.heap.size + 1, 3, none⟩ = some (.slice none 0 0) := by simp [World.cell?, q1]
  have zf3 : w5.frozen? ⟨w.heap.size + 1, 3, none⟩ = false := by simp [World.frozen?, q1]
  have z4 : w5.cell? ⟨w.heap.size + 1, 4, none⟩ = some (.slice none 0 0) := by simp [World.cell?, q1]
  have zf4 : w5.frozen? ⟨w.heap.size + 1, 4, none⟩ = false := by simp [World.frozen?, q1]
  have z5 : w5.cell? ⟨w.heap.size + 1, 5, none⟩ = some (.int .i64 0) := by simp [World.cell?, q1]
  have zf5 : w5.frozen? ⟨w.heap.size + 1, 5, none⟩ = false := by simp [World.frozen?, q1]
  have z6 : w5.cell? ⟨w.heap.size + 1, 6, none⟩ = some (.bool false) := by simp [World.cell?, q1]
  have zf6 : w5.frozen? ⟨w.heap.size + 1, 6, none⟩ = false := by simp [World.frozen?, q1]
  have y0' : w5.cell? ⟨w.heap.size + 1 + 1, 0, none⟩ = some (.int .i64 0) := by simp [World.cell?, q2]
  have yf0 : w5.frozen? ⟨w.heap.size + 1 + 1, 0, none⟩ = false := by simp [World.frozen?, q2]
  have HQ1 := hide q1
  have HQ2 := hide q2
  have HQ3 := hide q3
  clear q1 q2 q3 T1 C3 C4 y0 y1 y2 y3 j0 hsz HB0 hb01 hb5
  go_wp2_with fail
  have x0 : ((((((((((w5.setCell ⟨w.heap.size + 1, 0, none⟩ (.int .i64 0)).setCell ⟨w.heap.size + 1, 1, none⟩ (.int .i64 0)).setCell ⟨w.heap.size + 1, 2, none⟩ (.int .i64 0)).setCell ⟨w.heap.size + 1, 3, none⟩ (.slice none 0 0)).setCell ⟨w.heap.size + 1, 4, none⟩ (.slice none 0 0)).setCell ⟨w.heap.size + 1, 5, none⟩ (.int .i64 0)).setCell ⟨w.heap.size + 1, 6, none⟩ (.bool false)).setCell ⟨w.heap.size + 1, 0, none⟩ (.int .i64 (fn : Int))).setCell ⟨w.heap.size + 1, 4, none⟩ (.slice (some ⟨b, 0, none⟩) n n)).setCell ⟨w.heap.size + 1 + 1, 0, none⟩ (.int .i64 0)).cell? ⟨w.heap.size + 1, 0, none⟩ = some (.int .i64 (fn : Int)) := by go_simp
  have x1 : ((((((((((w5.setCell ⟨w.heap.size + 1, 0, none⟩ (.int .i64 0)).setCell ⟨w.heap.size + 1, 1, none⟩ (.int .i64 0)).setCell ⟨w.heap.size + 1, 2, none⟩ (.int .i64 0)).setCell ⟨w.heap.size + 1, 3, none⟩ (.slice none 0 0)).setCell ⟨w.heap.size + 1, 4, none⟩ (.slice none 0 0)).setCell ⟨w.heap.size + 1, 5, none⟩ (.int .i64 0)).setCell ⟨w.heap.size + 1, 6, none⟩ (.bool false)).setCell ⟨w.heap.size + 1, 0, none⟩ (.int .i64 (fn : Int))).setCell ⟨w.heap.size + 1, 4, none⟩ (.slice (some ⟨b, 0, none⟩) n n)).setCell ⟨w.heap.size + 1 + 1, 0, none⟩ (.int .i64 0)).cell? ⟨w.heap.size + 1, 1, none⟩ = some (.int .i64 0) := by go_simp
  have x2 : ((((((((((w5.setCell ⟨w.heap.size + 1, 0, none⟩ (.int .i64 0)).setCell ⟨w.heap.size + 1, 1, none⟩ (.int .i64 0)).setCell ⟨w.heap.size + 1, 2, none⟩ (.int .i64 0)).setCell ⟨w.heap.size + 1, 3, none⟩ (.slice none 0 0)).setCell ⟨w.heap.size + 1, 4, none⟩ (.slice none 0 0)).setCell ⟨w.heap.size + 1, 5, none⟩ (.int .i64 0)).setCell ⟨w.heap.size + 1, 6, none⟩ (.bool false)).setCell ⟨w.heap.size + 1, 0, none⟩ (.int .i64 (fn : Int))).setCell ⟨w.heap.size + 1, 4, none⟩ (.slice (some ⟨b, 0, none⟩) n n)).setCell ⟨w.heap.size + 1 + 1, 0, none⟩ (.int .i64 0)).cell? ⟨w.heap.size + 1, 2, none⟩ = some (.int .i64 0) := by go_simp
  have x3 : ((((((((((w5.setCell ⟨w.heap.size + 1, 0, none⟩ (.int .i64 0)).setCell ⟨w.heap.size + 1, 1, none⟩ (.int .i64 0)).setCell ⟨w.heap.size + 1, 2, none⟩ (.int .i64 0)).setCell ⟨w.heap.size + 1, 3, none⟩ (.slice none 0 0)).setCell ⟨w.heap.size + 1, 4, none⟩ (.slice none 0 0)).setCell ⟨w.heap.size + 1, 5, none⟩ (.int .i64 0)).setCell ⟨w.heap.size + 1, 6, none⟩ (.bool false)).setCell ⟨w.heap.size + 1, 0, none⟩ (.int .i64 (fn : Int))).setCell ⟨w.heap.size + 1, 4, none⟩ (.slice (some ⟨b, 0, none⟩) n n)).setCell ⟨w.heap.size + 1 + 1, 0, none⟩ (.int .i64 0)).cell? ⟨w.heap.size + 1, 3, none⟩ = some (.slice none 0 0) := by go_simp
  have x4a : ((((((((w5.setCell ⟨w.heap.size + 1, 0, none⟩ (.int .i64 0)).setCell ⟨w.heap.size + 1, 1, none⟩ (.int .i64 0)).setCell ⟨w.heap.size + 1, 2, none⟩ (.int .i64 0)).setCell ⟨w.heap.size + 1, 3, none⟩ (.slice none 0 0)).setCell ⟨w.heap.size + 1, 4, none⟩ (.slice none 0 0)).setCell ⟨w.heap.size + 1, 5, none⟩ (.int .i64 0)).setCell ⟨w.heap.size + 1, 6, none⟩ (.bool false)).setCell ⟨w.heap.size + 1, 0, none⟩ (.int .i64 (fn : Int))).cell? ⟨w.heap.size + 1, 4, none⟩ = some (.slice none 0 0) := by go_simp
  have x4 : ((((((((((w5.setCell ⟨w.heap.size + 1, 0, none⟩ (.int .i64 0)).setCell ⟨w.heap.size + 1, 1, none⟩ (.int .i64 0)).setCell ⟨w.heap.size + 1, 2, none⟩ (.int .i64 0)).setCell ⟨w.heap.size + 1, 3, none⟩ (.slice none 0 0)).setCell ⟨w.heap.size + 1, 4, none⟩ (.slice none 0 0)).setCell ⟨w.heap.size + 1, 5, none⟩ (.int .i64 0)).setCell ⟨w.heap.size + 1, 6, none⟩ (.bool false)).setCell ⟨w.heap.size + 1, 0, none⟩ (.int .i64 (fn : Int))).setCell ⟨w.heap.size + 1, 4, none⟩ (.slice (some ⟨b, 0, none⟩) n n)).setCell ⟨w.heap.size + 1 + 1, 0, none⟩ (.int .i64 0)).cell? ⟨w.heap.size + 1, 4, none⟩ = some (.slice (some ⟨b, 0, none⟩) n n) := by go_simp
  have x5 : ((((((((((w5.setCell ⟨w.heap.size + 1, 0, none⟩ (.int .i64 0)).setCell ⟨w.heap.size + 1, 1, none⟩ (.int .i64 0)).setCell ⟨w.heap.size + 1, 2, none⟩ (.int .i64 0)).setCell ⟨w.heap.size + 1, 3, none⟩ (.slice none 0 0)).setCell ⟨w.heap.size + 1, 4, none⟩ (.slice none 0 0)).setCell ⟨w.heap.size + 1, 5, none⟩ (.int .i64 0)).setCell ⟨w.heap.size + 1, 6, none⟩ (.bool false)).setCell ⟨w.heap.size + 1, 0, none⟩ (.int .i64 (fn : Int))).setCell ⟨w.heap.size + 1, 4, none⟩ (.slice (some ⟨b, 0, none⟩) n n)).setCell ⟨w.heap.size + 1 + 1, 0, none⟩ (.int .i64 0)).cell? ⟨w.heap.size + 1, 5, none⟩ = some (.int .i64 0) := by go_simp
  have x6 : ((((((((((w5.setCell ⟨w.heap.size + 1, 0, none⟩ (.int .i64 0)).setCell ⟨w.heap.size + 1, 1, none⟩ (.int .i64 0)).setCell ⟨w.heap.size + 1, 2, none⟩ (.int .i64 0)).setCell ⟨w.heap.size + 1, 3, none⟩ (.slice none 0 0)).setCell ⟨w.heap.size + 1, 4, none⟩ (.slice none 0 0)).setCell ⟨w.heap.size + 1, 5, none⟩ (.int .i64 0)).setCell ⟨w.heap.size + 1, 6, none⟩ (.bool false)).setCell ⟨w.heap.size + 1, 0, none⟩ (.int .i64 (fn : Int))).setCell ⟨w.heap.size + 1, 4, none⟩ (.slice (some ⟨b, 0, none⟩) n n)).setCell ⟨w.heap.size + 1 + 1, 0, none⟩ (.int .i64 0)).cell? ⟨w.heap.size + 1, 6, none⟩ = some (.bool false) := by go_simp
  have v0 : ((((((((((w5.setCell ⟨w.heap.size + 1, 0, none⟩ (.int .i64 0)).setCell ⟨w.heap.size + 1, 1, none⟩ (.int .i64 0)).setCell ⟨w.heap.size + 1, 2, none⟩ (.int .i64 0)).setCell ⟨w.heap.size + 1, 3, none⟩ (.slice none 0 0)).setCell ⟨w.heap.size + 1, 4, none⟩ (.slice none 0 0)).setCell ⟨w.heap.size + 1, 5, none⟩ (.int .i64 0)).setCell ⟨w.heap.size + 1, 6, none⟩ (.bool false)).setCell ⟨w.heap.size + 1, 0, none⟩ (.int .i64 (fn : Int))).setCell ⟨w.heap.size + 1, 4, none⟩ (.slice (some ⟨b, 0, none⟩) n n)).setCell ⟨w.heap.size + 1 + 1, 0, none⟩ (.int .i64 0)).cell? ⟨w.heap.size + 1 + 1, 0, none⟩ = some (.int .i64 0) := by go_simp
  have HB9 := hide (show Below w.heap.size w ((((((((((w5.setCell ⟨w.heap.size + 1, 0, none⟩ (.int .i64 0)).setCell ⟨w.heap.size + 1, 1, none⟩ (.int .i64 0)).setCell ⟨w.heap.size + 1, 2, none⟩ (.int .i64 0)).setCell ⟨w.heap.size + 1, 3, none⟩ (.slice none 0 0)).setCell ⟨w.heap.size + 1, 4, none⟩ (.slice none 0 0)).setCell ⟨w.heap.size + 1, 5, none⟩ (.int .i64 0)).setCell ⟨w.heap.size + 1, 6, none⟩ (.bool false)).setCell ⟨w.heap.size + 1, 0, none⟩ (.int .i64 (fn : Int))).setCell ⟨w.heap.size + 1, 4, none⟩ (.slice (some ⟨b, 0, none⟩) n n)).setCell ⟨w.heap.size + 1 + 1, 0, none⟩ (.int .i64 0)) from ((((((((((hbw.setCell (p := ⟨w.heap.size + 1, 0, none⟩) (by simp) _).setCell (p := ⟨w.heap.size + 1, 1, none⟩) (by simp) _).setCell (p := ⟨w.heap.size + 1, 2, none⟩) (by simp) _).setCell (p := ⟨w.heap.size + 1, 3, none⟩) (by simp) _).setCell (p := ⟨w.heap.size + 1, 4, none⟩) (by simp) _).setCell (p := ⟨w.heap.size + 1, 5, none⟩) (by simp) _).setCell (p := ⟨w.heap.size + 1, 6, none⟩) (by simp) _).setCell (p := ⟨w.heap.size + 1, 0, none⟩) (by simp) _).setCell (p := ⟨w.heap.size + 1, 4, none⟩) (by simp) _).setCell (p := ⟨w.heap.size + 1 + 1, 0, none⟩) (by simp <;> omega) _))
  have HR9 : Hid (((((((((((w5.setCell ⟨w.heap.size + 1, 0, none⟩ (.int .i64 0)).setCell ⟨w.heap.size + 1, 1, none⟩ (.int .i64 0)).setCell ⟨w.heap.size + 1, 2, none⟩ (.int .i64 0)).setCell ⟨w.heap.size + 1, 3, none⟩ (.slice none 0 0)).setCell ⟨w.heap.size + 1, 4, none⟩ (.slice none 0 0)).setCell ⟨w.heap.size + 1, 5, none⟩ (.int .i64 0)).setCell ⟨w.heap.size + 1, 6, none⟩ (.bool false)).setCell ⟨w.heap.size + 1, 0, none⟩ (.int .i64 (fn : Int))).setCell ⟨w.heap.size + 1, 4, none⟩ (.slice (some ⟨b, 0, none⟩) n n)).setCell ⟨w.heap.size + 1 + 1, 0, none⟩ (.int .i64 0)).heap[b]? = some (.cells (iV (xs ++ List.replicate (n - na) 0)).toArray 3 (0, 0))) := by
    rw [heap_setCell_other _ _ _ _ (by simp; omega), heap_setCell_other _ _ _ _ (by simp; omega), heap_setCell_other _ _ _ _ (by simp; omega), heap_setCell_other _ _ _ _ (by simp; omega), heap_setCell_other _ _ _ _ (by simp; omega), heap_setCell_other _ _ _ _ (by simp; omega), heap_setCell_other _ _ _ _ (by simp; omega), heap_setCell_other _ _ _ _ (by simp; omega), heap_setCell_other _ _ _ _ (by simp; omega), heap_setCell_other _ _ _ _ (by simp; omega)]
    exact HQ3.out
  generalize ((((((((((w5.setCell ⟨w.heap.size + 1, 0, none⟩ (.int .i64 0)).setCell ⟨w.heap.size + 1, 1, none⟩ (.int .i64 0)).setCell ⟨w.heap.size + 1, 2, none⟩ (.int .i64 0)).setCell ⟨w.heap.size + 1, 3, none⟩ (.slice none 0 0)).setCell ⟨w.heap.size + 1, 4, none⟩ (.slice none 0 0)).setCell ⟨w.heap.size + 1, 5, none⟩ (.int .i64 0)).setCell ⟨w.heap.size + 1, 6, none⟩ (.bool false)).setCell ⟨w.heap.size + 1, 0, none⟩ (.int .i64 (fn : Int))).setCell ⟨w.heap.size + 1, 4, none⟩ (.slice (some ⟨b, 0, none⟩) n n)).setCell ⟨w.heap.size + 1 + 1, 0, none⟩ (.int .i64 0)) = w9 at x0 x1 x2 x3 x4 x5 x6 v0 HB9 HR9 ⊢
  refine leaves_cons (f := 15) (args := #[.pointer (some ⟨w.heap.size + 1 + 1, 0, none⟩)]) (by simp) (by simp [go_sem]) ?_
  refine (begd_idle (w.heap.size + 1 + 1) w9).mono ?_
  rintro e u' wz ⟨rfl, rfl, hbz⟩
  replace x0 := keep_cell x0 hbz
  replace x1 := keep_cell x1 hbz
  replace x2 := keep_cell x2 hbz
  replace x3 := keep_cell x3 hbz
  replace x4 := keep_cell x4 hbz
  replace x5 := keep_cell x5 hbz
  replace x6 := keep_cell x6 hbz
  replace v0 := keep_cell v0 hbz
  refine ⟨.tuple #[.agg #[.int .i64 (fn : Int), .int .i64 0, .int .i64 0, .slice none 0 0, .slice (some ⟨b, 0, none⟩) n n, .int .i64 0, .bool false], .int .i64 0], ?_, ⟨b, rfl, (hbz.block b (lt_row HR9.out)).trans HR9.out, chain HB9.out hbz⟩⟩
  simp [results, Tryd.results11, go_sem, x0, x1, x2, x3, x4, x5, x6, v0]
end Go.Proofs.YtlhfjeohhfdccaaDoor
