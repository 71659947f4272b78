/- TaskWaits: its walk. -/
import Derived.Test.YtchpocejkdngnaaGreatDoorResG
import Derived.Test.YtchpocejkdngnaaGreatDoorSam
namespace Go.Proofs.YtchpocejkdngnaaGreatDoor
open Go.RowKit Go.ChangeShapes Go.WideShapes Go.ChangeAt Go.Deep

theorem one_resQ {w : World} {h : Nat} {a : Option Addr} {n cap : Nat} (code : List (Int × Int)) (hrow : w.heap[h]? = some (.cells [.string fnm, .int .i64 0, .int .i64 0, .slice a n cap].toArray 48 (0, 0))) (hn : code.length = n) (hr : Reads w a (insV code)) (hE : Env w) (hb : n ≤ 1000000000) (pc fu : Nat) (kd er ev : Int) (sa la : Option Addr) (sc lc : Nat) (sk : List Int) (D : List Int) (q : PM × Option (Int × Int))
    (hD : depsOf (oneF code) 0 0 100 50 0 = D) (hpc : D[pc]? = some (sk.length : Int)) (hDl : D.length ≤ 1000000000) (hkd : 0 ≤ kd ∧ kd ≤ 16) (hfu : fu ≤ 100) (hrs : Reads w sa (iV sk.reverse)) (hsn : sa = none → sk.length = 0 ∧ sc = 0) (hln : la = none → lc = 0) (h1 : sk.length ≤ 10000) (hpm : pc ≤ 1000000) (hw : ∃ k x r, code[pc]? = some (17, k) ∧ sk = x :: r ∧ hasB kd x = true)
    (hR : resM ⟨0, pc, fu, sk, [], kd, true, 0, 0, 0, 0, [], 0, 0⟩ er ev = some q) :
    Calls Tryz.prog 9 #[.agg #[.slice (some ⟨h, 0, none⟩) 1 1, .int .i64 0, .slice none 0 0, .int .i64 100, .int .i64 50], .agg #[.int .i64 0, .int .i64 (pc : Int), .int .i64 (fu : Int), .slice sa sk.length sc, .slice la 0 lc, .int .i64 kd, .bool true], .agg #[.int .i64 er, .int .i64 ev]] w (RunQ w (finM q)) := by
  have C := res_G (oneJ h) _ (oneF code) [] 0 pc fu kd er ev sa la sc lc sk.reverse [] D ⟨fnm, 0, 0, code⟩ q w (job_one hrow hn hr) hE (by simp [oneF]) (one_small hn hb) hD (by simpa using hpc) rfl rfl hkd (by show (fu : Int) ≤ 100; omega) hDl hrs (.inl rfl) (by simpa using hsn) (fun h => ⟨rfl, hln h⟩) (by simp; omega) (by simp) (by simpa using h1) hpm (by
    obtain ⟨k, x, r, e1, e2, e3⟩ := hw
    exact ⟨k, r.reverse, x, e1, by simp [e2], e3⟩) (by simpa using hR)
  rw [List.length_reverse] at C
  refine C.mono ?_
  rintro e w' ⟨B, m, sv, lv, av, rfl, hBn, hM, hB⟩
  obtain ⟨sa', sc', e1, _, n1, r1, b1⟩ := own_formI hM.own
  obtain ⟨la', lc', e2, _, n2, r2, b2⟩ := own_formI hM.loc
  obtain ⟨aa', ac', e3, _, n3, r3, b3⟩ := own_formI hM.arg
  simp only [PM.mc, List.length_reverse] at e1 e2 e3 n1
  subst e1 e2 e3
  have f : ∀ (a : Option Addr) (n c : Nat), (∀ g, (Value.slice a n c).ownBlock = some g → B.n ≤ g ∧ g < w'.heap.size) → ∀ x, a = some x → w.heap.size ≤ x.block := fun a n c h x hx => by
    subst hx
    have := (h x.block rfl).1
    omega
  exact ⟨sa', sc', la', lc', aa', ac', rfl, r1, n1, r2, n2, r3, n3, ⟨f _ _ _ b1, f _ _ _ b2, f _ _ _ b3⟩, hB⟩
theorem setCells_size : ∀ (vs : List Value) (b o : Nat) (w : World), (w.setCells b o vs).heap.size = w.heap.size
  | [], _, _, _ => rfl
  | v :: r, b, o, w => by
    unfold World.setCells
    rw [setCells_size r b (o + 1)]
    simp
/-- A box is written anew, and another one is made. -/
theorem put_box {w : World} {sb : Nat} {row old : List Value} {t : TypeId} (hs : w.heap[sb]? = some (.cells old.toArray t (0, 0))) (hl : old.length = row.length) (o : Obj) :
    ((w.setCells sb 0 row).alloc o).heap[sb]? = some (.cells row.toArray t (0, 0)) ∧ ((w.setCells sb 0 row).alloc o).heap[w.heap.size]? = some o ∧ (∀ (k : Nat) (ob : Obj), k ≠ sb → w.heap[k]? = some ob → ((w.setCells sb 0 row).alloc o).heap[k]? = some ob) ∧ (∀ (B : Nat) (w0 : World), B ≤ sb → Below B w0 w → Below B w0 ((w.setCells sb 0 row).alloc o)) := by
  have hlt := lt_row hs
  refine ⟨?_, ?_, fun k ob hk h => ?_, fun B w0 hB h => ?_⟩
  · rw [heap_alloc_old _ _ (by rw [setCells_size]; exact hlt)]
    exact setCells_row hs hl
  · have := heap_alloc_new (w.setCells sb 0 row) o
    rwa [setCells_size] at this
  · rw [heap_alloc_old _ _ (by rw [setCells_size]; exact lt_row h), setCells_other hk]
    exact h
  · exact (setCells_below hB row 0 h).alloc (by rw [setCells_size]; exact Nat.le_trans hB (Nat.le_of_lt hlt)) _
theorem two_newW (w : World) (a b : Obj) : ((w.alloc a).alloc b).heap[w.heap.size]? = some a ∧ ((w.alloc a).alloc b).heap[w.heap.size + 1]? = some b ∧ Below w.heap.size w ((w.alloc a).alloc b) := by
  refine ⟨by rw [heap_alloc_old _ _ (by simp), heap_alloc_new], ?_, ((Below.refl _ _).alloc (Nat.le_refl _) _).alloc (by simp) _⟩
  have := heap_alloc_new (w.alloc a) b
  simpa using this
def waiC : List (Int × Int) := [(16, 0), (17, 0), (1, 1), (7, 0), (18, 0)]
theorem wai_one : oneL waiC = (0, 0, 0) := by decide +kernel
theorem wai_deps : depsOf (oneF waiC) 0 0 100 50 0 = [0, 1, 1, 2, 1] := by decide +kernel
theorem wai_r1 : runW (oneF waiC) 100 0 100 3 ⟨0, 0, 0, [], [], 0, false, 0, 0, 0, 0, [], 0, 0⟩ = some (⟨0, 1, 1, [0], [], 1, false, 1, 0, 0, 1, [], 0, 0⟩, none) := by rfl
theorem wai_r2 : runW (oneF waiC) 100 0 100 3 ⟨0, 1, 1, [0], [], 1, false, 0, 0, 0, 0, [], 0, 0⟩ = some (⟨0, 1, 2, [0], [], 1, true, 2, 0, 0, 1, [], 0, 0⟩, none) := by rfl
theorem wai_r3 (steps : Int) : runW (oneF waiC) 100 0 steps 3 ⟨0, 1, 2, [0], [], 1, true, 0, 0, 0, 0, [], 0, 0⟩ = some (⟨0, 1, 2, [0], [], 1, true, 2, 0, 0, 0, [], 0, 0⟩, none) := by
  show runM (oneF waiC) 100 0 steps 3 ⟨0, 1, 2, [0], [], 1, true, 2, 0, 0, 0, [], 0, 0⟩ = _
  unfold runM
  rw [if_neg (by simp)]
theorem wai_r4 (v : Int) : runW (oneF waiC) 100 0 100 5 ⟨0, 2, 2, [v], [], 1, false, 0, 0, 0, 0, [], 0, 0⟩ = some (⟨0, 4, 5, [wrap64 (v + 1)], [], 1, false, 3, 0, 0, 3, [], 0, wrap64 (v + 1)⟩, none) := by with_unfolding_all rfl
set_option linter.unusedSimpArgs false in
set_option maxRecDepth 100000 in
set_option maxHeartbeats 4000000 in
theorem waits_any (v steps err : Int) (w : World) (hE : Env w) : Calls Tryz.prog 3 #[.int .i64 v, .int .i64 steps, .int .i64 err] w fun r w' => r = .returned (.bool true) ∧ Below w.heap.size w w' := by
  have CA := talive_any w hE
  by_cases g0 : steps < 0
  · go_enter Tryz.func3, Tryz.ntmps3
    go_wp2_with (go_at_call 4; go_must (with_reducible refine CA.mono ?_; (rintro e w1 ⟨rfl, hb1⟩)))
    go_ret
    exact ⟨rfl, hb1⟩
  by_cases g1 : 1000 < steps
  · go_enter Tryz.func3, Tryz.ntmps3
    go_wp2_with (go_at_call 4; go_must (with_reducible refine CA.mono ?_; (rintro e w1 ⟨rfl, hb1⟩)))
    go_ret
    exact ⟨rfl, hb1⟩
  go_enter Tryz.func3, Tryz.ntmps3
  go_wp2_with (go_at_call 4; go_must (with_reducible refine CA.mono ?_; (rintro e wa ⟨rfl, hba0⟩); refine Hid.out ?_))
  refine Lib.hid ?_
  have hb1 := chain hba0 (alloc_below wa (.cells #[.int .i64 16, .int .i64 0, .int .i64 17, .int .i64 0, .int .i64 1, .int .i64 1, .int .i64 7, .int .i64 0, .int .i64 18, .int .i64 0] 29))
  have r1 : Reads (wa.alloc (.cells #[.int .i64 16, .int .i64 0, .int .i64 17, .int .i64 0, .int .i64 1, .int .i64 1, .int .i64 7, .int .i64 0, .int .i64 18, .int .i64 0] 29)) (some ⟨wa.heap.size, 0, none⟩) (insV waiC) := reads_new wa _ _
  have C1 := one_any (some ⟨wa.heap.size, 0, none⟩) 5 5 (wa.alloc (.cells #[.int .i64 16, .int .i64 0, .int .i64 17, .int .i64 0, .int .i64 1, .int .i64 1, .int .i64 7, .int .i64 0, .int .i64 18, .int .i64 0] 29))
  unfold OnePost at C1
  clear CA hba0
  go_wp2_with (go_at_call 5; go_must (with_reducible refine C1.mono ?_; (rintro e w1 ⟨h1, rfl, hrow1, hb2⟩); refine Hid.out ?_))
  refine Lib.hid ?_
  have hb02 := chain hb1 hb2
  simp only [oneJ, JV.cells]
  have r2 := r1.below hb2
  have hba := alloc_below w1 (.cells #[.slice (some ⟨h1, 0, none⟩) 1 1, .int .i64 0, .slice none 0 0, .int .i64 100, .int .i64 50] 26)
  have hja := heap_alloc_new w1 (.cells #[.slice (some ⟨h1, 0, none⟩) 1 1, .int .i64 0, .slice none 0 0, .int .i64 100, .int .i64 50] 26)
  clear C1 hb1 hb2 r1
  go_upto_region 5 with fail
  generalize w1.alloc (.cells #[.slice (some ⟨h1, 0, none⟩) 1 1, .int .i64 0, .slice none 0 0, .int .i64 100, .int .i64 50] 26) = w2 at *
  have hrow2 := heap_row hrow1 hba
  have r3 := r2.below hba
  have hb03 := chain hb02 hba
  clear hrow1 r2 hb02 hba
  generalize w1.heap.size = jb at *
  have C2 := one_begin waiC hrow2 rfl r3 (hE.below hb03) (by omega) wai_one
  have HRUN := hide (fun (W : World) (hbr : Below w2.heap.size w2 W) => one_runQ waiC (heap_row hrow2 hbr) rfl (r3.below hbr) (hE.below (hb03.trans (hbr.mono hb03.size))) (by omega))
  have HRES := hide (fun (W : World) (hbr : Below w2.heap.size w2 W) => one_resQ waiC (heap_row hrow2 hbr) rfl (r3.below hbr) (hE.below (hb03.trans (hbr.mono hb03.size))) (by omega))
  have HB03 := hide hb03
  have HJB := hide hja
  have hjl := lt_row hja
  clear hrow2 r3 hb03
  have j0 : w2.cell? ⟨jb, 0, none⟩ = some (.slice (some ⟨h1, 0, none⟩) 1 1) := keep_cell (by simp only [World.cell?, HJB.out]; rfl) (Below.refl w2.heap.size w2)
  have j1 : w2.cell? ⟨jb, 1, none⟩ = some (.int .i64 0) := keep_cell (by simp only [World.cell?, HJB.out]; rfl) (Below.refl w2.heap.size w2)
  have j2 : w2.cell? ⟨jb, 2, none⟩ = some (.slice none 0 0) := keep_cell (by simp only [World.cell?, HJB.out]; rfl) (Below.refl w2.heap.size w2)
  have j3 : w2.cell? ⟨jb, 3, none⟩ = some (.int .i64 100) := keep_cell (by simp only [World.cell?, HJB.out]; rfl) (Below.refl w2.heap.size w2)
  have j4 : w2.cell? ⟨jb, 4, none⟩ = some (.int .i64 50) := keep_cell (by simp only [World.cell?, HJB.out]; rfl) (Below.refl w2.heap.size w2)
  go_wp2_with (go_at_call 6; go_must (with_reducible refine C2.mono ?_; (rintro e w3 ⟨bb, rfl, hb4⟩); refine Hid.out ?_))
  refine Lib.hid ?_
  clear j0 j1 j2 j3 j4 C2 hja
  have hs4 := heap_alloc_new w3 (.cells #[.int .i64 0, .int .i64 0, .int .i64 0, .slice none 0 0, .slice (some ⟨bb, 0, none⟩) 0 0, .int .i64 0, .bool false] 31)
  have hb24 := chain hb4 (alloc_below w3 (.cells #[.int .i64 0, .int .i64 0, .int .i64 0, .slice none 0 0, .slice (some ⟨bb, 0, none⟩) 0 0, .int .i64 0, .bool false] 31))
  have hsb : w2.heap.size ≤ w3.heap.size := hb4.size
  clear hb4
  go_upto_region 6 with fail
  generalize w3.alloc (.cells #[.int .i64 0, .int .i64 0, .int .i64 0, .slice none 0 0, .slice (some ⟨bb, 0, none⟩) 0 0, .int .i64 0, .bool false] 31) = w4 at *
  generalize w3.heap.size = sb at *
  have j0 : w4.cell? ⟨jb, 0, none⟩ = some (.slice (some ⟨h1, 0, none⟩) 1 1) := keep_cell (by simp only [World.cell?, HJB.out]; rfl) hb24
  have j1 : w4.cell? ⟨jb, 1, none⟩ = some (.int .i64 0) := keep_cell (by simp only [World.cell?, HJB.out]; rfl) hb24
  have j2 : w4.cell? ⟨jb, 2, none⟩ = some (.slice none 0 0) := keep_cell (by simp only [World.cell?, HJB.out]; rfl) hb24
  have j3 : w4.cell? ⟨jb, 3, none⟩ = some (.int .i64 100) := keep_cell (by simp only [World.cell?, HJB.out]; rfl) hb24
  have j4 : w4.cell? ⟨jb, 4, none⟩ = some (.int .i64 50) := keep_cell (by simp only [World.cell?, HJB.out]; rfl) hb24
  have hs4' : w4.heap[sb]? = some (.cells [.int .i64 0, .int .i64 0, .int .i64 0, .slice none 0 0, .slice (some ⟨bb, 0, none⟩) 0 0, .int .i64 0, .bool false].toArray 31 (0, 0)) := hs4
  have s0 := cell_row (i := 0) hs4' rfl
  have s1 := cell_row (i := 1) hs4' rfl
  have s2 := cell_row (i := 2) hs4' rfl
  have s3 := cell_row (i := 3) hs4' rfl
  have s4 := cell_row (i := 4) hs4' rfl
  have s5 := cell_row (i := 5) hs4' rfl
  have s6 := cell_row (i := 6) hs4' rfl
  have C3 := HRUN.out w4 hb24 0 0 0 0 100 false none (some ⟨bb, 0, none⟩) 0 0 [] _ 3 _ wai_deps rfl (by decide) (by omega) (by omega) (.inl rfl) (fun _ => ⟨rfl, rfl⟩) (fun e => by cases e) (by decide) (fun e => by cases e) wai_r1
  unfold RunQ at C3
  simp only [finM, List.length_nil, List.length_cons] at C3
  rw [show ((0 : Nat) : Int) = 0 from rfl, show ((1 : Nat) : Int) = 1 from rfl] at C3
  go_wp2_with (go_at_call 7; go_must (with_reducible refine C3.mono ?_; (rintro e w5 ⟨sa1, sc1, la1, lc1, aa1, ac1, rfl, q1, n1, q2, m1, q3, n3, hbk1, hb5⟩); refine Hid.out ?_))
  refine Lib.hid ?_
  clear C3 j0 j1 j2 j3 j4 s0 s1 s2 s3 s4 s5 s6 q2 q3 n3
  have hs5 := heap_row hs4' hb5
  have hsl0 := lt_row hs4'
  clear hs4 hs4'
  have z0 := cell_row (i := 0) hs5 rfl
  have zf0 := frozen_row (i := 0) hs5
  have z1 := cell_row (i := 1) hs5 rfl
  have zf1 := frozen_row (i := 1) hs5
  have z2 := cell_row (i := 2) hs5 rfl
  have zf2 := frozen_row (i := 2) hs5
  have z3 := cell_row (i := 3) hs5 rfl
  have zf3 := frozen_row (i := 3) hs5
  have z4 := cell_row (i := 4) hs5 rfl
  have zf4 := frozen_row (i := 4) hs5
  have z5 := cell_row (i := 5) hs5 rfl
  have zf5 := frozen_row (i := 5) hs5
  have z6 := cell_row (i := 6) hs5 rfl
  have zf6 := frozen_row (i := 6) hs5
  have hsl1 := lt_row hs5
  have hsn1 : sb ≠ w5.heap.size := by omega
  have hsn2 : w5.heap.size ≠ sb := by omega
  obtain ⟨p1, p2, p3, p4⟩ := put_box (row := [.int .i64 0, .int .i64 1, .int .i64 1, .slice sa1 1 sc1, .slice la1 0 lc1, .int .i64 1, .bool false]) hs5 rfl (.cells #[.int .i64 1, .int .i64 0, .int .i64 0, .int .i64 1, .slice aa1 0 ac1, .int .i64 0, .int .i64 0] 38)
  have hr1 : Reads ((w5.setCells sb 0 [.int .i64 0, .int .i64 1, .int .i64 1, .slice sa1 1 sc1, .slice la1 0 lc1, .int .i64 1, .bool false]).alloc (.cells #[.int .i64 1, .int .i64 0, .int .i64 0, .int .i64 1, .slice aa1 0 ac1, .int .i64 0, .int .i64 0] 38)) sa1 (iV [0]) := (reads_setCells (vs := [.int .i64 0, .int .i64 1, .int .i64 1, .slice sa1 1 sc1, .slice la1 0 lc1, .int .i64 1, .bool false]) (b := sb) q1 (fun x hx => by have := hbk1.1 x hx; omega) 0).below ((Below.refl _ _).alloc (Nat.le_refl _) _)
  go_upto_region 7 with fail
  replace p1 : ((((((((w5.setCell ⟨sb, 0, none⟩ (.int .i64 0)).setCell ⟨sb, 1, none⟩ (.int .i64 1)).setCell ⟨sb, 2, none⟩ (.int .i64 1)).setCell ⟨sb, 3, none⟩ (.slice sa1 1 sc1)).setCell ⟨sb, 4, none⟩ (.slice la1 0 lc1)).setCell ⟨sb, 5, none⟩ (.int .i64 1)).setCell ⟨sb, 6, none⟩ (.bool false)).alloc (.cells #[.int .i64 1, .int .i64 0, .int .i64 0, .int .i64 1, .slice aa1 0 ac1, .int .i64 0, .int .i64 0] 38)).heap[sb]? = some (.cells [.int .i64 0, .int .i64 1, .int .i64 1, .slice sa1 1 sc1, .slice la1 0 lc1, .int .i64 1, .bool false].toArray 31 (0, 0)) := p1
  replace p2 : ((((((((w5.setCell ⟨sb, 0, none⟩ (.int .i64 0)).setCell ⟨sb, 1, none⟩ (.int .i64 1)).setCell ⟨sb, 2, none⟩ (.int .i64 1)).setCell ⟨sb, 3, none⟩ (.slice sa1 1 sc1)).setCell ⟨sb, 4, none⟩ (.slice la1 0 lc1)).setCell ⟨sb, 5, none⟩ (.int .i64 1)).setCell ⟨sb, 6, none⟩ (.bool false)).alloc (.cells #[.int .i64 1, .int .i64 0, .int .i64 0, .int .i64 1, .slice aa1 0 ac1, .int .i64 0, .int .i64 0] 38)).heap[w5.heap.size]? = some (.cells #[.int .i64 1, .int .i64 0, .int .i64 0, .int .i64 1, .slice aa1 0 ac1, .int .i64 0, .int .i64 0] 38 (0, 0)) := p2
  replace p3 : ∀ (k : Nat) (ob : Obj), k ≠ sb → w5.heap[k]? = some ob → ((((((((w5.setCell ⟨sb, 0, none⟩ (.int .i64 0)).setCell ⟨sb, 1, none⟩ (.int .i64 1)).setCell ⟨sb, 2, none⟩ (.int .i64 1)).setCell ⟨sb, 3, none⟩ (.slice sa1 1 sc1)).setCell ⟨sb, 4, none⟩ (.slice la1 0 lc1)).setCell ⟨sb, 5, none⟩ (.int .i64 1)).setCell ⟨sb, 6, none⟩ (.bool false)).alloc (.cells #[.int .i64 1, .int .i64 0, .int .i64 0, .int .i64 1, .slice aa1 0 ac1, .int .i64 0, .int .i64 0] 38)).heap[k]? = some ob := p3
  replace p4 : ∀ (B : Nat) (w0 : World), B ≤ sb → Below B w0 w5 → Below B w0 ((((((((w5.setCell ⟨sb, 0, none⟩ (.int .i64 0)).setCell ⟨sb, 1, none⟩ (.int .i64 1)).setCell ⟨sb, 2, none⟩ (.int .i64 1)).setCell ⟨sb, 3, none⟩ (.slice sa1 1 sc1)).setCell ⟨sb, 4, none⟩ (.slice la1 0 lc1)).setCell ⟨sb, 5, none⟩ (.int .i64 1)).setCell ⟨sb, 6, none⟩ (.bool false)).alloc (.cells #[.int .i64 1, .int .i64 0, .int .i64 0, .int .i64 1, .slice aa1 0 ac1, .int .i64 0, .int .i64 0] 38)) := p4
  replace hr1 : Reads ((((((((w5.setCell ⟨sb, 0, none⟩ (.int .i64 0)).setCell ⟨sb, 1, none⟩ (.int .i64 1)).setCell ⟨sb, 2, none⟩ (.int .i64 1)).setCell ⟨sb, 3, none⟩ (.slice sa1 1 sc1)).setCell ⟨sb, 4, none⟩ (.slice la1 0 lc1)).setCell ⟨sb, 5, none⟩ (.int .i64 1)).setCell ⟨sb, 6, none⟩ (.bool false)).alloc (.cells #[.int .i64 1, .int .i64 0, .int .i64 0, .int .i64 1, .slice aa1 0 ac1, .int .i64 0, .int .i64 0] 38)) sa1 (iV [0]) := hr1
  clear z0 z1 z2 z3 z4 z5 z6 zf0 zf1 zf2 zf3 zf4 zf5 zf6 q1 hbk1 hsn1 hsn2
  generalize ((((((((w5.setCell ⟨sb, 0, none⟩ (.int .i64 0)).setCell ⟨sb, 1, none⟩ (.int .i64 1)).setCell ⟨sb, 2, none⟩ (.int .i64 1)).setCell ⟨sb, 3, none⟩ (.slice sa1 1 sc1)).setCell ⟨sb, 4, none⟩ (.slice la1 0 lc1)).setCell ⟨sb, 5, none⟩ (.int .i64 1)).setCell ⟨sb, 6, none⟩ (.bool false)).alloc (.cells #[.int .i64 1, .int .i64 0, .int .i64 0, .int .i64 1, .slice aa1 0 ac1, .int .i64 0, .int .i64 0] 38)) = w6 at *
  have hb26 : Below w2.heap.size w2 w6 := p4 _ _ hsb (hb24.trans (hb5.mono hb24.size))
  have hA6 := p2
  have hs6 := p1
  have hal : w4.heap.size ≤ w5.heap.size := hb5.size
  clear p1 p2 p3 p4 hs5 hb5 hb24
  generalize w5.heap.size = ab at *
  have j0 : w6.cell? ⟨jb, 0, none⟩ = some (.slice (some ⟨h1, 0, none⟩) 1 1) := keep_cell (by simp only [World.cell?, HJB.out]; rfl) hb26
  have j1 : w6.cell? ⟨jb, 1, none⟩ = some (.int .i64 0) := keep_cell (by simp only [World.cell?, HJB.out]; rfl) hb26
  have j2 : w6.cell? ⟨jb, 2, none⟩ = some (.slice none 0 0) := keep_cell (by simp only [World.cell?, HJB.out]; rfl) hb26
  have j3 : w6.cell? ⟨jb, 3, none⟩ = some (.int .i64 100) := keep_cell (by simp only [World.cell?, HJB.out]; rfl) hb26
  have j4 : w6.cell? ⟨jb, 4, none⟩ = some (.int .i64 50) := keep_cell (by simp only [World.cell?, HJB.out]; rfl) hb26
  have s0 := cell_row (i := 0) hs6 rfl
  have s1 := cell_row (i := 1) hs6 rfl
  have s2 := cell_row (i := 2) hs6 rfl
  have s3 := cell_row (i := 3) hs6 rfl
  have s4 := cell_row (i := 4) hs6 rfl
  have s5 := cell_row (i := 5) hs6 rfl
  have s6 := cell_row (i := 6) hs6 rfl
  have C3 := HRUN.out w6 hb26 1 1 1 0 100 false sa1 la1 sc1 lc1 [0] _ 3 _ wai_deps rfl (by decide) (by omega) (by omega) hr1 n1 (fun e => (m1 e).2) (by decide) (fun e => by cases e) wai_r2
  unfold RunQ at C3
  simp only [finM, List.length_nil, List.length_cons] at C3
  simp only [show ((0 : Nat) : Int) = 0 from rfl, show ((1 : Nat) : Int) = 1 from rfl, show ((2 : Nat) : Int) = 2 from rfl, show ((3 : Nat) : Int) = 3 from rfl, show ((4 : Nat) : Int) = 4 from rfl, show ((5 : Nat) : Int) = 5 from rfl, Nat.zero_add] at C3
  go_wp2_with (go_at_call 7; go_must (with_reducible refine C3.mono ?_; (rintro e w7 ⟨sa2, sc2, la2, lc2, aa2, ac2, rfl, q1, n2, q2, m2, q3, n3, hbk2, hbx⟩); refine Hid.out ?_))
  refine Lib.hid ?_
  clear C3 j0 j1 j2 j3 j4 s0 s1 s2 s3 s4 s5 s6 q2 q3 n3
  have hsl6 := lt_row hs6
  have hs7 := heap_row hs6 hbx
  have hA7 := heap_row hA6 hbx
  have hal7 := lt_row hA6
  clear hs6 hA6 hr1 n1 m1
  have z0 := cell_row (i := 0) hs7 rfl
  have zf0 := frozen_row (i := 0) hs7
  have z1 := cell_row (i := 1) hs7 rfl
  have zf1 := frozen_row (i := 1) hs7
  have z2 := cell_row (i := 2) hs7 rfl
  have zf2 := frozen_row (i := 2) hs7
  have z3 := cell_row (i := 3) hs7 rfl
  have zf3 := frozen_row (i := 3) hs7
  have z4 := cell_row (i := 4) hs7 rfl
  have zf4 := frozen_row (i := 4) hs7
  have z5 := cell_row (i := 5) hs7 rfl
  have zf5 := frozen_row (i := 5) hs7
  have z6 := cell_row (i := 6) hs7 rfl
  have zf6 := frozen_row (i := 6) hs7
  have hsl2 := lt_row hs7
  have hsn1 : sb ≠ w7.heap.size := by omega
  have hsn2 : w7.heap.size ≠ sb := by omega
  obtain ⟨p1, p2, p3, p4⟩ := put_box (row := [.int .i64 0, .int .i64 1, .int .i64 2, .slice sa2 1 sc2, .slice la2 0 lc2, .int .i64 1, .bool true]) hs7 rfl (.cells #[.int .i64 2, .int .i64 0, .int .i64 0, .int .i64 1, .slice aa2 0 ac2, .int .i64 0, .int .i64 0] 38)
  have hr2 : Reads ((w7.setCells sb 0 [.int .i64 0, .int .i64 1, .int .i64 2, .slice sa2 1 sc2, .slice la2 0 lc2, .int .i64 1, .bool true]).alloc (.cells #[.int .i64 2, .int .i64 0, .int .i64 0, .int .i64 1, .slice aa2 0 ac2, .int .i64 0, .int .i64 0] 38)) sa2 (iV [0]) := (reads_setCells (vs := [.int .i64 0, .int .i64 1, .int .i64 2, .slice sa2 1 sc2, .slice la2 0 lc2, .int .i64 1, .bool true]) (b := sb) q1 (fun x hx => by have := hbk2.1 x hx; omega) 0).below ((Below.refl _ _).alloc (Nat.le_refl _) _)
  go_upto_region 8 with fail
  replace p1 : ((((((((w7.setCell ⟨sb, 0, none⟩ (.int .i64 0)).setCell ⟨sb, 1, none⟩ (.int .i64 1)).setCell ⟨sb, 2, none⟩ (.int .i64 2)).setCell ⟨sb, 3, none⟩ (.slice sa2 1 sc2)).setCell ⟨sb, 4, none⟩ (.slice la2 0 lc2)).setCell ⟨sb, 5, none⟩ (.int .i64 1)).setCell ⟨sb, 6, none⟩ (.bool true)).alloc (.cells #[.int .i64 2, .int .i64 0, .int .i64 0, .int .i64 1, .slice aa2 0 ac2, .int .i64 0, .int .i64 0] 38)).heap[sb]? = some (.cells [.int .i64 0, .int .i64 1, .int .i64 2, .slice sa2 1 sc2, .slice la2 0 lc2, .int .i64 1, .bool true].toArray 31 (0, 0)) := p1
  replace p2 : ((((((((w7.setCell ⟨sb, 0, none⟩ (.int .i64 0)).setCell ⟨sb, 1, none⟩ (.int .i64 1)).setCell ⟨sb, 2, none⟩ (.int .i64 2)).setCell ⟨sb, 3, none⟩ (.slice sa2 1 sc2)).setCell ⟨sb, 4, none⟩ (.slice la2 0 lc2)).setCell ⟨sb, 5, none⟩ (.int .i64 1)).setCell ⟨sb, 6, none⟩ (.bool true)).alloc (.cells #[.int .i64 2, .int .i64 0, .int .i64 0, .int .i64 1, .slice aa2 0 ac2, .int .i64 0, .int .i64 0] 38)).heap[w7.heap.size]? = some (.cells #[.int .i64 2, .int .i64 0, .int .i64 0, .int .i64 1, .slice aa2 0 ac2, .int .i64 0, .int .i64 0] 38 (0, 0)) := p2
  replace p3 : ∀ (k : Nat) (ob : Obj), k ≠ sb → w7.heap[k]? = some ob → ((((((((w7.setCell ⟨sb, 0, none⟩ (.int .i64 0)).setCell ⟨sb, 1, none⟩ (.int .i64 1)).setCell ⟨sb, 2, none⟩ (.int .i64 2)).setCell ⟨sb, 3, none⟩ (.slice sa2 1 sc2)).setCell ⟨sb, 4, none⟩ (.slice la2 0 lc2)).setCell ⟨sb, 5, none⟩ (.int .i64 1)).setCell ⟨sb, 6, none⟩ (.bool true)).alloc (.cells #[.int .i64 2, .int .i64 0, .int .i64 0, .int .i64 1, .slice aa2 0 ac2, .int .i64 0, .int .i64 0] 38)).heap[k]? = some ob := p3
  replace p4 : ∀ (B : Nat) (w0 : World), B ≤ sb → Below B w0 w7 → Below B w0 ((((((((w7.setCell ⟨sb, 0, none⟩ (.int .i64 0)).setCell ⟨sb, 1, none⟩ (.int .i64 1)).setCell ⟨sb, 2, none⟩ (.int .i64 2)).setCell ⟨sb, 3, none⟩ (.slice sa2 1 sc2)).setCell ⟨sb, 4, none⟩ (.slice la2 0 lc2)).setCell ⟨sb, 5, none⟩ (.int .i64 1)).setCell ⟨sb, 6, none⟩ (.bool true)).alloc (.cells #[.int .i64 2, .int .i64 0, .int .i64 0, .int .i64 1, .slice aa2 0 ac2, .int .i64 0, .int .i64 0] 38)) := p4
  replace hr2 : Reads ((((((((w7.setCell ⟨sb, 0, none⟩ (.int .i64 0)).setCell ⟨sb, 1, none⟩ (.int .i64 1)).setCell ⟨sb, 2, none⟩ (.int .i64 2)).setCell ⟨sb, 3, none⟩ (.slice sa2 1 sc2)).setCell ⟨sb, 4, none⟩ (.slice la2 0 lc2)).setCell ⟨sb, 5, none⟩ (.int .i64 1)).setCell ⟨sb, 6, none⟩ (.bool true)).alloc (.cells #[.int .i64 2, .int .i64 0, .int .i64 0, .int .i64 1, .slice aa2 0 ac2, .int .i64 0, .int .i64 0] 38)) sa2 (iV [0]) := hr2
  clear z0 z1 z2 z3 z4 z5 z6 zf0 zf1 zf2 zf3 zf4 zf5 zf6 q1 hbk2 hsn1 hsn2
  generalize ((((((((w7.setCell ⟨sb, 0, none⟩ (.int .i64 0)).setCell ⟨sb, 1, none⟩ (.int .i64 1)).setCell ⟨sb, 2, none⟩ (.int .i64 2)).setCell ⟨sb, 3, none⟩ (.slice sa2 1 sc2)).setCell ⟨sb, 4, none⟩ (.slice la2 0 lc2)).setCell ⟨sb, 5, none⟩ (.int .i64 1)).setCell ⟨sb, 6, none⟩ (.bool true)).alloc (.cells #[.int .i64 2, .int .i64 0, .int .i64 0, .int .i64 1, .slice aa2 0 ac2, .int .i64 0, .int .i64 0] 38)) = w8 at *
  have hb28 : Below w2.heap.size w2 w8 := p4 _ _ hsb (hb26.trans (hbx.mono hb26.size))
  have hB8 := p2
  have hs8 := p1
  have hA8 := p3 ab _ (by omega) hA7
  have hbl : w6.heap.size ≤ w7.heap.size := hbx.size
  clear p1 p2 p3 p4 hs7 hA7 hbx hb26
  generalize w7.heap.size = eb at *
  have j0 : w8.cell? ⟨jb, 0, none⟩ = some (.slice (some ⟨h1, 0, none⟩) 1 1) := keep_cell (by simp only [World.cell?, HJB.out]; rfl) hb28
  have j1 : w8.cell? ⟨jb, 1, none⟩ = some (.int .i64 0) := keep_cell (by simp only [World.cell?, HJB.out]; rfl) hb28
  have j2 : w8.cell? ⟨jb, 2, none⟩ = some (.slice none 0 0) := keep_cell (by simp only [World.cell?, HJB.out]; rfl) hb28
  have j3 : w8.cell? ⟨jb, 3, none⟩ = some (.int .i64 100) := keep_cell (by simp only [World.cell?, HJB.out]; rfl) hb28
  have j4 : w8.cell? ⟨jb, 4, none⟩ = some (.int .i64 50) := keep_cell (by simp only [World.cell?, HJB.out]; rfl) hb28
  have s0 := cell_row (i := 0) hs8 rfl
  have s1 := cell_row (i := 1) hs8 rfl
  have s2 := cell_row (i := 2) hs8 rfl
  have s3 := cell_row (i := 3) hs8 rfl
  have s4 := cell_row (i := 4) hs8 rfl
  have s5 := cell_row (i := 5) hs8 rfl
  have s6 := cell_row (i := 6) hs8 rfl
  have C3 := HRUN.out w8 hb28 1 2 1 0 steps true sa2 la2 sc2 lc2 [0] _ 3 _ wai_deps rfl (by decide) (by omega) (by omega) hr2 n2 (fun e => (m2 e).2) (by decide) (fun _ => ⟨0, 0, [], rfl, rfl, rfl⟩) (wai_r3 steps)
  unfold RunQ at C3
  simp only [finM, List.length_nil, List.length_cons] at C3
  simp only [show ((0 : Nat) : Int) = 0 from rfl, show ((1 : Nat) : Int) = 1 from rfl, show ((2 : Nat) : Int) = 2 from rfl, show ((3 : Nat) : Int) = 3 from rfl, show ((4 : Nat) : Int) = 4 from rfl, show ((5 : Nat) : Int) = 5 from rfl, Nat.zero_add] at C3
  go_wp2_with (go_at_call 7; go_must (with_reducible refine C3.mono ?_; (rintro e w9 ⟨sa3, sc3, la3, lc3, aa3, ac3, rfl, q1, n3, q2, m3, q3, n3, hbk3, hbx⟩); refine Hid.out ?_))
  refine Lib.hid ?_
  clear C3 j0 j1 j2 j3 j4 s0 s1 s2 s3 s4 s5 s6 q2 q3 n3
  obtain ⟨p1, p2, p3⟩ := two_newW w9 (.cells #[.int .i64 0, .int .i64 1, .int .i64 2, .slice sa3 1 sc3, .slice la3 0 lc3, .int .i64 1, .bool true] 31) (.cells #[.int .i64 2, .int .i64 0, .int .i64 0, .int .i64 0, .slice aa3 0 ac3, .int .i64 0, .int .i64 0] 38)
  go_upto_region 9 with fail
  generalize ((w9.alloc (.cells #[.int .i64 0, .int .i64 1, .int .i64 2, .slice sa3 1 sc3, .slice la3 0 lc3, .int .i64 1, .bool true] 31)).alloc (.cells #[.int .i64 2, .int .i64 0, .int .i64 0, .int .i64 0, .slice aa3 0 ac3, .int .i64 0, .int .i64 0] 38)) = w10 at *
  have hs10 := heap_row (heap_row hs8 hbx) p3
  have hA10 := heap_row (heap_row hA8 hbx) p3
  have hB10 := heap_row (heap_row hB8 hbx) p3
  have hT10 := p1
  have hC10 := p2
  have hb210 : Below w2.heap.size w2 w10 := (hb28.trans (hbx.mono hb28.size)).trans (p3.mono (Nat.le_trans hb28.size hbx.size))
  have hr210 := (hr2.below hbx).below p3
  have hr310 := q1.below p3
  clear hs8 hA8 hB8 hbx p1 p2 p3 hr2 q1 hb28
  generalize w9.heap.size = tb at *
  have a0 := cell_row (cs := [.int .i64 1, .int .i64 0, .int .i64 0, .int .i64 1, .slice aa1 0 ac1, .int .i64 0, .int .i64 0]) (i := 0) hA10 rfl
  have b0 := cell_row (cs := [.int .i64 2, .int .i64 0, .int .i64 0, .int .i64 1, .slice aa2 0 ac2, .int .i64 0, .int .i64 0]) (i := 0) hB10 rfl
  have b2 := cell_row (cs := [.int .i64 2, .int .i64 0, .int .i64 0, .int .i64 1, .slice aa2 0 ac2, .int .i64 0, .int .i64 0]) (i := 2) hB10 rfl
  have c0 := cell_row (cs := [.int .i64 2, .int .i64 0, .int .i64 0, .int .i64 0, .slice aa3 0 ac3, .int .i64 0, .int .i64 0]) (i := 0) hC10 rfl
  have c2 := cell_row (cs := [.int .i64 2, .int .i64 0, .int .i64 0, .int .i64 0, .slice aa3 0 ac3, .int .i64 0, .int .i64 0]) (i := 2) hC10 rfl
  have c3 := cell_row (cs := [.int .i64 2, .int .i64 0, .int .i64 0, .int .i64 0, .slice aa3 0 ac3, .int .i64 0, .int .i64 0]) (i := 3) hC10 rfl
  have s0 := cell_row (i := 0) hs10 rfl
  have s1 := cell_row (i := 1) hs10 rfl
  have s2 := cell_row (i := 2) hs10 rfl
  have s3 := cell_row (i := 3) hs10 rfl
  have s4 := cell_row (i := 4) hs10 rfl
  have s5 := cell_row (i := 5) hs10 rfl
  have s6 := cell_row (i := 6) hs10 rfl
  have t0 := cell_row (cs := [.int .i64 0, .int .i64 1, .int .i64 2, .slice sa3 1 sc3, .slice la3 0 lc3, .int .i64 1, .bool true]) (i := 0) hT10 rfl
  have t1 := cell_row (cs := [.int .i64 0, .int .i64 1, .int .i64 2, .slice sa3 1 sc3, .slice la3 0 lc3, .int .i64 1, .bool true]) (i := 1) hT10 rfl
  have t2 := cell_row (cs := [.int .i64 0, .int .i64 1, .int .i64 2, .slice sa3 1 sc3, .slice la3 0 lc3, .int .i64 1, .bool true]) (i := 2) hT10 rfl
  have t3 := cell_row (cs := [.int .i64 0, .int .i64 1, .int .i64 2, .slice sa3 1 sc3, .slice la3 0 lc3, .int .i64 1, .bool true]) (i := 3) hT10 rfl
  have t4 := cell_row (cs := [.int .i64 0, .int .i64 1, .int .i64 2, .slice sa3 1 sc3, .slice la3 0 lc3, .int .i64 1, .bool true]) (i := 4) hT10 rfl
  have t5 := cell_row (cs := [.int .i64 0, .int .i64 1, .int .i64 2, .slice sa3 1 sc3, .slice la3 0 lc3, .int .i64 1, .bool true]) (i := 5) hT10 rfl
  have t6 := cell_row (cs := [.int .i64 0, .int .i64 1, .int .i64 2, .slice sa3 1 sc3, .slice la3 0 lc3, .int .i64 1, .bool true]) (i := 6) hT10 rfl
  have CS := same_state 0 1 2 1 true sa2 sa3 la2 la3 sc2 sc3 lc2 lc3 1 0 [0] [] w10 rfl rfl (by decide) (by decide) hr210 hr310 (.inl rfl) (.inl rfl)
  go_wp2_with (go_at_call 8; go_must (with_reducible refine CS.mono ?_; (rintro e w11 ⟨rfl, hb11⟩); refine Hid.out ?_))
  refine Lib.hid ?_
  have s6w := keep_cell s6 hb11
  clear CS a0 b0 b2 c0 c2 c3 s0 s1 s2 s3 s4 s5 s6 t0 t1 t2 t3 t4 t5 t6 hA10 hB10 hC10 hT10 hr310
  have hs11 := heap_row hs10 hb11
  have hr211 := hr210.below hb11
  have hb211 := hb210.trans (hb11.mono hb210.size)
  clear hs10 hr210 hb210 hb11
  have hbr := alloc_below w11 (.cells #[.int .i64 err, .int .i64 v] 36)
  have hR12 := heap_alloc_new w11 (.cells #[.int .i64 err, .int .i64 v] 36)
  go_upto_region 12 with fail
  generalize w11.alloc (.cells #[.int .i64 err, .int .i64 v] 36) = w12 at *
  have hs12 := heap_row hs11 hbr
  have hr212 := hr211.below hbr
  have hb212 := hb211.trans (hbr.mono hb211.size)
  clear hs11 hr211 hb211 hbr s6w
  generalize w11.heap.size = rb at *
  have x0 : w12.cell? ⟨rb, 0, none⟩ = some (.int .i64 err) := by simp only [World.cell?, hR12]; rfl
  have x1 : w12.cell? ⟨rb, 1, none⟩ = some (.int .i64 v) := by simp only [World.cell?, hR12]; rfl
  have j0 : w12.cell? ⟨jb, 0, none⟩ = some (.slice (some ⟨h1, 0, none⟩) 1 1) := keep_cell (by simp only [World.cell?, HJB.out]; rfl) hb212
  have j1 : w12.cell? ⟨jb, 1, none⟩ = some (.int .i64 0) := keep_cell (by simp only [World.cell?, HJB.out]; rfl) hb212
  have j2 : w12.cell? ⟨jb, 2, none⟩ = some (.slice none 0 0) := keep_cell (by simp only [World.cell?, HJB.out]; rfl) hb212
  have j3 : w12.cell? ⟨jb, 3, none⟩ = some (.int .i64 100) := keep_cell (by simp only [World.cell?, HJB.out]; rfl) hb212
  have j4 : w12.cell? ⟨jb, 4, none⟩ = some (.int .i64 50) := keep_cell (by simp only [World.cell?, HJB.out]; rfl) hb212
  have s0 := cell_row (i := 0) hs12 rfl
  have s1 := cell_row (i := 1) hs12 rfl
  have s2 := cell_row (i := 2) hs12 rfl
  have s3 := cell_row (i := 3) hs12 rfl
  have s4 := cell_row (i := 4) hs12 rfl
  have s5 := cell_row (i := 5) hs12 rfl
  have s6 := cell_row (i := 6) hs12 rfl
  by_cases herr : err = 0
  · skip
    subst herr
    have C4 := HRES.out w12 hb212 1 2 1 0 v sa2 la2 sc2 lc2 [0] _ _ wai_deps rfl (by decide) (by omega) (by omega) hr212 n2 (fun e => (m2 e).2) (by decide) (by decide) ⟨0, 0, [], rfl, rfl, rfl⟩ (show resM _ 0 v = some (_, none) from rfl)
    unfold RunQ at C4
    simp only [finM, List.length_nil, List.length_cons] at C4
    simp only [show ((0 : Nat) : Int) = 0 from rfl, show ((1 : Nat) : Int) = 1 from rfl, show ((2 : Nat) : Int) = 2 from rfl, Nat.zero_add] at C4
    go_wp2_with (go_at_call 9; go_must (with_reducible refine C4.mono ?_; (rintro e w13 ⟨sa4, sc4, la4, lc4, aa4, ac4, rfl, q1, n4, q2, m4, q3, n3, hbk4, hbx⟩); refine Hid.out ?_))
    refine Lib.hid ?_
    clear C4 j0 j1 j2 j3 j4 s0 s1 s2 s3 s4 s5 s6 x0 x1 q2 q3 n3 hbk4
    obtain ⟨p1, p2, p3⟩ := two_newW w13 (.cells #[.int .i64 0, .int .i64 2, .int .i64 2, .slice sa4 1 sc4, .slice la4 0 lc4, .int .i64 1, .bool false] 31) (.cells #[.int .i64 0, .int .i64 0, .int .i64 0, .int .i64 0, .slice aa4 0 ac4, .int .i64 0, .int .i64 0] 38)
    go_upto_region 13 with fail
    generalize ((w13.alloc (.cells #[.int .i64 0, .int .i64 2, .int .i64 2, .slice sa4 1 sc4, .slice la4 0 lc4, .int .i64 1, .bool false] 31)).alloc (.cells #[.int .i64 0, .int .i64 0, .int .i64 0, .int .i64 0, .slice aa4 0 ac4, .int .i64 0, .int .i64 0] 38)) = w14 at *
    have hr14 := q1.below p3
    have hb214 := (hb212.trans (hbx.mono hb212.size)).trans (p3.mono (Nat.le_trans hb212.size hbx.size))
    clear hs12 hR12 hr212 hbx hb212 q1
    have d0 := cell_row (cs := [.int .i64 0, .int .i64 0, .int .i64 0, .int .i64 0, .slice aa4 0 ac4, .int .i64 0, .int .i64 0]) (i := 0) p2 rfl
    have j0 : w14.cell? ⟨jb, 0, none⟩ = some (.slice (some ⟨h1, 0, none⟩) 1 1) := keep_cell (by simp only [World.cell?, HJB.out]; rfl) hb214
    have j1 : w14.cell? ⟨jb, 1, none⟩ = some (.int .i64 0) := keep_cell (by simp only [World.cell?, HJB.out]; rfl) hb214
    have j2 : w14.cell? ⟨jb, 2, none⟩ = some (.slice none 0 0) := keep_cell (by simp only [World.cell?, HJB.out]; rfl) hb214
    have j3 : w14.cell? ⟨jb, 3, none⟩ = some (.int .i64 100) := keep_cell (by simp only [World.cell?, HJB.out]; rfl) hb214
    have j4 : w14.cell? ⟨jb, 4, none⟩ = some (.int .i64 50) := keep_cell (by simp only [World.cell?, HJB.out]; rfl) hb214
    have s0 := cell_row (cs := [.int .i64 0, .int .i64 2, .int .i64 2, .slice sa4 1 sc4, .slice la4 0 lc4, .int .i64 1, .bool false]) (i := 0) p1 rfl
    have s1 := cell_row (cs := [.int .i64 0, .int .i64 2, .int .i64 2, .slice sa4 1 sc4, .slice la4 0 lc4, .int .i64 1, .bool false]) (i := 1) p1 rfl
    have s2 := cell_row (cs := [.int .i64 0, .int .i64 2, .int .i64 2, .slice sa4 1 sc4, .slice la4 0 lc4, .int .i64 1, .bool false]) (i := 2) p1 rfl
    have s3 := cell_row (cs := [.int .i64 0, .int .i64 2, .int .i64 2, .slice sa4 1 sc4, .slice la4 0 lc4, .int .i64 1, .bool false]) (i := 3) p1 rfl
    have s4 := cell_row (cs := [.int .i64 0, .int .i64 2, .int .i64 2, .slice sa4 1 sc4, .slice la4 0 lc4, .int .i64 1, .bool false]) (i := 4) p1 rfl
    have s5 := cell_row (cs := [.int .i64 0, .int .i64 2, .int .i64 2, .slice sa4 1 sc4, .slice la4 0 lc4, .int .i64 1, .bool false]) (i := 5) p1 rfl
    have s6 := cell_row (cs := [.int .i64 0, .int .i64 2, .int .i64 2, .slice sa4 1 sc4, .slice la4 0 lc4, .int .i64 1, .bool false]) (i := 6) p1 rfl
    have C3 := HRUN.out w14 hb214 2 2 1 0 100 false sa4 la4 sc4 lc4 [v] _ 5 _ wai_deps rfl (by decide) (by omega) (by omega) hr14 n4 (fun e => (m4 e).2) (by simp) (fun e => by cases e) (wai_r4 v)
    unfold RunQ at C3
    simp only [finM, List.length_nil, List.length_cons] at C3
    simp only [show ((0 : Nat) : Int) = 0 from rfl, show ((1 : Nat) : Int) = 1 from rfl, show ((2 : Nat) : Int) = 2 from rfl, show ((3 : Nat) : Int) = 3 from rfl, show ((4 : Nat) : Int) = 4 from rfl, show ((5 : Nat) : Int) = 5 from rfl, Nat.zero_add] at C3
    go_wp2_with (go_at_call 7; go_must (with_reducible refine C3.mono ?_; (rintro e w15 ⟨sa5, sc5, la5, lc5, aa5, ac5, rfl, q1, n5, q2, m5, q3, n3, hbk5, hbx⟩); refine Hid.out ?_))
    refine Lib.hid ?_
    have d0w := keep_cell d0 hbx
    have s6w := keep_cell s6 hbx
    clear C3 j0 j1 j2 j3 j4 s0 s1 s2 s3 s4 s5 s6 q1 q2 q3 n3 n5 m5 hbk5 d0 p1 p2 p3
    have hb215 := hb214.trans (hbx.mono hb214.size)
    obtain ⟨p1, p2, p3⟩ := two_newW w15 (.cells #[.int .i64 0, .int .i64 4, .int .i64 5, .slice sa5 1 sc5, .slice la5 0 lc5, .int .i64 1, .bool false] 31) (.cells #[.int .i64 3, .int .i64 0, .int .i64 0, .int .i64 3, .slice aa5 0 ac5, .int .i64 0, .int .i64 (wrap64 (v + 1))] 38)
    go_upto_region 16 with fail
    generalize ((w15.alloc (.cells #[.int .i64 0, .int .i64 4, .int .i64 5, .slice sa5 1 sc5, .slice la5 0 lc5, .int .i64 1, .bool false] 31)).alloc (.cells #[.int .i64 3, .int .i64 0, .int .i64 0, .int .i64 3, .slice aa5 0 ac5, .int .i64 0, .int .i64 (wrap64 (v + 1))] 38)) = w16 at *
    have d0 := keep_cell d0w p3
    have s6 := keep_cell s6w p3
    have e0 := cell_row (cs := [.int .i64 3, .int .i64 0, .int .i64 0, .int .i64 3, .slice aa5 0 ac5, .int .i64 0, .int .i64 (wrap64 (v + 1))]) (i := 0) p2 rfl
    have e3 := cell_row (cs := [.int .i64 3, .int .i64 0, .int .i64 0, .int .i64 3, .slice aa5 0 ac5, .int .i64 0, .int .i64 (wrap64 (v + 1))]) (i := 3) p2 rfl
    have e6 := cell_row (cs := [.int .i64 3, .int .i64 0, .int .i64 0, .int .i64 3, .slice aa5 0 ac5, .int .i64 0, .int .i64 (wrap64 (v + 1))]) (i := 6) p2 rfl
    have HBZ := hide (HB03.out.trans ((hb215.trans (p3.mono hb215.size)).mono HB03.out.size))
    clear d0w s6w p1 p2 p3 hbx hb215 hb214 hr14
    go_wp2_with fail
    go_ret
    exact ⟨rfl, HBZ.out⟩
  · skip
    have heb : (err != 0) = true := by simp [herr]
    have C4 := HRES.out w12 hb212 1 2 1 err v sa2 la2 sc2 lc2 [0] _ _ wai_deps rfl (by decide) (by omega) (by omega) hr212 n2 (fun e => (m2 e).2) (by decide) (by decide) ⟨0, 0, [], rfl, rfl, rfl⟩ (show resM _ err v = some (_, some (err, v)) by unfold resM; rw [if_neg herr])
    unfold RunQ at C4
    simp only [finM, List.length_nil, List.length_cons] at C4
    simp only [show ((0 : Nat) : Int) = 0 from rfl, show ((1 : Nat) : Int) = 1 from rfl, show ((2 : Nat) : Int) = 2 from rfl, Nat.zero_add] at C4
    go_wp2_with (go_at_call 9; go_must (with_reducible refine C4.mono ?_; (rintro e w13 ⟨sa4, sc4, la4, lc4, aa4, ac4, rfl, q1, n4, q2, m4, q3, n3, hbk4, hbx⟩); refine Hid.out ?_))
    refine Lib.hid ?_
    clear C4 j0 j1 j2 j3 j4 s0 s1 s2 s3 s4 s5 s6 x0 x1 q2 q3 n3 hbk4
    obtain ⟨p1, p2, p3⟩ := two_newW w13 (.cells #[.int .i64 0, .int .i64 1, .int .i64 2, .slice sa4 1 sc4, .slice la4 0 lc4, .int .i64 1, .bool true] 31) (.cells #[.int .i64 3, .int .i64 0, .int .i64 0, .int .i64 0, .slice aa4 0 ac4, .int .i64 err, .int .i64 v] 38)
    go_upto_region 13 with fail
    generalize ((w13.alloc (.cells #[.int .i64 0, .int .i64 1, .int .i64 2, .slice sa4 1 sc4, .slice la4 0 lc4, .int .i64 1, .bool true] 31)).alloc (.cells #[.int .i64 3, .int .i64 0, .int .i64 0, .int .i64 0, .slice aa4 0 ac4, .int .i64 err, .int .i64 v] 38)) = w14 at *
    have hs14 := heap_row (heap_row hs12 hbx) p3
    have hR14 : w14.heap[rb]? = some (.cells [.int .i64 err, .int .i64 v].toArray 36 (0, 0)) := heap_row (heap_row hR12 hbx) p3
    have hr14 := (hr212.below hbx).below p3
    have hq14 := q1.below p3
    have hb214 := (hb212.trans (hbx.mono hb212.size)).trans (p3.mono (Nat.le_trans hb212.size hbx.size))
    have x0 := cell_row (i := 0) hR14 rfl
    have x1 := cell_row (i := 1) hR14 rfl
    have d0 := cell_row (cs := [.int .i64 3, .int .i64 0, .int .i64 0, .int .i64 0, .slice aa4 0 ac4, .int .i64 err, .int .i64 v]) (i := 0) p2 rfl
    have d5 := cell_row (cs := [.int .i64 3, .int .i64 0, .int .i64 0, .int .i64 0, .slice aa4 0 ac4, .int .i64 err, .int .i64 v]) (i := 5) p2 rfl
    have d6 := cell_row (cs := [.int .i64 3, .int .i64 0, .int .i64 0, .int .i64 0, .slice aa4 0 ac4, .int .i64 err, .int .i64 v]) (i := 6) p2 rfl
    have CR := same_result err v w14
    clear hs12 hR12 hr212 hbx q1 hb212
    go_wp2_with (go_at_call 10; go_must (with_reducible refine CR.mono ?_; (rintro e w15 ⟨rfl, hb15⟩); refine Hid.out ?_))
    refine Lib.hid ?_
    have hs15 := heap_row hs14 hb15
    have hu15 := heap_row p1 hb15
    have CS := same_state 0 1 2 1 true sa4 sa2 la4 la2 sc4 sc2 lc4 lc2 1 0 [0] [] w15 rfl rfl (by decide) (by decide) (hq14.below hb15) (hr14.below hb15) (.inl rfl) (.inl rfl)
    have hb215 := hb214.trans (hb15.mono hb214.size)
    clear CR x0 x1 d0 d5 d6 hs14 hR14 hr14 hq14 p1 p2 p3 hb214 hb15
    have s0 := cell_row (i := 0) hs15 rfl
    have s1 := cell_row (i := 1) hs15 rfl
    have s2 := cell_row (i := 2) hs15 rfl
    have s3 := cell_row (i := 3) hs15 rfl
    have s4 := cell_row (i := 4) hs15 rfl
    have s5 := cell_row (i := 5) hs15 rfl
    have s6 := cell_row (i := 6) hs15 rfl
    have t0 := cell_row (cs := [.int .i64 0, .int .i64 1, .int .i64 2, .slice sa4 1 sc4, .slice la4 0 lc4, .int .i64 1, .bool true]) (i := 0) hu15 rfl
    have t1 := cell_row (cs := [.int .i64 0, .int .i64 1, .int .i64 2, .slice sa4 1 sc4, .slice la4 0 lc4, .int .i64 1, .bool true]) (i := 1) hu15 rfl
    have t2 := cell_row (cs := [.int .i64 0, .int .i64 1, .int .i64 2, .slice sa4 1 sc4, .slice la4 0 lc4, .int .i64 1, .bool true]) (i := 2) hu15 rfl
    have t3 := cell_row (cs := [.int .i64 0, .int .i64 1, .int .i64 2, .slice sa4 1 sc4, .slice la4 0 lc4, .int .i64 1, .bool true]) (i := 3) hu15 rfl
    have t4 := cell_row (cs := [.int .i64 0, .int .i64 1, .int .i64 2, .slice sa4 1 sc4, .slice la4 0 lc4, .int .i64 1, .bool true]) (i := 4) hu15 rfl
    have t5 := cell_row (cs := [.int .i64 0, .int .i64 1, .int .i64 2, .slice sa4 1 sc4, .slice la4 0 lc4, .int .i64 1, .bool true]) (i := 5) hu15 rfl
    have t6 := cell_row (cs := [.int .i64 0, .int .i64 1, .int .i64 2, .slice sa4 1 sc4, .slice la4 0 lc4, .int .i64 1, .bool true]) (i := 6) hu15 rfl
    go_wp2_with (go_at_call 8; go_must (with_reducible refine CS.mono ?_; (rintro e w16 ⟨rfl, hb16⟩)))
    go_ret
    exact ⟨rfl, HB03.out.trans ((hb215.trans (hb16.mono hb215.size)).mono HB03.out.size)⟩
end Go.Proofs.YtchpocejkdngnaaGreatDoor
