/- Print. -/
import Derived.Test.YtfnloomcianbiaaGreatDoorBuild
namespace Go.Proofs.YtfnloomcianbiaaGreatDoor
open Go.RowKit Go.ChangeShapes Go.WideShapes Go.ChangeAt Go.Deep

/-- What is asked of the numbers and texts of a job. -/
structure JobIn (fs : List Fun) (args : List Int) (fuel tasks : Int) : Prop where
  args : In64 args
  two : In64 [fuel, tasks]
  funcs : ∀ f ∈ fs, In64 [f.args, f.locals] ∧ f.name.size < 4294967281 ∧ f.code.length ≤ 1000000000 ∧ ∀ x ∈ f.code, In64 [x.2]

theorem plain_parts {fs : List Fun} {main : Int} {na : Nat} (h : plainL fs main na = true) : fs.length ≤ 32 ∧ na ≤ 8 ∧ (0 ≤ main ∧ main < (fs.length : Int)) ∧ ∀ f ∈ fs, f.name.size ≤ 20 ∧ f.code.length ≤ 256 ∧ ∀ x ∈ f.code, x.1 = 16 → 0 ≤ x.2 ∧ x.2 < (fs.length : Int) := by
  unfold plainL at h
  simp only [Bool.and_eq_true, decide_eq_true_eq, List.all_eq_true, List.mem_range] at h
  obtain ⟨⟨⟨h1, h2⟩, h3⟩, h4⟩ := h
  refine ⟨h1, h2, ?_, fun f hf => ?_⟩
  · unfold isFuncL at h3
    simpa using h3
  · obtain ⟨k, hk, rfl⟩ := List.getElem_of_mem hf
    have h5 := h4 k hk
    unfold okAt at h5
    rw [List.getElem?_eq_getElem hk] at h5
    simp only [Bool.and_eq_true, decide_eq_true_eq] at h5
    obtain ⟨⟨h6, _⟩, h7⟩ := h5
    refine ⟨?_, ?_, fun x hx hx16 => ?_⟩
    · unfold isNameL at h6
      simp only [Bool.and_eq_true, decide_eq_true_eq] at h6
      have := h6.1.1.2
      rw [Lib.size_eq]
      exact this
    · unfold plainCode at h7
      simp only [Bool.and_eq_true, decide_eq_true_eq] at h7
      exact h7.1
    · unfold plainCode at h7
      simp only [Bool.and_eq_true, List.all_eq_true] at h7
      have h8 := h7.2 x hx
      unfold plainIns at h8
      split at h8
      · cases h8
      · have h9 : isFuncL x.2 fs.length = true := by
          first
            | exact h8
            | simpa [hx16] using h8
        unfold isFuncL at h9
        simpa using h9

set_option maxRecDepth 100000 in
set_option maxHeartbeats 4000000 in
theorem print_any (j : JV) (cs : List Value) (fs : List Fun) (args : List Int) (w : World) (hJ : JobR w j cs fs args) (hI : JobIn fs args j.fuel j.tasks) (hE : Env w) (hf : fs.length ≤ 1000000000) (ha : args.length ≤ 1000000000) :
    Calls Tryz.prog 14 #[.agg j.cells] w fun e w' => e = .returned (.string (bs (printL fs j.main args j.fuel j.tasks))) ∧ Below w.heap.size w w' := by
  have hbA := alloc_below w (.cells j.cells 25)
  have hjA : (w.alloc (.cells j.cells 25)).heap[w.heap.size]? = some (.cells j.cells 25 (0, 0)) := heap_alloc_new w _
  have P := plain_any j cs fs args _ (hJ.below hbA) (hE.below hbA) hf ha (fun f hf => ⟨(hI.funcs f hf).2.2.1, (hI.funcs f hf).2.1⟩)
  have HP := hide (show printL fs j.main args j.fuel j.tasks = if plainL fs j.main args.length = true then printT fs j.main args j.fuel j.tasks else [] from rfl)
  have HPP := hide (fun (h : plainL fs j.main args.length = true) => plain_parts h)
  generalize plainL fs j.main args.length = q at P HP HPP
  generalize printL fs j.main args j.fuel j.tasks = r at HP ⊢
  have hnf := hJ.nf
  have hna := hJ.na
  have HIL := hide (fun (op n : Int) (hn : In64 [n]) (h16 : op = 16 → 0 ≤ n ∧ n < (fs.length : Int)) (hc : ∀ f ∈ fs, f.name.size ≤ 1000) (W : World) (hW : JobR W j cs fs args) (hEW : Env W) => insLine_any op n j cs fs args hn h16 hc W hW hEW)
  obtain ⟨fa, nf, fc, mn, aa, na, ac, fu, ta⟩ := j
  simp only [JV.cells] at *
  have HNF := hide hnf
  have HNA := hide hna
  clear hnf hna
  cases q with
  | false =>
    have HO := hide (show r = [] from HP.out)
    go_enter Tryz.func14, Tryz.ntmps14
    go_wp2_with (go_at_call 25; go_must (refine P.mono ?_; rintro e w1 ⟨rfl, hb1⟩))
    go_ret
    exact ⟨by rw [HO.out]; rfl, hbA.trans (hb1.mono hbA.size)⟩
  | true =>
    have HO := hide (show r = printT fs mn args fu ta from HP.out)
    obtain ⟨h32, h8, ⟨hm0, hm1⟩, hfn⟩ := HPP.out rfl
    have HFN := hide hfn
    have HII := hide hI
    clear HP HPP hfn
    go_enter Tryz.func14, Tryz.ntmps14
    go_wp2_with (first
      | (go_at_call 25; go_must (refine P.mono ?_; rintro e w1 ⟨rfl, hb1⟩; have hj1 : w1.heap[w.heap.size]? = some (.cells [.slice fa nf fc, .int .i64 mn, .slice aa na ac, .int .i64 fu, .int .i64 ta].toArray 25 (0, 0)) := (hb1.block _ (lt_row hjA)).trans hjA; have k0 := cell_row (i := 0) hj1 rfl; have k1 := cell_row (i := 1) hj1 rfl; have k2 := cell_row (i := 2) hj1 rfl; have k3 := cell_row (i := 3) hj1 rfl; have k4 := cell_row (i := 4) hj1 rfl; have hjl := lt_row hj1))
      | (go_at_call 27; refine Hid.out ?_))
    refine Lib.hid ?_
    have hbw1 := hbA.trans (hb1.mono hbA.size)
    have hJ1 := (hJ.below hbA).below hb1
    have hE1 := (hE.below hbA).below hb1
    have hbld := bld_new w1
    have hbB := alloc_below w1 (.cells #[.pointer none, .slice none 0 0] 66)
    have hsB : (w1.alloc (.cells #[.pointer none, .slice none 0 0] 66)).heap.size = w1.heap.size + 1 := by simp
    generalize w1.alloc (.cells #[.pointer none, .slice none 0 0] 66) = wB at hbld hbB hsB ⊢
    have hbC := alloc_below wB (.cells #[.int .i64 fu, .int .i64 ta] 3)
    have L1 := line_any [106, 111, 98] [fu, ta] (some ⟨wB.heap.size, 0, none⟩) 2 2 rfl (by omega) HII.out.two (by simp) (wB.alloc (.cells #[.int .i64 fu, .int .i64 ta] 3)) (reads_new wB (iV [fu, ta]) 3) ((hE1.below hbB).below hbC)
    rw [hsB] at L1
    refine L1.mono ?_
    rintro e w2 ⟨rfl, hb2⟩
    have hbd2 : Below wB.heap.size wB w2 := hbC.trans (hb2.mono hbC.size)
    have hld2 := hbld.keep hbd2
    have hW2 : Below w1.heap.size w1 w2 := hbB.trans (hbd2.mono hbB.size)
    have hln : (numsT [fu, ta]).length ≤ 44 := by have := numsT_len [fu, ta] HII.out.two; simpa using this
    have HT1 := hide (show [106, 111, 98] ++ numsT [fu, ta] ++ [10] = headT fu ta from rfl)
    have hh1 : (headT fu ta).length ≤ 100 := by rw [← HT1.out]; simp only [List.length_append, List.length_cons, List.length_nil]; omega
    have W1 := write_any w1.heap.size w1.heap.size [] (headT fu ta) w2 hld2 (by simp; omega) hW2.size
    rw [HT1.out, List.nil_append] at *
    clear L1
    go_wp2_with (go_at_call 26; go_must (refine W1.mono ?_; rintro e w3 ⟨rfl, hld3, hb3, _⟩; refine Hid.out ?_))
    refine Lib.hid ?_
    have hW3 : Below w1.heap.size w1 w3 := hW2.trans hb3
    clear W1 hld2 hb2 hbd2 hW2 hbC hb3 P hbld hbB hsB
    obtain ⟨m, rfl⟩ : ∃ m : Nat, mn = (m : Int) := ⟨mn.toNat, by omega⟩
    have hmf : m < fs.length := by omega
    obtain ⟨b, off, rfl, hbl, hcl⟩ : ∃ b off, fa = some ⟨b, off, none⟩ ∧ b < w1.heap.size ∧ ∀ j, j < (frs fs cs).length → ∀ i v, (FR.enc (frs fs cs)[j]!)[i]? = some v → w1.cell? ⟨b, off + j * 4 + i, none⟩ = some v := by
      rcases hJ1.fns with ⟨_, h⟩ | h
      · have h9 : (frs fs cs).length = fs.length := by simp [frs, hJ.len]
        rw [h] at h9
        simp at h9
        omega
      · exact h
    have hrow : ∀ k (hk : k < fs.length), (frs fs cs)[k]! = Fun.row fs[k] (cs[k]'(by rw [hJ.len]; exact hk)) := fun k hk => by
      rw [getElem!_pos _ k (by simp [frs, hJ.len]; exact hk)]
      simp [frs]
    have hlf : (frs fs cs).length = fs.length := by simp [frs, hJ.len]
    have y0 := hcl m (by omega) 0 _ (by rw [hrow m hmf]; rfl)
    simp only [Nat.add_zero, Fun.row] at y0
    have hx0 := List.getElem?_eq_getElem hmf
    have hf20 := (HFN.out fs[m] (List.getElem_mem _)).1
    generalize fs[m] = f0 at y0 hx0 hf20
    have HCL := hide hcl
    have HROW := hide hrow
    have HT2 := hide (show (109 :: 97 :: 105 :: 110 :: 32 :: f0.name.data.toList) ++ numsT args ++ [10] = mainT (((fs[(m : Int).toNat]?).map fun f => f.name.data.toList).getD []) args by
      simp [mainT, hx0])
    have HX0 := hide hx0
    have hl0 : f0.name.data.toList.length ≤ 20 := by rw [← Lib.size_eq]; exact hf20
    have hna8 : (numsT args).length ≤ 176 := by
      have h1 := numsT_len args HII.out.args
      omega
    have hmt : ((109 :: 97 :: 105 :: 110 :: 32 :: f0.name.data.toList) ++ numsT args ++ [10]).length ≤ 300 := by simp only [List.length_append, List.length_cons, List.length_nil]; omega
    have L2 := fun (W : World) (hb : Below w1.heap.size w1 W) => line_any (109 :: 97 :: 105 :: 110 :: 32 :: f0.name.data.toList) args aa na ac HNA.out.symm (by have := HNA.out; omega) HII.out.args (by simp only [List.length_cons]; omega) W (hJ1.args.below hb) (hE1.below hb)
    have hs2 : (⟨#[109, 97, 105, 110, 32]⟩ ++ f0.name : ByteArray) = bs (109 :: 97 :: 105 :: 110 :: 32 :: f0.name.data.toList) := by
      have : 109 :: 97 :: 105 :: 110 :: 32 :: f0.name.data.toList = [109, 97, 105, 110, 32] ++ f0.name.data.toList := rfl
      rw [this, ← bs_append, bs_data]; rfl
    rw [HT2.out] at L2 hmt
    obtain ⟨mt, hmE⟩ : ∃ mt, mt = mainT (((fs[(m : Int).toNat]?).map fun f => f.name.data.toList).getD []) args := ⟨_, rfl⟩
    rw [← hmE] at L2 hmt
    have HME := hide hmE
    clear hmE
    have hq2 : ¬ (9223372036854775807 < 5 + f0.name.size) := by omega
    have hmi : (m : Int) < (nf : Int) := by have := HNF.out; omega
    have SO := hide (fun (W : World) (hb : Below w1.heap.size w1 W) => (⟨keep_cell k0 hb, keep_cell k1 hb, keep_cell k2 hb, keep_cell y0 hb⟩ : W.cell? ⟨w.heap.size, 0, none⟩ = some (.slice (some ⟨b, off, none⟩) nf fc) ∧ W.cell? ⟨w.heap.size, 1, none⟩ = some (.int .i64 (m : Int)) ∧ W.cell? ⟨w.heap.size, 2, none⟩ = some (.slice aa na ac) ∧ W.cell? ⟨b, off + m * 4, none⟩ = some (.string f0.name)))
    have hSw3 := SO.out w3 hW3
    clear hcl hrow hx0
    go_upto_region 5 with fail
    go_region_held3 (fun W => W.cell? ⟨w.heap.size, 0, none⟩ = some (.slice (some ⟨b, off, none⟩) nf fc) ∧ W.cell? ⟨w.heap.size, 1, none⟩ = some (.int .i64 (m : Int)) ∧ W.cell? ⟨w.heap.size, 2, none⟩ = some (.slice aa na ac) ∧ W.cell? ⟨b, off + m * 4, none⟩ = some (.string f0.name)) (first | exact SO.out _ hW3.drew | exact SO.out _ hW4 | exact SO.out _ hW5 | go_keep) (first | (go_at_call 27; refine (L2 _ hW3.drew).mono ?_; rintro e w4 ⟨rfl, hb4⟩; have hW4 : Below w1.heap.size w1 w4 := hW3.trans ((below_undrew hb4).mono hW3.size); have hld4 := hld3.keep (below_undrew hb4)) | (go_at_call 26; refine (write_any w1.heap.size w1.heap.size (headT fu ta) mt w4 hld4 (by omega) hW4.size).mono ?_; rintro e w5 ⟨rfl, hld5, hb5, _⟩; have hW5 : Below w1.heap.size w1 w5 := hW4.trans hb5))
    have n0 := keep_cell k0 hW5
    have hwn : ∀ f ∈ fs, f.name.size ≤ 1000 := fun f hf => by have := (HFN.out f hf).1; omega
    have HB0 := hide (show (headT fu ta ++ mt).length ≤ 400 by simp only [List.length_append]; omega)
    have HBASE := hide (show headT fu ta ++ mt = headT fu ta ++ mainT (((fs[(m : Int).toNat]?).map fun f => f.name.data.toList).getD []) args by rw [HME.out])
    generalize headT fu ta ++ mt = base at hld5 HB0 HBASE
    have HLD5 := hide hld5
    clear hld5 hld4 hld3 hb5 hb4 hW4 hSw3 L2 hs2 SO hW3 HT1 HT2 hmt hh1 hq2 hmi y0
    go_wp2
    go_loopw [33] (fun i wr => ∃ k : Nat, k ≤ nf ∧ i = .int .i64 (k : Nat) ∧ Hid (Below w1.heap.size w1 wr) ∧ Hid (Bld w1.heap.size w1.heap.size (base ++ (fs.take k).flatMap fun f => funcT f fs) wr) ∧ Hid ((base ++ (fs.take k).flatMap fun f => funcT f fs).length ≤ 400 + k * 400000)) (fun i _ => nf - (intOf i).toNat)
    case atStart => exact ⟨0, Nat.zero_le _, rfl, hW5, (by refine Lib.hid ?_; simpa using HLD5.out), (by refine Lib.hid ?_; simpa using HB0.out)⟩
    case round =>
      obtain ⟨k, hk, rfl, hbw, hbd, hbl⟩ := hrel
      by_cases hlt : k < nf
      · have hkf : k < fs.length := by have := HNF.out; omega
        have hrk := HROW.out k hkf
        have hlk : k < (frs fs cs).length := by omega
        have y0 := keep_cell (HCL.out k hlk 0 _ (by rw [hrk]; rfl)) hbw.out
        have y1 := keep_cell (HCL.out k hlk 1 _ (by rw [hrk]; rfl)) hbw.out
        have y2 := keep_cell (HCL.out k hlk 2 _ (by rw [hrk]; rfl)) hbw.out
        have y3 := keep_cell (HCL.out k hlk 3 _ (by rw [hrk]; rfl)) hbw.out
        obtain ⟨ca, cc, hcv, hcr⟩ := hJ1.codes k (by rw [hJ.len]; exact hkf) hkf
        simp only [Nat.add_zero, Fun.row] at y0 y1 y2 y3
        rw [hcv] at y3
        have hfm : fs[k] ∈ fs := List.getElem_mem _
        have hkx := List.getElem?_eq_getElem hkf
        generalize fs[k] = f at y0 y1 y2 y3 hcr hfm hkx
        obtain ⟨g20, g256, g16⟩ := HFN.out f hfm
        obtain ⟨gin, _, _, gcode⟩ := HII.out.funcs f hfm
        obtain ⟨cn, hcn⟩ : ∃ cn, cn = f.code.length := ⟨_, rfl⟩
        rw [← hcn] at y3 g256
        have HCN := hide hcn
        have HKX := hide hkx
        have HCR := hide hcr
        have G16 := hide g16
        have GC := hide gcode
        clear hcn hkx hcr hcv hrk g16 gcode
        have hybl := cell_some_lt y0
        have hlt' : (k : Int) < (nf : Int) := by omega
        have hl0 : f.name.data.toList.length ≤ 20 := by rw [← Lib.size_eq]; exact g20
        have hln2 : (numsT [f.args, f.locals]).length ≤ 44 := by have := numsT_len _ gin; simpa using this
        have hbF := alloc_below wr (.cells #[.string f.name, .int .i64 f.args, .int .i64 f.locals, .slice ca cn cc] 45)
        have hbG := hbF.trans ((alloc_below (wr.alloc (.cells #[.string f.name, .int .i64 f.args, .int .i64 f.locals, .slice ca cn cc] 45)) (.cells #[.int .i64 f.args, .int .i64 f.locals] 3)).mono hbF.size)
        have L3 := line_any (102 :: 117 :: 110 :: 99 :: 32 :: f.name.data.toList) [f.args, f.locals] (some ⟨wr.heap.size + 1, 0, none⟩) 2 2 rfl (by omega) gin (by simp only [List.length_cons]; omega) ((wr.alloc (.cells #[.string f.name, .int .i64 f.args, .int .i64 f.locals, .slice ca cn cc] 45)).alloc (.cells #[.int .i64 f.args, .int .i64 f.locals] 3)) (reads_next wr _ (iV [f.args, f.locals]) 3) ((hE1.below hbw.out).below hbG)
        have hs2 : (⟨#[102, 117, 110, 99, 32]⟩ ++ f.name : ByteArray) = bs (102 :: 117 :: 110 :: 99 :: 32 :: f.name.data.toList) := by
          have : 102 :: 117 :: 110 :: 99 :: 32 :: f.name.data.toList = [102, 117, 110, 99, 32] ++ f.name.data.toList := rfl
          rw [this, ← bs_append, bs_data]; rfl
        have hq2 : ¬ (9223372036854775807 < 5 + f.name.size) := by omega
        have hfT : ((102 :: 117 :: 110 :: 99 :: 32 :: f.name.data.toList) ++ numsT [f.args, f.locals] ++ [10]).length ≤ 100 := by simp only [List.length_append, List.length_cons, List.length_nil]; omega
        have HFT := hide (show base ++ (fs.take (k + 1)).flatMap (fun f => funcT f fs) = (base ++ (fs.take k).flatMap fun f => funcT f fs) ++ ((102 :: 117 :: 110 :: 99 :: 32 :: f.name.data.toList) ++ numsT [f.args, f.locals] ++ [10]) ++ codeT f.code fs by
          rw [List.take_add_one, HKX.out]
          simp [funcT])
        generalize (102 :: 117 :: 110 :: 99 :: 32 :: f.name.data.toList) ++ numsT [f.args, f.locals] ++ [10] = ft at L3 hfT HFT
        generalize (base ++ (fs.take k).flatMap fun f => funcT f fs) = acc at hbd hbl HFT
        have htb : w1.heap.size < wr.heap.size := by
          rcases hbd.out with h | h
          · exact h.lt
          · exact h.lt
        have hbox : ((wr.alloc (.cells #[.string f.name, .int .i64 f.args, .int .i64 f.locals, .slice ca cn cc] 45)).alloc (.cells #[.int .i64 f.args, .int .i64 f.locals] 3)).heap[wr.heap.size]? = some (.cells [.string f.name, .int .i64 f.args, .int .i64 f.locals, .slice ca cn cc].toArray 45 (0, 0)) := by
          rw [Go.heap_alloc_old _ _ (show wr.heap.size < _ by simp)]; exact heap_alloc_new wr _
        go_wp2_with (go_at_call 27; refine Hid.out ?_)
        refine Lib.hid ?_
        generalize (wr.alloc (.cells #[.string f.name, .int .i64 f.args, .int .i64 f.locals, .slice ca cn cc] 45)).alloc (.cells #[.int .i64 f.args, .int .i64 f.locals] 3) = wg at L3 hbG hbox ⊢
        refine L3.mono ?_
        rintro e w6 ⟨rfl, hb6⟩
        have hbd6 : Below wr.heap.size wr w6 := hbG.trans (hb6.mono hbG.size)
        have hld6 := hbd.out.keep hbd6
        have hbox6 : w6.heap[wr.heap.size]? = _ := (hb6.block _ (lt_row hbox)).trans hbox
        have hW6 : Below w1.heap.size w1 w6 := hbw.out.trans (hbd6.mono hbw.out.size)
        have hacc := hbl.out
        have W3 := write_any w1.heap.size w1.heap.size acc ft w6 hld6 (by omega) hW6.size
        clear L3 hs2 hbox hbF hbG
        go_wp2_with (go_at_call 26; go_must (refine W3.mono ?_; rintro e w7 ⟨rfl, hld7, hb7, hk7⟩; refine Hid.out ?_))
        refine Lib.hid ?_
        have hbox7 := kept_block hk7 hbox6 (by omega) (by decide)
        have c73 := cell_row (i := 3) hbox7 rfl
        have hW7 : Below w1.heap.size w1 w7 := hW6.trans hb7
        have HLD7 := hide hld7
        have HAF := hide (show (acc ++ ft).length ≤ 500 + k * 400000 by simp only [List.length_append]; omega)
        generalize acc ++ ft = acc2 at HLD7 HAF HFT
        clear W3 hld6 hld7 hbox6 hbox7 hk7 hb6 hb7 hbd6 hacc y0 y1 y2 y3
        go_wp2
        go_loopw [50] (fun i wq => ∃ kk : Nat, kk ≤ cn ∧ i = .int .i64 (kk : Nat) ∧ Hid (Below w1.heap.size w1 wq) ∧ Hid (Bld w1.heap.size w1.heap.size (acc2 ++ codeT (f.code.take kk) fs) wq) ∧ Hid ((acc2 ++ codeT (f.code.take kk) fs).length ≤ 500 + k * 400000 + kk * 1100)) (fun i _ => cn - (intOf i).toNat)
        case atStart => exact ⟨0, Nat.zero_le _, rfl, hW7, (by refine Lib.hid ?_; simpa [codeT] using HLD7.out), (by refine Lib.hid ?_; simpa [codeT] using HAF.out)⟩
        case round =>
          obtain ⟨kk, hkk, rfl, hbq, hbdq, hblq⟩ := hrel
          by_cases hlq : kk < cn
          · have hkc : kk < f.code.length := by have := HCN.out; omega
            obtain ⟨cb, co, rfl, u0, u1⟩ := code_at (HCR.out.below hbq.out) hkc
            have hxx := List.getElem?_eq_getElem hkc
            have hxm : f.code[kk] ∈ f.code := List.getElem_mem _
            generalize f.code[kk] = x at u0 u1 hxx hxm
            have hx16 := G16.out x hxm
            have hxin := GC.out x hxm
            have hul := cell_some_lt u0
            have q0 := keep_cell k0 hbq.out
            have q1 := keep_cell k1 hbq.out
            have q2 := keep_cell k2 hbq.out
            have q3 := keep_cell k3 hbq.out
            have q4 := keep_cell k4 hbq.out
            have hql := cell_some_lt q0
            have hlq' : (kk : Int) < (cn : Int) := by omega
            have hbI := alloc_below wr (.cells #[.int .i64 x.1, .int .i64 x.2] 42)
            have IL := HIL.out x.1 x.2 hxin hx16 hwn (wr.alloc (.cells #[.int .i64 x.1, .int .i64 x.2] 42)) ((hJ1.below hbq.out).below hbI) ((hE1.below hbq.out).below hbI)
            have hitl := insText_len x.1 x.2 fs hxin hwn
            have HCT := hide (show acc2 ++ codeT (f.code.take (kk + 1)) fs = (acc2 ++ codeT (f.code.take kk) fs) ++ insText x.1 x.2 fs by
              rw [List.take_add_one, hxx]
              simp [codeT])
            generalize insText x.1 x.2 fs = it at IL hitl HCT
            generalize acc2 ++ codeT (f.code.take kk) fs = acc3 at hbdq hblq HCT
            have hl3 := hblq.out
            clear hxx hxm hx16
            go_wp2_with (go_at_call 28; go_must (refine IL.mono ?_; rintro e w8 ⟨rfl, hb8⟩; refine Hid.out ?_))
            refine Lib.hid ?_
            have hbd8 : Below wr.heap.size wr w8 := hbI.trans (hb8.mono hbI.size)
            have hW8 : Below w1.heap.size w1 w8 := hbq.out.trans (hbd8.mono hbq.out.size)
            have W4 := write_any w1.heap.size w1.heap.size acc3 it w8 (hbdq.out.keep hbd8) (by omega) hW8.size
            clear IL
            go_wp2_with (go_at_call 26; go_must (refine W4.mono ?_; rintro e w9 ⟨rfl, hld9, hb9, _⟩; refine Hid.out ?_))
            refine Lib.hid ?_
            have HLD9 := hide hld9
            clear W4 hld9
            go_wp2
            go_roundw
            case rel => exact ⟨kk + 1, by omega, by go_num, hW8.trans hb9, (by refine Lib.hid ?_; rw [HCT.out]; exact HLD9.out), (by refine Lib.hid ?_; rw [HCT.out]; simp only [List.length_append]; omega)⟩
            case measure => simp [intOf]; omega
          · have hlq' : ¬ (kk : Int) < (cn : Int) := by omega
            have HCE := hide (show codeT (f.code.take kk) fs = codeT f.code fs by rw [List.take_of_length_le (by have := HCN.out; omega)])
            have hl4 := hblq.out
            go_wp2
            go_roundw
            case rel => exact ⟨k + 1, by omega, by go_num, hbq, (by refine Lib.hid ?_; rw [HFT.out, ← HCE.out]; exact hbdq.out), (by refine Lib.hid ?_; rw [HFT.out, ← HCE.out]; omega)⟩
            case measure => simp [intOf]; omega
      · have hlt' : ¬ (k : Int) < (nf : Int) := by omega
        have HEND := hide (show (base ++ (fs.take k).flatMap fun f => funcT f fs) ++ [101, 110, 100, 10] = r by
          rw [HO.out, List.take_of_length_le (by have := HNF.out; omega), HBASE.out]
          simp [printT])
        have hacc := hbl.out
        generalize (base ++ (fs.take k).flatMap fun f => funcT f fs) = acc at hbd hacc HEND
        have L5 := line_any [101, 110, 100] [] none 0 0 rfl (by omega) (fun x hx => by cases hx) (by simp) wr (.inl rfl) (hE1.below hbw.out)
        have e5 : ([101, 110, 100] ++ numsT [] ++ [10] : List UInt8) = [101, 110, 100, 10] := rfl
        rw [e5] at L5
        clear hbl e5
        go_wp2_with (go_at_call 27; go_must (refine L5.mono ?_; rintro e w6 ⟨rfl, hb6⟩; refine Hid.out ?_))
        refine Lib.hid ?_
        have hW6 : Below w1.heap.size w1 w6 := hbw.out.trans (hb6.mono hbw.out.size)
        have W6 := write_any w1.heap.size w1.heap.size acc [101, 110, 100, 10] w6 (hbd.out.keep hb6) (by have := HNF.out; simp; omega) hW6.size
        rw [HEND.out] at W6
        clear L5
        go_wp2_with (go_at_call 26; go_must (refine W6.mono ?_; rintro e w7 ⟨rfl, hld7, hb7, _⟩; refine Hid.out ?_))
        refine Lib.hid ?_
        have hW7 : Below w1.heap.size w1 w7 := hW6.trans hb7
        have S7 := text_any w1.heap.size w1.heap.size r w7 hld7 hW7.size
        clear W6
        go_wp2_with (go_at_call 29; go_must (refine S7.mono ?_; rintro e w8 ⟨rfl, hb8⟩))
        go_ret
        exact ⟨rfl, hbw1.trans ((hW7.trans hb8).mono hbw1.size)⟩
end Go.Proofs.YtfnloomcianbiaaGreatDoor
