/- AsmPrints' walk. -/
import Derived.Test.YtfnloomcianbiaaDoorPlainX
import Derived.Test.YtfnloomcianbiaaDoorRefR
import Derived.Test.YtfnloomcianbiaaDoorTripT
import Derived.Test.YtfnloomcianbiaaDoorBig
import Derived.Test.YtfnloomcianbiaaDoorAlive
namespace Go.Proofs.YtfnloomcianbiaaDoor
open Go.RowKit Go.ChangeShapes Go.WideShapes Go.ChangeAt Go.Deep

/-- A job's numbers, and its sizes as Go has them. -/
structure JobNum (fs : List Fun) (args : List Int) (fuel tasks : Int) : Prop where
  ints : In64 args
  two : In64 [fuel, tasks]
  nf : fs.length ≤ 9223372036854775807
  na : args.length ≤ 9223372036854775807
  funcs : ∀ f ∈ fs, In64 [f.args, f.locals] ∧ f.name.size ≤ 9223372036854775807 ∧ f.code.length ≤ 9223372036854775807 ∧ ∀ x ∈ f.code, In64 [x.2]

theorem JobNum.in {fs : List Fun} {args : List Int} {fuel tasks main : Int} (h : JobNum fs args fuel tasks) (hp : plainL fs main args.length = true) : JobIn fs args fuel tasks where
  args := h.ints
  two := h.two
  funcs := fun f hf => by
    obtain ⟨_, _, _, h4⟩ := plain_parts hp
    obtain ⟨h5, h6, _⟩ := h4 f hf
    obtain ⟨h7, _, _, h8⟩ := h.funcs f hf
    exact ⟨h7, by omega, by omega, h8⟩
theorem JobNum.sizes {fs : List Fun} {args : List Int} {fuel tasks : Int} (h : JobNum fs args fuel tasks) : ∀ f ∈ fs, f.code.length ≤ 9223372036854775807 ∧ f.name.size ≤ 9223372036854775807 := fun f hf => ⟨(h.funcs f hf).2.2.1, (h.funcs f hf).2.1⟩

set_option maxRecDepth 100000 in
set_option maxHeartbeats 1000000 in
theorem printBig_any (j : JV) (cs : List Value) (fs : List Fun) (args : List Int) (w : World) (hJ : JobR w j cs fs args) (hN : JobNum fs args j.fuel j.tasks) (hE : Env w) :
    Calls Tryd.prog 11 #[.agg j.cells] w fun e w' => e = .returned (.string (bs (printL fs j.main args j.fuel j.tasks))) ∧ Below w.heap.size w w' := by
  cases hq : plainL fs j.main args.length with
  | true =>
    obtain ⟨h1, h2, _⟩ := plain_parts hq
    exact print_any j cs fs args w hJ (hN.in hq) hE (by omega) (by omega)
  | false =>
    have hbA := alloc_below w (.cells j.cells 25)
    have hjA : (w.alloc (.cells j.cells 25)).heap[w.heap.size]? = some (.cells j.cells 25 (0, 0)) := heap_alloc_new w _
    have PL := plainBig_any j cs fs args (w.alloc (.cells j.cells 25)) (hJ.below hbA) (hE.below hbA) hN.nf hN.na hN.sizes
    rw [hq] at PL
    have HR := hide (show printL fs j.main args j.fuel j.tasks = [] by unfold printL; rw [hq]; rfl)
    obtain ⟨fa, nf, fc, mn, aa, na, ac, fu, ta⟩ := j
    simp only [JV.cells] at *
    generalize printL fs mn args fu ta = RES at HR ⊢
    have j0 := cell_row (i := 0) hjA rfl
    have j1 := cell_row (i := 1) hjA rfl
    have j2 := cell_row (i := 2) hjA rfl
    have j3 := cell_row (i := 3) hjA rfl
    have j4 := cell_row (i := 4) hjA rfl
    go_enter Tryd.func11, Tryd.ntmps11
    go_wp2_with (go_at_call 12; go_must (refine PL.mono ?_; rintro e w1 ⟨rfl, hb1⟩))
    go_ret
    exact ⟨by rw [HR.out]; rfl, hbA.trans (hb1.mono hbA.size)⟩

set_option maxRecDepth 100000 in
set_option maxHeartbeats 1000000 in
theorem refPrintBig_any (j : JV) (cs : List Value) (fs : List Fun) (args : List Int) (w : World) (hJ : JobR w j cs fs args) (hN : JobNum fs args j.fuel j.tasks) :
    Calls Tryd.prog 13 #[.agg j.cells] w fun e w' => e = .returned (.string (bs (printL fs j.main args j.fuel j.tasks))) ∧ Below w.heap.size w w' := by
  cases hq : plainL fs j.main args.length with
  | true =>
    obtain ⟨h1, h2, _⟩ := plain_parts hq
    exact refPrint_any j cs fs args w hJ (hN.in hq) (by omega) (by omega)
  | false =>
    have hbA := alloc_below w (.cells j.cells 25)
    have hjA : (w.alloc (.cells j.cells 25)).heap[w.heap.size]? = some (.cells j.cells 25 (0, 0)) := heap_alloc_new w _
    have PL := refPlain_any j cs fs args (w.alloc (.cells j.cells 25)) (hJ.below hbA) hN.nf hN.na hN.sizes
    rw [hq] at PL
    have HR := hide (show printL fs j.main args j.fuel j.tasks = [] by unfold printL; rw [hq]; rfl)
    obtain ⟨fa, nf, fc, mn, aa, na, ac, fu, ta⟩ := j
    simp only [JV.cells] at *
    generalize printL fs mn args fu ta = RES at HR ⊢
    have j0 := cell_row (i := 0) hjA rfl
    have j1 := cell_row (i := 1) hjA rfl
    have j2 := cell_row (i := 2) hjA rfl
    have j3 := cell_row (i := 3) hjA rfl
    have j4 := cell_row (i := 4) hjA rfl
    go_enter Tryd.func13, Tryd.ntmps13
    go_wp2_with (go_at_call 10; go_must (refine PL.mono ?_; rintro e w1 ⟨rfl, hb1⟩))
    go_ret
    exact ⟨by rw [HR.out]; rfl, hbA.trans (hb1.mono hbA.size)⟩

/-- How long a text is. -/
theorem insText_35 (x : Int × Int) (fs : List Fun) (hx : In64 [x.2]) (hn : ∀ f ∈ fs, f.name.size ≤ 20) : (insText x.1 x.2 fs).length ≤ 35 := by
  have h1 := word_len x.1
  have h2 := Lib.size_eq (kindOf x.1).word
  have h3 : (behindT x.1 x.2 fs).length ≤ 22 := by
    unfold behindT
    split
    · cases hf : fs[x.2.toNat]? with
      | none => simp
      | some f =>
        have := hn f (List.mem_of_getElem? hf)
        have h4 := Lib.size_eq f.name
        simp
        omega
    · split
      · have := itoa_21 hx
        simp
        omega
      · simp
  unfold insText
  simp only [List.length_append, List.length_cons, List.length_nil]
  omega
theorem codeT_35 (fs : List Fun) (hn : ∀ f ∈ fs, f.name.size ≤ 20) : ∀ (c : List (Int × Int)), (∀ x ∈ c, In64 [x.2]) → (codeT c fs).length ≤ 35 * c.length
  | [], _ => by simp [codeT]
  | x :: c, h => by
    have h1 := insText_35 x fs (h x (by simp)) hn
    have h2 := codeT_35 fs hn c (fun y hy => h y (by simp [hy]))
    have e : codeT (x :: c) fs = insText x.1 x.2 fs ++ codeT c fs := by simp [codeT]
    rw [e, List.length_append, List.length_cons]
    omega
theorem funcs_35 (gs : List Fun) (hn : ∀ f ∈ gs, f.name.size ≤ 20) : ∀ (fs : List Fun), (∀ f ∈ fs, In64 [f.args, f.locals] ∧ f.name.size ≤ 20 ∧ ∀ x ∈ f.code, In64 [x.2]) → (fs.flatMap fun f => funcT f gs).length ≤ 70 * fs.length + 35 * bigN fs
  | [], _ => by simp
  | f :: fs, h => by
    obtain ⟨h1, h2, h3⟩ := h f (by simp)
    have h4 := codeT_35 gs hn f.code h3
    have h5 := funcs_35 gs hn fs (fun g hg => h g (by simp [hg]))
    have h6 := numsT_len _ h1
    have h7 := Lib.size_eq f.name
    have e : bigN (f :: fs) = bigOf f + bigN fs := by simp [bigN]
    rw [List.flatMap_cons, List.length_append, e]
    simp only [funcT, bigOf, List.length_append, List.length_cons, List.length_nil] at *
    omega
theorem text_size {fs : List Fun} {args : List Int} {fuel tasks main : Int} (h : JobIn fs args fuel tasks) (hp : plainL fs main args.length = true) (hb : bigN fs ≤ 2000) : (bs (printT fs main args fuel tasks)).size ≤ 131072 := by
  obtain ⟨p1, p2, p3, p4⟩ := plain_parts hp
  have h1 := funcs_35 fs (fun f hf => (p4 f hf).1) fs (fun f hf => ⟨(h.funcs f hf).1, (p4 f hf).1, (h.funcs f hf).2.2.2⟩)
  have h2 := numsT_len _ h.two
  have h3 := numsT_len _ h.args
  have h4 : (((fs[main.toNat]?).map fun f => f.name.data.toList).getD []).length ≤ 20 := by
    cases hf : fs[main.toNat]? with
    | none => simp
    | some f =>
      have := (p4 f (List.mem_of_getElem? hf)).1
      have h4 := Lib.size_eq f.name
      simp
      omega
  rw [bs_size]
  simp only [printT, headT, mainT, List.length_append, List.length_cons, List.length_nil] at *
  omega
theorem modest_of {fs : List Fun} {main : Int} {na : Nat} (hp : plainL fs main na = true) : Modest fs := fun f hf => by
  obtain ⟨_, _, _, h4⟩ := plain_parts hp
  obtain ⟨h5, h6, _⟩ := h4 f hf
  omega

set_option maxRecDepth 100000 in
set_option maxHeartbeats 2000000 in
theorem prints_any (j : JV) (cs : List Value) (fs : List Fun) (args : List Int) (w : World) (hJ : JobR w j cs fs args) (hN : JobNum fs args j.fuel j.tasks) (hE : Env w) :
    Calls Tryd.prog 3 #[.agg j.cells] w fun e w' => e = .returned (.bool true) ∧ Below w.heap.size w w' := by
  have hbA := alloc_below w (.cells j.cells 25)
  have hjA : (w.alloc (.cells j.cells 25)).heap[w.heap.size]? = some (.cells j.cells 25 (0, 0)) := heap_alloc_new w _
  have AL := alive_any (w.alloc (.cells j.cells 25)) (hE.below hbA)
  have BG := fun (W : World) (hb : Below w.heap.size w W) => big_any j cs fs args W (hJ.below hb) hN.nf hN.na hN.sizes
  have RP := fun (W : World) (hb : Below w.heap.size w W) => refPlain_any j cs fs args W (hJ.below hb) hN.nf hN.na hN.sizes
  have AP := fun (W : World) (hb : Below w.heap.size w W) => plainBig_any j cs fs args W (hJ.below hb) (hE.below hb) hN.nf hN.na hN.sizes
  have PR := fun (W : World) (hb : Below w.heap.size w W) => printBig_any j cs fs args W (hJ.below hb) hN (hE.below hb)
  have RR := fun (W : World) (hb : Below w.heap.size w W) => refPrintBig_any j cs fs args W (hJ.below hb) hN
  have HTX := hide (show printL fs j.main args j.fuel j.tasks = if plainL fs j.main args.length = true then printT fs j.main args j.fuel j.tasks else [] from rfl)
  have HTR := hide (fun (h : plainL fs j.main args.length = true) => trip fs j.main args j.fuel j.tasks h (hN.in h))
  have HSZ := hide (fun (h : plainL fs j.main args.length = true) (hb : bigN fs ≤ 2000) => text_size (hN.in h) h hb)
  have HMD := hide (fun (h : plainL fs j.main args.length = true) => modest_of h)
  have HPP := hide (fun (h : plainL fs j.main args.length = true) => plain_parts h)
  have HJ0 := hide hJ
  obtain ⟨fa, nf, fc, mn, aa, na, ac, fu, ta⟩ := j
  simp only [JV.cells] at *
  have j0 := cell_row (i := 0) hjA rfl
  have j1 := cell_row (i := 1) hjA rfl
  have j2 := cell_row (i := 2) hjA rfl
  have j3 := cell_row (i := 3) hjA rfl
  have j4 := cell_row (i := 4) hjA rfl
  clear hJ hN
  go_enter Tryd.func3, Tryd.ntmps3
  go_wp2_with (go_at_call 8; go_must (refine AL.mono ?_; rintro e w1 ⟨rfl, hb1⟩; refine Hid.out ?_))
  refine Lib.hid ?_
  have hj1 := (hb1.block _ (lt_row hjA)).trans hjA
  have hbw1 := hbA.trans (hb1.mono hbA.size)
  have k0 := cell_row (i := 0) hj1 rfl
  have k1 := cell_row (i := 1) hj1 rfl
  have k2 := cell_row (i := 2) hj1 rfl
  have k3 := cell_row (i := 3) hj1 rfl
  have k4 := cell_row (i := 4) hj1 rfl
  have hkl := lt_row hj1
  have BG1 := BG w1 hbw1
  clear AL j0 j1 j2 j3 j4 hjA hbA BG
  go_wp2_with (go_at_call 9; go_must (refine BG1.mono ?_; rintro e w2 ⟨bg, rfl, hb2, hbg⟩; refine Hid.out ?_))
  refine Lib.hid ?_
  clear BG1
  have hj2 := (hb2.block _ (lt_row hj1)).trans hj1
  have hbw2 := hbw1.trans (hb2.mono hbw1.size)
  cases bg with
  | true =>
    go_wp2
    go_ret
    exact ⟨rfl, hbw2⟩
  | false =>
    have l0 := cell_row (i := 0) hj2 rfl
    have l1 := cell_row (i := 1) hj2 rfl
    have l2 := cell_row (i := 2) hj2 rfl
    have l3 := cell_row (i := 3) hj2 rfl
    have l4 := cell_row (i := 4) hj2 rfl
    have hll := lt_row hj2
    have RP2 := RP w2 hbw2
    clear RP k0 k1 k2 k3 k4 hkl hj1
    have HBG := hide (hbg.out rfl)
    generalize plainL fs mn args.length = pl at *
    generalize hpr : printL fs mn args fu ta = pr at *
    go_wp2_with (go_at_call 10; go_must (refine RP2.mono ?_; rintro e w3 ⟨rfl, hb3⟩; refine Hid.out ?_))
    refine Lib.hid ?_
    clear RP2
    have hj3 := (hb3.block _ (lt_row hj2)).trans hj2
    have hbw3 := hbw2.trans (hb3.mono hbw2.size)
    have m0 := cell_row (i := 0) hj3 rfl
    have m1 := cell_row (i := 1) hj3 rfl
    have m2 := cell_row (i := 2) hj3 rfl
    have m3 := cell_row (i := 3) hj3 rfl
    have m4 := cell_row (i := 4) hj3 rfl
    have hml := lt_row hj3
    have PR3 := PR w3 hbw3
    clear PR l0 l1 l2 l3 l4 hll hj2
    go_wp2_with (go_at_call 11; go_must (refine PR3.mono ?_; rintro e w4 ⟨rfl, hb4⟩; refine Hid.out ?_))
    refine Lib.hid ?_
    clear PR3
    have hj4 := (hb4.block _ (lt_row hj3)).trans hj3
    have hbw4 := hbw3.trans (hb4.mono hbw3.size)
    have n0 := cell_row (i := 0) hj4 rfl
    have n1 := cell_row (i := 1) hj4 rfl
    have n2 := cell_row (i := 2) hj4 rfl
    have n3 := cell_row (i := 3) hj4 rfl
    have n4 := cell_row (i := 4) hj4 rfl
    have hnl := lt_row hj4
    have AP4 := AP w4 hbw4
    clear AP m0 m1 m2 m3 m4 hml hj3
    go_wp2_with (go_at_call 12; go_must (refine AP4.mono ?_; rintro e w5 ⟨rfl, hb5⟩; refine Hid.out ?_))
    refine Lib.hid ?_
    clear AP4
    have hj5 := (hb5.block _ (lt_row hj4)).trans hj4
    have hbw5 := hbw4.trans (hb5.mono hbw4.size)
    have o0 := cell_row (i := 0) hj5 rfl
    have o1 := cell_row (i := 1) hj5 rfl
    have o2 := cell_row (i := 2) hj5 rfl
    have o3 := cell_row (i := 3) hj5 rfl
    have o4 := cell_row (i := 4) hj5 rfl
    have hol := lt_row hj5
    have RR5 := RR w5 hbw5
    clear RR n0 n1 n2 n3 n4 hnl hj4
    cases pl with
    | false =>
      have HPR := hide (show pr = [] by rw [HTX.out]; rfl)
      have hemp : (bs pr).toList.isEmpty = true := by rw [HPR.out]; kernel_rfl
      clear hpr HTX HTR HSZ HMD HPP
      go_wp2_with (go_at_call 13; go_must (refine RR5.mono ?_; rintro e w6 ⟨rfl, hb6⟩))
      go_ret
      exact ⟨rfl, hbw5.trans (hb6.mono hbw5.size)⟩
    | true =>
      obtain ⟨ln, us, htr⟩ := HTR.out rfl
      have hbig := HBG.out (HMD.out rfl)
      have hsz := HSZ.out rfl hbig
      have HPR := hide (show pr = printT fs mn args fu ta by rw [HTX.out]; rfl)
      rw [← HPR.out] at htr hsz
      have RD := fun (W : World) (hE : Env W) => read_job hsz htr W hE
      obtain ⟨pp1, pp2, pp3, pp4⟩ := HPP.out rfl
      have HP4 := hide pp4
      clear hpr HTX HTR HSZ HMD HPP HPR hsz htr pp4 HBG hbg hbig pp3
      have hE' := fun (W : World) (hb : Below w.heap.size w W) => hE.below hb
      go_wp2_with (go_at_call 13; go_must (refine RR5.mono ?_; rintro e w6 ⟨rfl, hb6⟩; refine Hid.out ?_))
      refine Lib.hid ?_
      have hj6 := (hb6.block _ (lt_row hj5)).trans hj5
      have hbw6 := hbw5.trans (hb6.mono hbw5.size)
      have RD6 := RD w6 (hE' w6 hbw6)
      clear RR5 RD o0 o1 o2 o3 o4 hol hj5

      go_wp2_with (go_at_call 14; go_must (refine RD6.mono ?_; rintro e w7 ⟨fa', fc', aa', ac', cs', rfl, hj7, hb7⟩; refine Hid.out ?_))
      refine Lib.hid ?_
      have hbw7 := hbw6.trans (hb7.mono hbw6.size)
      have hjr7 := (hb7.block _ (lt_row hj6)).trans hj6
      have o0 := cell_row (i := 0) hjr7 rfl
      have o1 := cell_row (i := 1) hjr7 rfl
      have o2 := cell_row (i := 2) hjr7 rfl
      have o3 := cell_row (i := 3) hjr7 rfl
      have o4 := cell_row (i := 4) hjr7 rfl
      have hol := lt_row hjr7
      have hjJ := HJ0.out.below hbw7
      have SJ := fun (W : World) (hb : Below w7.heap.size w7 W) => sameJob_any ⟨fa, nf, fc, mn, aa, na, ac, fu, ta⟩ ⟨fa', fs.length, fc', mn, aa', args.length, ac', fu, ta⟩ cs cs' fs args W (hjJ.below hb) (hj7.below hb) rfl rfl rfl (by omega) (by omega) (fun f hf => by have := (HP4.out f hf).2.1; omega)
      simp only [JV.cells] at SJ
      have hbz := alloc_below w7 (.cells #[.slice fa' fs.length fc', .int .i64 mn, .slice aa' args.length ac', .int .i64 fu, .int .i64 ta] 25)
      clear RD6 hjr7 hj6
      go_wp2_with (first
        | (go_at_call 15; go_must (refine (num_any _ _).mono ?_; rintro e wz ⟨rfl, hwz⟩; replace hwz := hwz.symm; subst hwz))
        | (go_at_call 16; go_must (refine (SJ _ hbz).mono ?_; rintro e w8 ⟨rfl, hb8⟩)))
      go_ret
      exact ⟨rfl, (hbw7.trans (hbz.mono hbw7.size)).trans (hb8.mono (Nat.le_trans hbw7.size hbz.size))⟩
end Go.Proofs.YtfnloomcianbiaaDoor
