/- AsmPrints' walk. -/
import Derived.Test.YtfnloomcianbiaaGreatDoorPlainX
import Derived.Test.YtfnloomcianbiaaGreatDoorRefR
import Derived.Test.YtfnloomcianbiaaGreatDoorTripT
import Derived.Test.YtfnloomcianbiaaGreatDoorBig
import Derived.Test.YtfnloomcianbiaaGreatDoorAlive
namespace Go.Proofs.YtfnloomcianbiaaGreatDoor
open Go.RowKit Go.ChangeShapes Go.WideShapes Go.ChangeAt Go.Deep

/-- A job's numbers, and its sizes as Go has them. -/
structure JobNum (fs : List Fun) (args : List Int) (fuel tasks : Int) : Prop where
  ints : In64 args
  two : In64 [fuel, tasks]
  nf : fs.length ≤ 9223372036854775807
  na : args.length ≤ 9223372036854775807
  funcs : ∀ f ∈ fs, In64 [f.args, f.locals] ∧ f.name.size ≤ 9223372036854775807 ∧ f.code.length ≤ 9223372036854775807 ∧ ∀ x ∈ f.code, In64 [x.2]

theorem JobNum.in {fs : List Fun} {args : List Int} {fuel tasks main : Int} (h : JobNum fs args fuel tasks) (hp : plainL fs main args.length = true) : JobIn fs args fuel tasks where
  args := h.ints
  two := h.two
  funcs := fun f hf => by
    obtain ⟨_, _, _, h4⟩ := plain_parts hp
    obtain ⟨h5, h6, _⟩ := h4 f hf
    obtain ⟨h7, _, _, h8⟩ := h.funcs f hf
    exact ⟨h7, by omega, by omega, h8⟩
theorem JobNum.sizes {fs : List Fun} {args : List Int} {fuel tasks : Int} (h : JobNum fs args fuel tasks) : ∀ f ∈ fs, f.code.length ≤ 9223372036854775807 ∧ f.name.size ≤ 9223372036854775807 := fun f hf => ⟨(h.funcs f hf).2.2.1, (h.funcs f hf).2.1⟩

set_option maxRecDepth 100000 in
set_option maxHeartbeats 1000000 in
theorem printBig_any (j : JV) (cs : List Value) (fs : List Fun) (args : List Int) (w : World) (hJ : JobR w j cs fs args) (hN : JobNum fs args j.fuel j.tasks) (hE : Env w) :
    Calls Tryz.prog 14 #[.agg j.cells] w fun e w' => e = .returned (.string (bs (printL fs j.main args j.fuel j.tasks))) ∧ Below w.heap.size w w' := by
  cases hq : plainL fs j.main args.length with
  | true =>
    obtain ⟨h1, h2, _⟩ := plain_parts hq
    exact print_any j cs fs args w hJ (hN.in hq) hE (by omega) (by omega)
  | false =>
    have hbA := alloc_below w (.cells j.cells 25)
    have hjA : (w.alloc (.cells j.cells 25)).heap[w.heap.size]? = some (.cells j.cells 25 (0, 0)) := heap_alloc_new w _
    have PL := plainBig_any j cs fs args (w.alloc (.cells j.cells 25)) (hJ.below hbA) (hE.below hbA) hN.nf hN.na hN.sizes
    rw [hq] at PL
    have HR := hide (show printL fs j.main args j.fuel j.tasks = [] by unfold printL; rw [hq]; rfl)
    obtain ⟨fa, nf, fc, mn, aa, na, ac, fu, ta⟩ := j
    simp only [JV.cells] at *
    generalize printL fs mn args fu ta = RES at HR ⊢
    have j0 := cell_row (i := 0) hjA rfl
    have j1 := cell_row (i := 1) hjA rfl
    have j2 := cell_row (i := 2) hjA rfl
    have j3 := cell_row (i := 3) hjA rfl
    have j4 := cell_row (i := 4) hjA rfl
    go_enter Tryz.func14, Tryz.ntmps14
    go_wp2_with (go_at_call 25; go_must (refine PL.mono ?_; rintro e w1 ⟨rfl, hb1⟩))
    go_ret
    exact ⟨by rw [HR.out]; rfl, hbA.trans (hb1.mono hbA.size)⟩

set_option maxRecDepth 100000 in
set_option maxHeartbeats 1000000 in
theorem refPrintBig_any (j : JV) (cs : List Value) (fs : List Fun) (args : List Int) (w : World) (hJ : JobR w j cs fs args) (hN : JobNum fs args j.fuel j.tasks) :
    Calls Tryz.prog 8 #[.agg j.cells] w fun e w' => e = .returned (.string (bs (printL fs j.main args j.fuel j.tasks))) ∧ Below w.heap.size w w' := by
  cases hq : plainL fs j.main args.length with
  | true =>
    obtain ⟨h1, h2, _⟩ := plain_parts hq
    exact refPrint_any j cs fs args w hJ (hN.in hq) (by omega) (by omega)
  | false =>
    have hbA := alloc_below w (.cells j.cells 25)
    have hjA : (w.alloc (.cells j.cells 25)).heap[w.heap.size]? = some (.cells j.cells 25 (0, 0)) := heap_alloc_new w _
    have PL := refPlain_any j cs fs args (w.alloc (.cells j.cells 25)) (hJ.below hbA) hN.nf hN.na hN.sizes
    rw [hq] at PL
    have HR := hide (show printL fs j.main args j.fuel j.tasks = [] by unfold printL; rw [hq]; rfl)
    obtain ⟨fa, nf, fc, mn, aa, na, ac, fu, ta⟩ := j
    simp only [JV.cells] at *
    generalize printL fs mn args fu ta = RES at HR ⊢
    have j0 := cell_row (i := 0) hjA rfl
    have j1 := cell_row (i := 1) hjA rfl
    have j2 := cell_row (i := 2) hjA rfl
    have j3 := cell_row (i := 3) hjA rfl
    have j4 := cell_row (i := 4) hjA rfl
    go_enter Tryz.func8, Tryz.ntmps8
    go_wp2_with (go_at_call 6; go_must (refine PL.mono ?_; rintro e w1 ⟨rfl, hb1⟩))
    go_ret
    exact ⟨by rw [HR.out]; rfl, hbA.trans (hb1.mono hbA.size)⟩

/-- How long a text is. -/
theorem insText_35 (x : Int × Int) (fs : List Fun) (hx : In64 [x.2]) (hn : ∀ f ∈ fs, f.name.size ≤ 20) : (insText x.1 x.2 fs).length ≤ 35 := by
  have h1 := word_len x.1
  have h2 := Lib.size_eq (kindOf x.1).word
  have h3 : (behindT x.1 x.2 fs).length ≤ 22 := by
    unfold behindT
    split
    · cases hf : fs[x.2.toNat]? with
      | none => simp
      | some f =>
        have := hn f (List.mem_of_getElem? hf)
        have h4 := Lib.size_eq f.name
        simp
        omega
    · split
      · have := itoa_21 hx
        simp
        omega
      · simp
  unfold insText
  simp only [List.length_append, List.length_cons, List.length_nil]
  omega
theorem codeT_35 (fs : List Fun) (hn : ∀ f ∈ fs, f.name.size ≤ 20) : ∀ (c : List (Int × Int)), (∀ x ∈ c, In64 [x.2]) → (codeT c fs).length ≤ 35 * c.length
  | [], _ => by simp [codeT]
  | x :: c, h => by
    have h1 := insText_35 x fs (h x (by simp)) hn
    have h2 := codeT_35 fs hn c (fun y hy => h y (by simp [hy]))
    have e : codeT (x :: c) fs = insText x.1 x.2 fs ++ codeT c fs := by simp [codeT]
    rw [e, List.length_append, List.length_cons]
    omega
theorem funcs_35 (gs : List Fun) (hn : ∀ f ∈ gs, f.name.size ≤ 20) : ∀ (fs : List Fun), (∀ f ∈ fs, In64 [f.args, f.locals] ∧ f.name.size ≤ 20 ∧ ∀ x ∈ f.code, In64 [x.2]) → (fs.flatMap fun f => funcT f gs).length ≤ 70 * fs.length + 35 * bigN fs
  | [], _ => by simp
  | f :: fs, h => by
    obtain ⟨h1, h2, h3⟩ := h f (by simp)
    have h4 := codeT_35 gs hn f.code h3
    have h5 := funcs_35 gs hn fs (fun g hg => h g (by simp [hg]))
    have h6 := numsT_len _ h1
    have h7 := Lib.size_eq f.name
    have e : bigN (f :: fs) = bigOf f + bigN fs := by simp [bigN]
    rw [List.flatMap_cons, List.length_append, e]
    simp only [funcT, bigOf, List.length_append, List.length_cons, List.length_nil] at *
    omega
theorem text_size {fs : List Fun} {args : List Int} {fuel tasks main : Int} (h : JobIn fs args fuel tasks) (hp : plainL fs main args.length = true) (hb : bigN fs ≤ 2000) : (bs (printT fs main args fuel tasks)).size ≤ 131072 := by
  obtain ⟨p1, p2, p3, p4⟩ := plain_parts hp
  have h1 := funcs_35 fs (fun f hf => (p4 f hf).1) fs (fun f hf => ⟨(h.funcs f hf).1, (p4 f hf).1, (h.funcs f hf).2.2.2⟩)
  have h2 := numsT_len _ h.two
  have h3 := numsT_len _ h.args
  have h4 : (((fs[main.toNat]?).map fun f => f.name.data.toList).getD []).length ≤ 20 := by
    cases hf : fs[main.toNat]? with
    | none => simp
    | some f =>
      have := (p4 f (List.mem_of_getElem? hf)).1
      have h4 := Lib.size_eq f.name
      simp
      omega
  rw [bs_size]
  simp only [printT, headT, mainT, List.length_append, List.length_cons, List.length_nil] at *
  omega
theorem modest_of {fs : List Fun} {main : Int} {na : Nat} (hp : plainL fs main na = true) : Modest fs := fun f hf => by
  obtain ⟨_, _, _, h4⟩ := plain_parts hp
  obtain ⟨h5, h6, _⟩ := h4 f hf
  omega

end Go.Proofs.YtfnloomcianbiaaGreatDoor
