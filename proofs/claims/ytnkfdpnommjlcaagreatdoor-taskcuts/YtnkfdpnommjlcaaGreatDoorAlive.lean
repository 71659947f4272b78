/- One, num, Depths, alive. -/
import Derived.Test.YtnkfdpnommjlcaaGreatDoorCatch
import Derived.Test.YtnkfdpnommjlcaaGreatDoorFuncW
namespace Go.Proofs.YtnkfdpnommjlcaaGreatDoor
open Go.RowKit Go.ChangeShapes Go.WideShapes Go.ChangeAt Go.Deep

/-- The first function that is wrong, from k on. -/
def checkFrom (fs : List Fun) : Nat → List Fun → Int × Int × Int
  | _, [] => (0, 0, 0)
  | k, f :: r => if (funcErr fs k f).2 = 0 then checkFrom fs (k + 1) r else ((k : Int), (funcErr fs k f).1, (funcErr fs k f).2)
/-- The first thing that is wrong with a job. -/
def checkL (fs : List Fun) (main : Int) (na : Nat) (fuel tasks : Int) : Int × Int × Int :=
  if jobErr fs main na fuel tasks = 0 then checkFrom fs 0 fs else (0, 0, jobErr fs main na fuel tasks)

theorem checkFrom_ok {fs : List Fun} : ∀ (l : List Fun) (k : Nat), (∀ j f, l[j]? = some f → (funcErr fs (k + j) f).2 = 0) → checkFrom fs k l = (0, 0, 0)
  | [], _, _ => rfl
  | f :: r, k, h => by
    rw [checkFrom, if_pos (by simpa using h 0 f rfl)]
    exact checkFrom_ok r (k + 1) (fun j g hj => by have := h (j + 1) g (by simpa using hj); rwa [show k + 1 + j = k + (j + 1) by omega])
theorem checkFrom_at {fs : List Fun} : ∀ (l : List Fun) (k j : Nat) (f : Fun), l[j]? = some f → (∀ i g, i < j → l[i]? = some g → (funcErr fs (k + i) g).2 = 0) → (funcErr fs (k + j) f).2 ≠ 0 → checkFrom fs k l = (((k + j : Nat) : Int), (funcErr fs (k + j) f).1, (funcErr fs (k + j) f).2)
  | [], _, _, _, h, _, _ => by simp at h
  | g :: r, k, 0, f, h, _, hx => by
    simp at h
    subst h
    rw [checkFrom, if_neg (by simpa using hx)]; rfl
  | g :: r, k, j + 1, f, h, hh, hx => by
    have h1 := hh 0 g (by omega) rfl
    rw [checkFrom, if_pos (by simpa using h1)]
    have := checkFrom_at r (k + 1) j f (by simpa using h) (fun i q hi hq => by have := hh (i + 1) q (by omega) (by simpa using hq); rwa [show k + 1 + i = k + (i + 1) by omega]) (by rwa [show k + 1 + j = k + (j + 1) by omega])
    rw [this, show k + 1 + j = k + (j + 1) by omega]

/-- The four boxes of Check. -/
structure Four (w : World) (b : Nat) (jc : List Value) : Prop where
  job : w.heap[b]? = some (.cells jc.toArray 25 (0, 0))
  f : Box1 w (b + 1) 0 3
  i : Box1 w (b + 1 + 1) 0 3
  e : Box1 w (b + 1 + 1 + 1) 0 30
theorem Four.below {w w' : World} {b : Nat} {jc : List Value} (h : Four w b jc) (hb : Below w.heap.size w w') : Four w' b jc := ⟨heap_row h.job hb, heap_row h.f hb, heap_row h.i hb, heap_row h.e hb⟩
theorem four_new (w : World) (jc : Array Value) : Four ((((w.alloc (.cells jc 25)).alloc (.cells #[.int .i64 0] 3)).alloc (.cells #[.int .i64 0] 3)).alloc (.cells #[.int .i64 0] 30)) w.heap.size jc.toList ∧ Below w.heap.size w ((((w.alloc (.cells jc 25)).alloc (.cells #[.int .i64 0] 3)).alloc (.cells #[.int .i64 0] 3)).alloc (.cells #[.int .i64 0] 30)) := by
  have k1 : (w.alloc (.cells jc 25)).heap.size = w.heap.size + 1 := by simp
  have k2 : ((w.alloc (.cells jc 25)).alloc (.cells #[.int .i64 0] 3)).heap.size = w.heap.size + 1 + 1 := by simp
  have k3 : (((w.alloc (.cells jc 25)).alloc (.cells #[.int .i64 0] 3)).alloc (.cells #[.int .i64 0] 3)).heap.size = w.heap.size + 1 + 1 + 1 := by simp
  refine ⟨⟨?_, ?_, ?_, ?_⟩, ((((Below.refl _ _).alloc (Nat.le_refl _) _).alloc (by simp) _).alloc (by omega) _).alloc (by omega) _⟩
  · rw [Go.heap_alloc_old _ _ (by omega), Go.heap_alloc_old _ _ (by omega), Go.heap_alloc_old _ _ (by omega)]
    have := heap_alloc_new w (.cells jc 25)
    simpa using this
  · unfold Box1
    rw [Go.heap_alloc_old _ _ (by omega), Go.heap_alloc_old _ _ (by omega)]
    have := heap_alloc_new (w.alloc (.cells jc 25)) (.cells #[.int .i64 0] 3)
    rwa [k1] at this
  · unfold Box1
    rw [Go.heap_alloc_old _ _ (by omega)]
    have := heap_alloc_new ((w.alloc (.cells jc 25)).alloc (.cells #[.int .i64 0] 3)) (.cells #[.int .i64 0] 3)
    rwa [k2] at this
  · have := heap_alloc_new (((w.alloc (.cells jc 25)).alloc (.cells #[.int .i64 0] 3)).alloc (.cells #[.int .i64 0] 3)) (.cells #[.int .i64 0] 30)
    rwa [k3] at this

def CheckPost (w : World) (q : Int × Int × Int) (r : Ending) (w' : World) : Prop := r = .returned (.tuple #[.int .i64 q.1, .int .i64 q.2.1, .int .i64 q.2.2]) ∧ Below w.heap.size w w'

/-- What went up is caught. -/
theorem caught {w w2 : World} {jc : List Value} {tmps : Array Value} (x y z : Int) (hF : Four w2 w.heap.size jc) (hE : Env w2) (hb : Below w.heap.size w w2) (q : Int × Int × Int) (hq : q = (x, y, z))
    (hr : tmps[2]? = some (.pointer (some ⟨w.heap.size + 1, 0, none⟩)) ∧ tmps[3]? = some (.pointer (some ⟨w.heap.size + 1 + 1, 0, none⟩)) ∧ tmps[4]? = some (.pointer (some ⟨w.heap.size + 1 + 1 + 1, 0, none⟩))) :
    Leaves Tryz.prog Tryz.f23 tmps (CheckPost w q) [{ target := .fn (.func 44) #[.pointer (some ⟨w.heap.size + 1, 0, none⟩), .pointer (some ⟨w.heap.size + 1 + 1, 0, none⟩), .pointer (some ⟨w.heap.size + 1 + 1 + 1, 0, none⟩)], args := #[] }] (.panicking [{ v := wrongV x y z, recovered := false }]) w2 := by
  subst hq
  refine leaves_cons (f := 44) (args := #[.pointer (some ⟨w.heap.size + 1, 0, none⟩), .pointer (some ⟨w.heap.size + 1 + 1, 0, none⟩), .pointer (some ⟨w.heap.size + 1 + 1 + 1, 0, none⟩)]) (by simp) (by simp [go_sem]) ?_
  refine (catch_up (w.heap.size + 1) (w.heap.size + 1 + 1) (w.heap.size + 1 + 1 + 1) x y z 0 0 0 [] w2 hF.f hF.i hF.e (by omega) hE.err).mono ?_
  rintro e u' w3 ⟨rfl, rfl, h1, h2, h3, h4⟩
  have c1 := cell_row (i := 0) h1 rfl
  have c2 := cell_row (i := 0) h2 rfl
  have c3 := cell_row (i := 0) h3 rfl
  have hB : Below w.heap.size w w3 := hb.trans (h4 _ (by omega) (by omega) (by omega) hb.size)
  obtain ⟨r1, r2, r3⟩ := hr
  refine ⟨.tuple #[.int .i64 x, .int .i64 y, .int .i64 z], ?_, rfl, hB⟩
  simp [results, Tryz.results23, go_sem, r1, r2, r3, c1, c2, c3]
/-- Nothing went up. -/
theorem idled {w w2 : World} {jc : List Value} {tmps : Array Value} (hF : Four w2 w.heap.size jc) (hb : Below w.heap.size w w2) (q : Int × Int × Int) (hq : q = (0, 0, 0))
    (hr : tmps[2]? = some (.pointer (some ⟨w.heap.size + 1, 0, none⟩)) ∧ tmps[3]? = some (.pointer (some ⟨w.heap.size + 1 + 1, 0, none⟩)) ∧ tmps[4]? = some (.pointer (some ⟨w.heap.size + 1 + 1 + 1, 0, none⟩))) :
    Leaves Tryz.prog Tryz.f23 tmps (CheckPost w q) [{ target := .fn (.func 44) #[.pointer (some ⟨w.heap.size + 1, 0, none⟩), .pointer (some ⟨w.heap.size + 1 + 1, 0, none⟩), .pointer (some ⟨w.heap.size + 1 + 1 + 1, 0, none⟩)], args := #[] }] .returning w2 := by
  subst hq
  refine leaves_cons (f := 44) (args := #[.pointer (some ⟨w.heap.size + 1, 0, none⟩), .pointer (some ⟨w.heap.size + 1 + 1, 0, none⟩), .pointer (some ⟨w.heap.size + 1 + 1 + 1, 0, none⟩)]) (by simp) (by simp [go_sem]) ?_
  refine (catch_idle (w.heap.size + 1) (w.heap.size + 1 + 1) (w.heap.size + 1 + 1 + 1) w2).mono ?_
  rintro e u' w3 ⟨rfl, rfl, h4⟩
  have c1 := keep_cell (cell_row (i := 0) hF.f rfl) h4
  have c2 := keep_cell (cell_row (i := 0) hF.i rfl) h4
  have c3 := keep_cell (cell_row (i := 0) hF.e rfl) h4
  have hB : Below w.heap.size w w3 := chain hb h4
  obtain ⟨r1, r2, r3⟩ := hr
  refine ⟨.tuple #[.int .i64 0, .int .i64 0, .int .i64 0], ?_, rfl, hB⟩
  simp [results, Tryz.results23, go_sem, r1, r2, r3, c1, c2, c3]
theorem Four.zeros {w : World} {b : Nat} {jc : List Value} (h : Four w b jc) : Four (((w.setCell ⟨b + 1, 0, none⟩ (.int .i64 0)).setCell ⟨b + 1 + 1, 0, none⟩ (.int .i64 0)).setCell ⟨b + 1 + 1 + 1, 0, none⟩ (.int .i64 0)) b jc ∧ Below b w (((w.setCell ⟨b + 1, 0, none⟩ (.int .i64 0)).setCell ⟨b + 1 + 1, 0, none⟩ (.int .i64 0)).setCell ⟨b + 1 + 1 + 1, 0, none⟩ (.int .i64 0)) := by
  have far : ∀ (W : World) (p q : Nat) (v : Value), p ≠ q → (W.setCell ⟨q, 0, none⟩ v).heap[p]? = W.heap[p]? := fun W p q v h => Below.heap_setCell _ _ _ _ (by simpa using h)
  refine ⟨⟨?_, ?_, ?_, ?_⟩, (((Below.refl _ _).setCell (p := ⟨b + 1, 0, none⟩) (by simp) _).setCell (p := ⟨b + 1 + 1, 0, none⟩) (by simp; omega) _).setCell (p := ⟨b + 1 + 1 + 1, 0, none⟩) (by simp; omega) _⟩
  · rw [far _ _ _ _ (by omega), far _ _ _ _ (by omega), far _ _ _ _ (by omega)]; exact h.job
  · unfold Box1
    rw [far _ _ _ _ (by omega), far _ _ _ _ (by omega)]
    exact set_row (i := 0) h.f (.int .i64 0)
  · unfold Box1
    rw [far _ _ _ _ (by omega)]
    exact set_row (i := 0) ((far _ _ _ _ (by omega)).trans h.i) (.int .i64 0)
  · exact set_row (i := 0) ((far _ _ _ _ (by omega)).trans ((far _ _ _ _ (by omega)).trans h.e)) (.int .i64 0)

set_option maxRecDepth 100000 in
set_option maxHeartbeats 2000000 in
theorem check_any (j : JV) (cs : List Value) (fs : List Fun) (args : List Int) (w : World) (hJ : JobR w j cs fs args) (hE : Env w) (hf : fs.length ≤ 9223372036854775807) (hs : ∀ f ∈ fs, f.code.length ≤ 9223372036854775807 ∧ f.name.size < 9223372036854775808) :
    Calls Tryz.prog 23 #[.agg j.cells] w (CheckPost w (checkL fs j.main args.length j.fuel j.tasks)) := by
  have hmf : ∀ (fn : Fn) (first cap : Array Value) (w : World), (Instr.makeFunc fn first cap).run Tryz.prog w = .ok (.func fn first cap) w := fun _ _ _ _ => rfl
  obtain ⟨hF0, hb0⟩ := four_new w j.cells
  have C20 := checkJob_any j cs fs args _ (hJ.below hb0) hf
  have HJ := hide (fun (W : World) (hb : Below w.heap.size w W) => hJ.below hb)
  have HEn := hide (fun (W : World) (hb : Below w.heap.size w W) => hE.below hb)
  have HCF := hide (fun (k : Nat) (W : World) (hk : k < fs.length) (hb : Below w.heap.size w W) (h9 : fs.length ≤ 1000000000) => checkFunc_any j cs fs args k W (hJ.below hb) (hE.below hb) hk h9 (hs _ (List.getElem_mem hk)))
  have HJ9 := hide (show jobErr fs j.main args.length j.fuel j.tasks = 0 → fs.length ≤ 1000000000 from fun h => by
    unfold jobErr at h
    split at h
    · cases h
    · split at h
      · cases h
      · omega)
  have HCL := hide (show checkL fs j.main args.length j.fuel j.tasks = if jobErr fs j.main args.length j.fuel j.tasks = 0 then checkFrom fs 0 fs else (0, 0, jobErr fs j.main args.length j.fuel j.tasks) from rfl)
  have hnf := hJ.nf
  generalize checkL fs j.main args.length j.fuel j.tasks = res at HCL ⊢
  generalize jobErr fs j.main args.length j.fuel j.tasks = je at HCL C20 HJ9
  have HNF := hide hnf
  clear hJ hE hs
  obtain ⟨fa, nf, fc, mn, aa, na, ac, fu, ta⟩ := j
  simp only [JV.cells] at *
  rw [← hnf] at hf
  clear hnf
  have j0 := cell_row (i := 0) hF0.job rfl
  have j1 := cell_row (i := 1) hF0.job rfl
  have j2 := cell_row (i := 2) hF0.job rfl
  have j3 := cell_row (i := 3) hF0.job rfl
  have j4 := cell_row (i := 4) hF0.job rfl
  go_enter_defers Tryz.func23, Tryz.ntmps23
  by_cases hje : je = 0
  · subst hje
    rw [upE_zero] at C20
    have H9 := hide (HJ9.out rfl)
    clear HJ9
    have HCL2 := hide (show res = checkFrom fs 0 fs from HCL.out)
    clear HCL
    go_upto_region 2 with fail
    generalize ((((w.alloc (.cells #[.slice fa nf fc, .int .i64 mn, .slice aa na ac, .int .i64 fu, .int .i64 ta] 25)).alloc (.cells #[.int .i64 0] 3)).alloc (.cells #[.int .i64 0] 3)).alloc (.cells #[.int .i64 0] 30)) = w0 at *
    go_wp2_with (go_at_call 45; go_must (with_reducible refine C20.mono ?_; (rintro e w1 ⟨rfl, hb1⟩); refine Hid.out ?_))
    refine Lib.hid ?_
    have hF1 := hF0.below hb1
    have hb01 := chain hb0 hb1
    clear j0 j1 j2 j3 j4 C20 hF0 hb0 hb1
    have j0 := cell_row (i := 0) hF1.job rfl
    have HF1 := hide hF1
    clear hF1
    go_wp2
    go_loopw [12] (fun i wr => Hid (Four wr w.heap.size [.slice fa nf fc, .int .i64 mn, .slice aa na ac, .int .i64 fu, .int .i64 ta]) ∧ Hid (Below w.heap.size w wr) ∧ ∃ k : Nat, k ≤ nf ∧ i = .int .i64 (k : Nat) ∧ Hid (∀ q g, q < k → fs[q]? = some g → (funcErr fs q g).2 = 0)) (fun i _ => nf - (intOf i).toNat)
    case atStart => exact ⟨HF1, hb01, 0, Nat.zero_le _, rfl, fun q g hq => by omega⟩
    case round =>
      obtain ⟨hFr, hbr, k, hk, rfl, hh⟩ := hrel
      clear j0 HF1
      have j0 := cell_row (i := 0) hFr.out.job rfl
      have j1 := cell_row (i := 1) hFr.out.job rfl
      have j2 := cell_row (i := 2) hFr.out.job rfl
      have j3 := cell_row (i := 3) hFr.out.job rfl
      have j4 := cell_row (i := 4) hFr.out.job rfl
      by_cases hlt : k < nf
      · have hlt' : (k : Int) < (nf : Int) := by omega
        have hkf : k < fs.length := by rw [← HNF.out]; exact hlt
        have C21 := HCF.out k wr hkf hbr.out H9.out
        unfold FuncPost at C21
        have HX := hide (List.getElem?_eq_getElem hkf)
        generalize fs[k] = f at C21 HX
        generalize hfe : funcErr fs k f = fe at C21
        have HFE := hide hfe
        clear hfe
        obtain ⟨fp, fe⟩ := fe
        simp only [] at C21
        by_cases hfz : fe = 0
        · subst hfz
          rw [upE_zero] at C21
          go_wp2_with (go_at_call 46; go_must (with_reducible refine C21.mono ?_; (rintro e w2 ⟨rfl, hb2⟩); refine Hid.out ?_))
          refine Lib.hid ?_
          have HF2 := hide (hFr.out.below hb2)
          have HB2 := hide (chain hbr.out hb2)
          clear C21 j0 j1 j2 j3 j4 hb2
          go_wp2
          go_roundw
          case rel => exact ⟨HF2, HB2, k + 1, by omega, by go_num, fun q g hq hg => by
              by_cases hqk : q = k
              · subst hqk
                rw [HX.out] at hg
                cases hg
                rw [HFE.out]
              · exact hh.out q g (by omega) hg⟩
          case measure => simp [intOf]; omega
        · rw [upE_ne hfz] at C21
          have HR := hide (show res = ((k : Int), fp, fe) by
            rw [HCL2.out]
            have := checkFrom_at (fs := fs) fs 0 k f HX.out (fun i g hi hg => by rw [Nat.zero_add]; exact hh.out i g hi hg) (by rw [Nat.zero_add, HFE.out]; exact hfz)
            rw [this, Nat.zero_add, HFE.out])
          clear hfz
          go_wp2_with (go_at_call 46; go_must (with_reducible refine C21.mono ?_; (rintro e w2 ⟨rfl, hb2⟩); refine Hid.out ?_))
          refine Lib.hid ?_
          have HF2 := hide (hFr.out.below hb2)
          have HB2 := hide (chain hbr.out hb2)
          clear C21 j0 j1 j2 j3 j4 hb2
          go_wp2
          exact caught (k : Int) fp fe HF2.out (HEn.out _ HB2.out) HB2.out _ HR.out ⟨rfl, rfl, rfl⟩
      · have HR := hide (show res = (0, 0, 0) by
          rw [HCL2.out]
          refine checkFrom_ok fs 0 (fun q g hg => ?_)
          rw [Nat.zero_add]
          refine hh.out q g ?_ hg
          have : q < fs.length := by
            rcases Nat.lt_or_ge q fs.length with h | h
            · exact h
            · rw [List.getElem?_eq_none h] at hg; cases hg
          rw [← HNF.out] at this
          omega)
        obtain ⟨hZ, hZb⟩ := hFr.out.zeros
        have z1 := cell_row (i := 0) hFr.out.f rfl
        have z2 := cell_row (i := 0) hFr.out.i rfl
        have z3 := cell_row (i := 0) hFr.out.e rfl
        have f1 := frozen_row (i := 0) hFr.out.f
        have f2 := frozen_row (i := 0) hFr.out.i
        have f3 := frozen_row (i := 0) hFr.out.e
        have HZ := hide hZ
        have HZB := hide (hbr.out.trans hZb)
        clear hZ hZb
        go_wp2
        exact idled HZ.out HZB.out _ HR.out ⟨rfl, rfl, rfl⟩
  · have HCL2 := hide (show res = (0, 0, je) by rw [HCL.out, if_neg hje])
    rw [upE_ne hje] at C20
    clear HCL hje
    go_upto_region 2 with fail
    generalize ((((w.alloc (.cells #[.slice fa nf fc, .int .i64 mn, .slice aa na ac, .int .i64 fu, .int .i64 ta] 25)).alloc (.cells #[.int .i64 0] 3)).alloc (.cells #[.int .i64 0] 3)).alloc (.cells #[.int .i64 0] 30)) = w0 at *
    go_wp2_with (go_at_call 45; go_must (with_reducible refine C20.mono ?_; (rintro e w1 ⟨rfl, hb1⟩); refine Hid.out ?_))
    refine Lib.hid ?_
    have HF1 := hide (hF0.below hb1)
    have HB1 := hide (chain hb0 hb1)
    clear j0 j1 j2 j3 j4 C20 hF0 hb0 hb1
    go_wp2
    exact caught 0 0 je HF1.out (HEn.out _ HB1.out) HB1.out _ HCL2.out ⟨rfl, rfl, rfl⟩
end Go.Proofs.YtnkfdpnommjlcaaGreatDoor
namespace Go.Proofs.YtnkfdpnommjlcaaGreatDoor
open Go.RowKit Go.ChangeShapes Go.WideShapes Go.ChangeAt Go.Deep

def fnm : ByteArray := ⟨#[102]⟩
def oneJ (h : Nat) : JV := ⟨some ⟨h, 0, none⟩, 1, 1, 0, none, 0, 0, 100, 50⟩
def oneF (code : List (Int × Int)) : List Fun := [⟨fnm, 0, 0, code⟩]
/-- What Check answers of the job of one function with that code. -/
def oneL (code : List (Int × Int)) : Int × Int × Int := checkL (oneF code) 0 0 100 50

def OnePost (a : Option Addr) (n cap : Nat) (w : World) (r : Ending) (w' : World) : Prop :=
  ∃ h, r = .returned (.agg (oneJ h).cells) ∧ w'.heap[h]? = some (.cells [.string fnm, .int .i64 0, .int .i64 0, .slice a n cap].toArray 58 (0, 0)) ∧ Below w.heap.size w w'

set_option maxRecDepth 100000 in
set_option maxHeartbeats 400000 in
theorem one_any (a : Option Addr) (n cap : Nat) (w : World) : Calls Tryz.prog 20 #[.slice a n cap] w (OnePost a n cap w) := by
  go_enter Tryz.func20, Tryz.ntmps20
  go_wp2
  refine bodyPost_ret (v := .agg #[.slice (some ⟨w.heap.size + 1, 0, none⟩) 1 1, .int .i64 0, .slice none 0 0, .int .i64 100, .int .i64 50]) (by simp [results, Tryz.results20, go_sem]) rfl ?_
  refine ⟨w.heap.size + 1, rfl, ?_, ?_⟩
  · have := heap_alloc_new (w.alloc (.cells #[.slice (some ⟨w.heap.size + 1, 0, none⟩) 1 1, .int .i64 0, .slice none 0 0, .int .i64 100, .int .i64 50] 25)) (.cells #[.string ⟨#[102]⟩, .int .i64 0, .int .i64 0, .slice a n cap] 58)
    rwa [show (w.alloc (.cells #[.slice (some ⟨w.heap.size + 1, 0, none⟩) 1 1, .int .i64 0, .slice none 0 0, .int .i64 100, .int .i64 50] 25)).heap.size = w.heap.size + 1 by simp] at this
  · exact ((Below.refl _ _).alloc (Nat.le_refl _) _).alloc (by simp) _

theorem job_one {w : World} {h : Nat} {a : Option Addr} {n cap : Nat} {code : List (Int × Int)} (hrow : w.heap[h]? = some (.cells [.string fnm, .int .i64 0, .int .i64 0, .slice a n cap].toArray 58 (0, 0))) (hn : code.length = n) (hr : Reads w a (insV code)) :
    JobR w (oneJ h) [.slice a n cap] (oneF code) [] :=
  ⟨rfl, Nat.le_refl _, rfl, .inr ⟨h, 0, rfl, lt_row hrow, fun j hj i v hv => by
      have hj0 : j = 0 := by simp [frs, oneF] at hj; omega
      subst hj0
      rw [show 0 + 0 * 4 + i = i by omega]
      exact cell_row hrow hv⟩, fun i h h' => by
        have hi : i = 0 := by simp at h; omega
        subst hi
        exact ⟨a, cap, by simp [oneF, hn], by simpa [oneF] using hr⟩, rfl, .inl rfl⟩

theorem one_check {w : World} {h : Nat} {a : Option Addr} {n cap : Nat} (code : List (Int × Int)) (hrow : w.heap[h]? = some (.cells [.string fnm, .int .i64 0, .int .i64 0, .slice a n cap].toArray 58 (0, 0))) (hn : code.length = n) (hr : Reads w a (insV code)) (hE : Env w) (hb : n ≤ 9223372036854775807) :
    Calls Tryz.prog 23 #[.agg (oneJ h).cells] w (CheckPost w (oneL code)) :=
  check_any (oneJ h) _ (oneF code) [] w (job_one hrow hn hr) hE (by simp [oneF]) (fun f hf => by
    simp [oneF] at hf
    subst hf
    exact ⟨by show code.length ≤ _; omega, by show fnm.size < _; decide⟩)

/-- The depths that Depths answers. -/
def depsOf (fs : List Fun) (main : Int) (na : Nat) (fuel tasks f : Int) : List Int :=
  if (checkL fs main na fuel tasks).2.2 = 0 ∧ hasB fs.length f = true then
    match fs[f.toNat]? with
    | some g => match depthsL (fs.map Fun.args) g.code with
      | .ok d => d
      | .error _ => []
    | none => []
  else []
theorem func_good {fs : List Fun} {k : Nat} {f : Fun} : ∀ {l : List Fun} {s : Nat}, checkFrom fs s l = (0, 0, 0) → l[k]? = some f → (funcErr fs (s + k) f).2 = 0 := by
  intro l
  induction l generalizing k with
  | nil => intro s h1 h2; simp at h2
  | cons g r ih =>
    intro s h1 h2
    rw [checkFrom] at h1
    split at h1
    · rename_i hz
      cases k with
      | zero => simp at h2; subst h2; simpa using hz
      | succ k =>
        have := ih h1 (by simpa using h2)
        rwa [show s + 1 + k = s + (k + 1) by omega] at this
    · rename_i hz
      simp at h1
      exact absurd h1.2.2 hz
theorem func_parts {fs : List Fun} {k : Nat} {f : Fun} (h : (funcErr fs k f).2 = 0) : headErr fs k f = 0 ∧ ∃ d, depthsL (fs.map Fun.args) f.code = .ok d := by
  unfold funcErr at h
  split at h
  · rename_i h1; exact absurd h h1
  · rename_i h1
    split at h
    · rename_i h2; exact absurd h h2
    · refine ⟨by simpa using h1, ?_⟩
      cases hd : depthsL (fs.map Fun.args) f.code with
      | ok d => exact ⟨d, rfl⟩
      | error q => rw [hd] at h; exact absurd h (depthsL_ne hd)
theorem head_parts {fs : List Fun} {k : Nat} {f : Fun} (h : headErr fs k f = 0) : inB f.code.length 1 256 = true := by
  unfold headErr at h
  split at h
  · cases h
  · split at h
    · cases h
    · split at h
      · cases h
      · split at h
        · cases h
        · rename_i h4; simpa using h4
theorem check_good {fs : List Fun} {main : Int} {na : Nat} {fuel tasks : Int} (h : (checkL fs main na fuel tasks).2.2 = 0) : checkL fs main na fuel tasks = (0, 0, 0) ∧ checkFrom fs 0 fs = (0, 0, 0) := by
  unfold checkL at h ⊢
  split at h
  · rename_i hj
    rw [if_pos hj]
    have : ∀ (l : List Fun) (k : Nat), (checkFrom fs k l).2.2 = 0 → checkFrom fs k l = (0, 0, 0) := by
      intro l
      induction l with
      | nil => intro k _; rfl
      | cons g r ih =>
        intro k hk
        rw [checkFrom] at hk ⊢
        split at hk
        · rename_i hz; rw [if_pos hz]; exact ih _ hk
        · rename_i hz; exact absurd hk hz
    exact ⟨this fs 0 h, this fs 0 h⟩
  · rename_i hj; exact absurd h hj
theorem deps_at {fs : List Fun} {main : Int} {na : Nat} {fuel tasks : Int} {k : Nat} {f : Fun} (h : (checkL fs main na fuel tasks).2.2 = 0) (hk : fs[k]? = some f) : (1 ≤ f.code.length ∧ f.code.length ≤ 256) ∧ ∃ d, depthsL (fs.map Fun.args) f.code = .ok d ∧ depsOf fs main na fuel tasks (k : Int) = d := by
  have hg := func_good (check_good h).2 hk
  rw [Nat.zero_add] at hg
  obtain ⟨h1, d, hd⟩ := func_parts hg
  have h2 := head_parts h1
  simp [inB] at h2
  refine ⟨by omega, d, hd, ?_⟩
  have hlt : k < fs.length := by
    rcases Nat.lt_or_ge k fs.length with h | h
    · exact h
    · rw [List.getElem?_eq_none h] at hk; cases hk
  unfold depsOf
  rw [if_pos ⟨h, by simp [hasB, inB]; omega⟩]
  simp [hk, hd]

def DepsPost (w : World) (D : List Int) (r : Ending) (w' : World) : Prop := ∃ a cap, r = .returned (.slice a D.length cap) ∧ Reads w' a (iV D) ∧ Below w.heap.size w w'

set_option maxRecDepth 100000 in
set_option maxHeartbeats 1000000 in
theorem deps_any (j : JV) (cs : List Value) (fs : List Fun) (args : List Int) (f : Int) (w : World) (hJ : JobR w j cs fs args) (hE : Env w) (hf : fs.length ≤ 9223372036854775807) (hs : ∀ f ∈ fs, f.code.length ≤ 9223372036854775807 ∧ f.name.size < 9223372036854775808) :
    Calls Tryz.prog 31 #[.agg j.cells, .int .i64 f] w (DepsPost w (depsOf fs j.main args.length j.fuel j.tasks f)) := by
  have hb0 := alloc_below w (.cells j.cells 25)
  have hbx0 : (w.alloc (.cells j.cells 25)).heap[w.heap.size]? = some (.cells j.cells.toList.toArray 25 (0, 0)) := by
    have := heap_alloc_new w (.cells j.cells 25)
    simpa using this
  have C11 := check_any j cs fs args _ (hJ.below hb0) (hE.below hb0) hf hs
  unfold CheckPost at C11
  have HJ := hide (fun (W : World) (hb : Below w.heap.size w W) => hJ.below hb)
  have HEN := hide (fun (W : World) (hb : Below w.heap.size w W) => hE.below hb)
  have H24 := hide (fun (k : Nat) (W : World) (hk : k < fs.length) (hb : Below w.heap.size w W) => newWalk_any j cs fs args k W (hJ.below hb) hk)
  have HDA := hide (fun (k : Nat) (g : Fun) (h : (checkL fs j.main args.length j.fuel j.tasks).2.2 = 0) (hk : fs[k]? = some g) => deps_at h hk)
  have HDE := hide (show depsOf fs j.main args.length j.fuel j.tasks f = (if (checkL fs j.main args.length j.fuel j.tasks).2.2 = 0 ∧ hasB fs.length f = true then (match fs[f.toNat]? with | some g => (match depthsL (fs.map Fun.args) g.code with | .ok d => d | .error _ => []) | none => []) else []) from rfl)
  have HG := hide (fun (h : (checkL fs j.main args.length j.fuel j.tasks).2.2 = 0) => (check_good h).1)
  have hnf := hJ.nf
  generalize checkL fs j.main args.length j.fuel j.tasks = q at C11 HDE HDA HG
  clear hJ hE hs
  obtain ⟨q0, q1, q2⟩ := q
  simp only [] at C11
  rw [← hnf] at HDE hf
  have HNF := hide hnf
  clear hnf
  have CH := fun w => has_any (j.nf : Int) f (by omega) w
  by_cases hq : q2 = 0
  · subst hq
    cases hh : hasB (j.nf : Int) f with
    | false =>
      have HD := hide (show depsOf fs j.main args.length j.fuel j.tasks f = [] by rw [HDE.out, if_neg (by rw [hh]; simp)])
      rw [hh] at CH
      generalize depsOf fs j.main args.length j.fuel j.tasks f = D at HD ⊢
      clear HDE HDA
      obtain ⟨fa, nf, fc, mn, aa, na, ac, fu, ta⟩ := j
      simp only [JV.cells] at *
      go_enter Tryz.func31, Tryz.ntmps31
      go_wp2_with (first
        | (go_at_call 23; go_must (with_reducible refine C11.mono ?_; (rintro e w1 ⟨rfl, hb1⟩); have hbx1 := heap_row hbx0 hb1; have j0 := cell_row (i := 0) hbx1 rfl))
        | (go_at_call 50; go_must (with_reducible refine (CH _).mono ?_; (rintro e w2 ⟨rfl, hw2⟩); subst hw2)))
      go_ret
      exact ⟨none, 0, by rw [HD.out]; rfl, .inl (by rw [HD.out]; rfl), chain hb0 hb1⟩
    | true =>
      obtain ⟨k, rfl, hk⟩ := hasB_nat hh
      have hkf : k < fs.length := by rw [← HNF.out]; exact hk
      obtain ⟨hcl, d, hd, hD⟩ := HDA.out k fs[k] rfl (List.getElem?_eq_getElem hkf)
      rw [hh] at CH
      have HD := hide hD
      have HDD := hide hd
      clear hh HDE HDA hD hd
      have HTR := hide (fun (W : World) (hb : Below w.heap.size w W) (ca : Option Addr) (n cc : Nat) (hc : cs[k]? = some (.slice ca n cc)) => (And.intro (HEN.out W hb).tab (And.intro (HJ.out W hb).areads ((HJ.out W hb).code_reads hkf hc))))
      have H24k := hide (fun W hb => H24.out k W hkf hb)
      clear HJ HEN H24
      generalize fs[k] = g at *
      generalize depsOf fs j.main args.length j.fuel j.tasks (k : Int) = D at HD ⊢
      obtain ⟨fa, nf, fc, mn, aa, na, ac, fu, ta⟩ := j
      simp only [JV.cells] at *
      go_enter Tryz.func31, Tryz.ntmps31
      go_wp2_with (first
        | (go_at_call 23; go_must (with_reducible refine C11.mono ?_; (rintro e w1 ⟨rfl, hb1⟩); have hbx1 := heap_row hbx0 hb1; have j0 := cell_row (i := 0) hbx1 rfl; have j1 := cell_row (i := 1) hbx1 rfl; have j2 := cell_row (i := 2) hbx1 rfl; have j3 := cell_row (i := 3) hbx1 rfl; have j4 := cell_row (i := 4) hbx1 rfl))
        | (go_at_call 50; go_must (with_reducible refine (CH _).mono ?_; (rintro e w2 ⟨rfl, hw2⟩); replace hw2 := hw2.symm; subst hw2))
        | (go_at_call 51; refine Hid.out ?_))
      refine Lib.hid ?_
      have hb01 := chain hb0 hb1
      refine (H24k.out w1 hb01).mono ?_
      rintro e w3 ⟨rfl, ⟨ca, cc, hA, hc⟩, hb3⟩
      have hb03 := chain hb01 hb3
      have hle := hb01.size
      have C25 := depths_any w.heap.size (w1.heap.size + 1) _ g.code (fs.map Fun.args) w3 hA rfl (by omega) hb03.size hcl.1 (by have := hcl.2; show g.code.length ≤ 1000000000; omega) rfl (by rw [List.length_map]; exact HNF.out.symm) (fun W hW => HTR.out W (hb03.trans hW) ca _ cc hc)
      unfold DepPost at C25
      rw [HDD.out] at C25
      simp only [] at C25
      clear C11 CH hbx1 j0 j1 j2 j3 j4 H24k HTR hbx0 hb0 hb1
      go_wp2_with (go_at_call 52; go_must (with_reducible refine C25.mono ?_; (rintro e w4 ⟨hb4, rfl, x, p, low, gg, hxb, hDp⟩); refine Hid.out ?_))
      refine Lib.hid ?_
      obtain ⟨_, _, _, _, c7, _, _, _⟩ := hDp.cells
      rw [hxb] at c7
      have HDP := hide hDp
      have HB4 := hide (hb03.trans hb4)
      clear C25 hDp
      go_wp2
      go_ret
      refine ⟨some ⟨x.g1, 0, none⟩, x.n, ?_, ?_, HB4.out⟩
      · rw [HD.out, HDP.out.dl]; rfl
      · rw [HD.out]
        exact .inr ⟨x.g1, 0, rfl, fun i u hu => by rw [Nat.zero_add]; exact cell_row HDP.out.dep hu⟩
  · have HD := hide (show depsOf fs j.main args.length j.fuel j.tasks f = [] by rw [HDE.out, if_neg (by simp [hq])])
    have hq' : (q2 != 0) = true := by simp [hq]
    generalize depsOf fs j.main args.length j.fuel j.tasks f = D at HD ⊢
    clear HDE HDA HG hq
    obtain ⟨fa, nf, fc, mn, aa, na, ac, fu, ta⟩ := j
    simp only [JV.cells] at *
    go_enter Tryz.func31, Tryz.ntmps31
    go_wp2_with (go_at_call 23; go_must (with_reducible refine C11.mono ?_; (rintro e w1 ⟨rfl, hb1⟩)))
    go_ret
    exact ⟨none, 0, by rw [HD.out]; rfl, .inl (by rw [HD.out]; rfl), chain hb0 hb1⟩

end Go.Proofs.YtnkfdpnommjlcaaGreatDoor
