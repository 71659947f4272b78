/- The document's Check; Depths. -/
import Derived.Test.YtfdgkeljnmamiaaDoorRcf
import Derived.Test.YtfdgkeljnmamiaaDoorAlive
namespace Go.Proofs.YtfdgkeljnmamiaaDoor
open Go.RowKit Go.ChangeShapes Go.WideShapes Go.ChangeAt Go.Deep

def rCheckFrom (fs : List Fun) : Nat → List Fun → Int × Int × Int
  | _, [] => (0, 0, 0)
  | k, f :: r => if (rFuncErr fs k f).2 = 0 then rCheckFrom fs (k + 1) r else ((k : Int), (rFuncErr fs k f).1, (rFuncErr fs k f).2)
def rCheckL (fs : List Fun) (main : Int) (na : Nat) (fuel tasks : Int) : Int × Int × Int :=
  if jobErr fs main na fuel tasks = 0 then rCheckFrom fs 0 fs else (0, 0, jobErr fs main na fuel tasks)

theorem same_func {fs : List Fun} (hS : Small (fs.map Fun.args)) (k : Nat) (f : Fun) : rFuncErr fs k f = funcErr fs k f := by
  unfold rFuncErr funcErr
  split
  · rfl
  · split
    · rfl
    · rename_i h
      rw [depths_same hS (fwd_of (lo := f.locals) (nf := fs.length) (by simpa using h))]
      cases depthsL (fs.map Fun.args) f.code <;> rfl
theorem head_args {fs : List Fun} {k : Nat} {f : Fun} (h : headErr fs k f = 0) : 0 ≤ f.args ∧ f.args ≤ 8 := by
  unfold headErr at h
  split at h
  · cases h
  · split at h
    · cases h
    · rename_i h1
      simp [inB] at h1
      omega
theorem rfunc_head {fs : List Fun} {k : Nat} {f : Fun} (h : (rFuncErr fs k f).2 = 0) : headErr fs k f = 0 := by
  unfold rFuncErr at h
  split at h
  · exact h
  · rename_i h1; exact Decidable.byContradiction fun e => h1 e
theorem rfrom_all {fs : List Fun} : ∀ (l : List Fun) (s : Nat), (rCheckFrom fs s l).2.2 = 0 → ∀ (k : Nat) (hk : k < l.length), (rFuncErr fs (s + k) l[k]).2 = 0
  | [], _, _, k, hk => by simp at hk
  | f :: r, s, h, k, hk => by
    unfold rCheckFrom at h
    split at h
    · rename_i h0
      cases k with
      | zero => exact h0
      | succ k =>
        have := rfrom_all r (s + 1) h k (by simpa using hk)
        rw [show s + (k + 1) = s + 1 + k by omega]
        exact this
    · rename_i h0; exact absurd h h0
theorem from_same_small {fs : List Fun} (hS : Small (fs.map Fun.args)) : ∀ (l : List Fun) (s : Nat), rCheckFrom fs s l = checkFrom fs s l
  | [], _ => rfl
  | f :: r, s => by
    unfold rCheckFrom checkFrom
    rw [same_func hS, from_same_small hS r (s + 1)]
theorem small_of {fs : List Fun} (h : ∀ (k : Nat) (hk : k < fs.length), headErr fs k fs[k] = 0) : Small (fs.map Fun.args) := fun a ha => by
  obtain ⟨f, hf, rfl⟩ := List.mem_map.1 ha
  obtain ⟨k, hk, rfl⟩ := List.mem_iff_getElem.1 hf
  exact head_args (h k hk)
/-- The document's Check takes a job just where Check does. -/
theorem check_iff (fs : List Fun) (main : Int) (na : Nat) (fuel tasks : Int) : (rCheckL fs main na fuel tasks).2.2 = 0 ↔ (checkL fs main na fuel tasks).2.2 = 0 := by
  constructor
  · intro h
    unfold rCheckL at h
    split at h
    · rename_i hj
      have hS : Small (fs.map Fun.args) := small_of fun k hk => by
        have := rfrom_all fs 0 h k hk
        rw [Nat.zero_add] at this
        exact rfunc_head this
      unfold checkL
      rw [if_pos hj, ← from_same_small hS]
      exact h
    · rename_i hj; exact absurd h hj
  · intro h
    have hg := check_good h
    have hS : Small (fs.map Fun.args) := small_of fun k hk => by
      have := func_good hg.2 (List.getElem?_eq_getElem hk)
      rw [Nat.zero_add] at this
      exact (func_parts this).1
    unfold checkL at h
    unfold rCheckL
    split at h
    · rename_i hj
      rw [if_pos hj, from_same_small hS]
      exact h
    · rename_i hj; exact absurd h hj

set_option linter.unusedSimpArgs false in
set_option maxRecDepth 100000 in
set_option maxHeartbeats 16000000 in
theorem rcheck_any (fa : Option Addr) (nf fc : Nat) (mn : Int) (aa : Option Addr) (na ac : Nat) (fu ta : Int) (cs : List Value) (fs : List Fun) (args : List Int) (w : World) (hJ : JobR w ⟨fa, nf, fc, mn, aa, na, ac, fu, ta⟩ cs fs args) (hn : nf ≤ 9223372036854775807) (hs : ∀ f ∈ fs, f.code.length ≤ 9223372036854775807 ∧ f.name.size ≤ 9223372036854775807) :
    Calls Tryd.prog 12 #[.agg #[.slice fa nf fc, .int .i64 mn, .slice aa na ac, .int .i64 fu, .int .i64 ta]] w fun r w' => r = .returned (.tuple #[.int .i64 (rCheckL fs mn args.length fu ta).1, .int .i64 (rCheckL fs mn args.length fu ta).2.1, .int .i64 (rCheckL fs mn args.length fu ta).2.2]) ∧ Below w.heap.size w w' := by
  have hb1 := alloc_below w (.cells #[.slice fa nf fc, .int .i64 mn, .slice aa na ac, .int .i64 fu, .int .i64 ta] 25)
  have hr1 : (w.alloc (.cells #[.slice fa nf fc, .int .i64 mn, .slice aa na ac, .int .i64 fu, .int .i64 ta] 25)).heap[w.heap.size]? = some (.cells [.slice fa nf fc, .int .i64 mn, .slice aa na ac, .int .i64 fu, .int .i64 ta].toArray 25 (0, 0)) := heap_alloc_new w _
  have hJ1 := hJ.below hb1
  have hnf : nf = fs.length := hJ.nf
  have hna : na = args.length := hJ.na
  have HJE := hide (show jobErr fs mn args.length fu ta = (if fs.length = 0 then 14 else if 32 < fs.length then 3 else if (inB fu 1 5000 && inB ta 1 500) = false then 16 else if hasB fs.length mn = false then 14 else if (args.length : Int) = (fs.map Fun.args).getD mn.toNat 0 then 0 else 15) from rfl)
  have HCL := hide (show rCheckL fs mn args.length fu ta = (if jobErr fs mn args.length fu ta = 0 then rCheckFrom fs 0 fs else (0, 0, jobErr fs mn args.length fu ta)) from rfl)
  generalize rCheckL fs mn args.length fu ta = res at HCL ⊢
  generalize jobErr fs mn args.length fu ta = je at HJE HCL
  have p0 := cell_row (i := 0) hr1 rfl
  have p1 := cell_row (i := 1) hr1 rfl
  have p2 := cell_row (i := 2) hr1 rfl
  have p3 := cell_row (i := 3) hr1 rfl
  have p4 := cell_row (i := 4) hr1 rfl
  rw [← hnf, ← hna] at HJE
  have HNF := hide hnf
  have HSS := hide hs
  clear hJ hnf hna hs
  have hfin : ∀ (W : World) (x y z : Int), Below w.heap.size w W → res = (x, y, z) → (Ending.returned (.tuple #[.int .i64 x, .int .i64 y, .int .i64 z]) = Ending.returned (.tuple #[.int .i64 res.1, .int .i64 res.2.1, .int .i64 res.2.2]) ∧ Below w.heap.size w W) := fun W x y z hb e => ⟨by rw [e], hb⟩
  have HFIN := hide hfin
  clear hfin
  go_enter Tryd.func12, Tryd.ntmps12
  go_upto_region 1 with fail
  generalize w.alloc (.cells #[.slice fa nf fc, .int .i64 mn, .slice aa na ac, .int .i64 fu, .int .i64 ta] 25) = w1 at *
  have HB1 := hide hb1
  have HR1 := hide hr1
  have HJ1 := hide hJ1
  clear hb1 hr1 hJ1
  have HERR := hide (fun (e : Int) (he : je = e) (h0 : e ≠ 0) => show res = (0, 0, e) from by rw [HCL.out, if_neg (by rw [he]; exact h0), he])
  by_cases h0 : nf = 0
  · have HR := hide (HERR.out 14 (by rw [HJE.out, if_pos h0]) (by decide))
    subst h0
    clear HCL HJE HERR
    go_wp2_with fail
    refine bodyPost_ret (v := .tuple #[.int .i64 0, .int .i64 0, .int .i64 14]) (by simp [results, Tryd.results12, go_sem]) rfl ?_
    exact HFIN.out _ _ _ _ HB1.out HR.out
  have h0' : ((nf : Int) == 0) = false := by simp; omega
  by_cases h1 : 32 < nf
  · have HR := hide (HERR.out 3 (by rw [HJE.out, if_neg h0, if_pos h1]) (by decide))
    have h1' : (32 : Int) < (nf : Int) := by omega
    clear HCL HJE HERR h0
    go_wp2_with fail
    refine bodyPost_ret (v := .tuple #[.int .i64 0, .int .i64 0, .int .i64 3]) (by simp [results, Tryd.results12, go_sem]) rfl ?_
    exact HFIN.out _ _ _ _ HB1.out HR.out
  have h1' : ¬ (32 : Int) < (nf : Int) := by omega
  by_cases h2 : fu < 1 ∨ 5000 < fu ∨ ta < 1 ∨ 500 < ta
  · have HR := hide (HERR.out 16 (by
      have : (inB fu 1 5000 && inB ta 1 500) = false := by
        cases hq : (inB fu 1 5000 && inB ta 1 500) with
        | false => rfl
        | true => simp [inB] at hq; omega
      rw [HJE.out, if_neg h0, if_neg h1, if_pos this]) (by decide))
    clear HCL HJE HERR h0 h1
    by_cases a1 : fu < 1
    · clear h2
      go_wp2_with fail
      refine bodyPost_ret (v := .tuple #[.int .i64 0, .int .i64 0, .int .i64 16]) (by simp [results, Tryd.results12, go_sem]) rfl ?_
      exact HFIN.out _ _ _ _ HB1.out HR.out
    · by_cases a2 : 5000 < fu
      · clear h2
        go_wp2_with fail
        refine bodyPost_ret (v := .tuple #[.int .i64 0, .int .i64 0, .int .i64 16]) (by simp [results, Tryd.results12, go_sem]) rfl ?_
        exact HFIN.out _ _ _ _ HB1.out HR.out
      · by_cases a3 : ta < 1
        · clear h2
          go_wp2_with fail
          refine bodyPost_ret (v := .tuple #[.int .i64 0, .int .i64 0, .int .i64 16]) (by simp [results, Tryd.results12, go_sem]) rfl ?_
          exact HFIN.out _ _ _ _ HB1.out HR.out
        · have a4 : 500 < ta := by omega
          clear h2
          go_wp2_with fail
          refine bodyPost_ret (v := .tuple #[.int .i64 0, .int .i64 0, .int .i64 16]) (by simp [results, Tryd.results12, go_sem]) rfl ?_
          exact HFIN.out _ _ _ _ HB1.out HR.out
  have a1 : ¬ fu < 1 := fun e => h2 (.inl e)
  have a2 : ¬ 5000 < fu := fun e => h2 (.inr (.inl e))
  have a3 : ¬ ta < 1 := fun e => h2 (.inr (.inr (.inl e)))
  have a4 : ¬ 500 < ta := fun e => h2 (.inr (.inr (.inr e)))
  have HJE2 := hide (show je = (if hasB nf mn = false then 14 else if (na : Int) = (fs.map Fun.args).getD mn.toNat 0 then 0 else 15) from by
    have : (inB fu 1 5000 && inB ta 1 500) = true := by simp [inB]; omega
    rw [HJE.out, if_neg h0, if_neg h1, this]; rfl)
  have HN32 := hide (show 1 ≤ nf ∧ nf ≤ 32 from by omega)
  clear HJE h0 h1 h2
  by_cases b1 : mn < 0
  · have HR := hide (HERR.out 14 (by rw [HJE2.out, if_pos (hasB_lo b1)]) (by decide))
    clear HCL HJE2 HERR
    go_wp2_with fail
    refine bodyPost_ret (v := .tuple #[.int .i64 0, .int .i64 0, .int .i64 14]) (by simp [results, Tryd.results12, go_sem]) rfl ?_
    exact HFIN.out _ _ _ _ HB1.out HR.out
  by_cases b2 : (nf : Int) ≤ mn
  · have HR := hide (HERR.out 14 (by rw [HJE2.out, if_pos (hasB_hi b2)]) (by decide))
    clear HCL HJE2 HERR
    go_wp2_with fail
    refine bodyPost_ret (v := .tuple #[.int .i64 0, .int .i64 0, .int .i64 14]) (by simp [results, Tryd.results12, go_sem]) rfl ?_
    exact HFIN.out _ _ _ _ HB1.out HR.out
  obtain ⟨m, rfl⟩ : ∃ m : Nat, mn = (m : Int) := ⟨mn.toNat, by omega⟩
  have hmf : m < fs.length := by have := HNF.out; omega
  have hmI : (m : Int) < (nf : Int) := by omega
  obtain ⟨fb, off, _, _, hfa, -, y1, -, -, -, -⟩ := HJ1.out.fun_at hmf
  simp only at hfa
  subst hfa
  have HJE3 := hide (show je = (if (na : Int) = fs[m].args then 0 else 15) from by
    rw [HJE2.out, hasB_in (by omega) hmI]
    have : (fs.map Fun.args).getD ((m : Int).toNat) 0 = fs[m].args := by simp [List.getD, hmf]
    rw [this]; rfl)
  generalize fs[m].args = ag at y1 HJE3
  clear HJE2
  by_cases c1 : (na : Int) = ag
  · subst c1
    have HCL2 := hide (show res = rCheckFrom fs 0 fs from by rw [HCL.out, if_pos (by rw [HJE3.out, if_pos rfl])])
    have hna1 : ((na : Int) != (na : Int)) = false := by simp
    have hna2 : ((na : Int) == (na : Int)) = true := by simp
    clear HCL HJE3 HERR
    go_upto_region 9 with fail
    go_big_quiet (fail)
    go_wp2_with fail
    clear p0 p1 p2 p3 p4 y1 b1 b2 hna1 hna2 a1 a2 a3 a4 h0' h1'
    go_loopw [5] (fun i wz => ∃ u : Nat, u ≤ nf ∧ i = .int .i64 (u : Nat) ∧ Hid (Below w1.heap.size w1 wz ∧ rCheckFrom fs 0 fs = rCheckFrom fs u (fs.drop u))) (fun i _ => nf - (intOf i).toNat)
    case atStart => exact ⟨0, Nat.zero_le _, rfl, hide ⟨below_drewN (Below.refl _ _) _, by simp⟩⟩
    case round =>
      obtain ⟨u, hu, rfl, HU⟩ := hrel
      have p0 := cell_row (i := 0) (heap_row HR1.out HU.out.1) rfl
      by_cases hul : u < nf
      · have huI : (u : Int) < (nf : Int) := by omega
        have huf : u < fs.length := by have := HNF.out; omega
        have p1 := cell_row (i := 1) (heap_row HR1.out HU.out.1) rfl
        have p2 := cell_row (i := 2) (heap_row HR1.out HU.out.1) rfl
        have p3 := cell_row (i := 3) (heap_row HR1.out HU.out.1) rfl
        have p4 := cell_row (i := 4) (heap_row HR1.out HU.out.1) rfl
        have C22 := hide (rcheckFunc_any _ _ _ _ _ _ _ _ _ cs fs args u wr (HJ1.out.below HU.out.1) huf (by have := HN32.out; omega) (HSS.out _ (List.getElem_mem _)))
        have HI := hide (show rCheckFrom fs 0 fs = (if (rFuncErr fs u fs[u]).2 = 0 then rCheckFrom fs (u + 1) (fs.drop (u + 1)) else ((u : Int), (rFuncErr fs u fs[u]).1, (rFuncErr fs u fs[u]).2)) from by
          rw [HU.out.2, List.drop_eq_getElem_cons huf, rCheckFrom])
        generalize rFuncErr fs u fs[u] = q at C22 HI
        obtain ⟨q1, q2⟩ := q
        dsimp only at C22 HI
        by_cases hq : q2 = 0
        · subst hq
          have hez : ((0 : Int) != 0) = false := by simp
          go_wp2_with (go_at_call 22; go_must ((with_reducible refine C22.out.mono ?_); rintro e wk ⟨rfl, hbk⟩; have HBk := hide (HU.out.1.trans (hbk.mono HU.out.1.size)); clear hbk))
          have HNX := hide (show Below w1.heap.size w1 wk ∧ rCheckFrom fs 0 fs = rCheckFrom fs (u + 1) (fs.drop (u + 1)) from ⟨HBk.out, by rw [HI.out]; simp⟩)
          clear HI HU HBk C22 p0 p1 p2 p3 p4
          go_roundw
          case rel => exact ⟨u + 1, by omega, by go_num, HNX⟩
          case measure => simp [intOf]; omega
        · have hez : (q2 != 0) = true := by simpa using hq
          have hez2 : (q2 == 0) = false := by simpa using hq
          have HR := hide (show res = ((u : Int), q1, q2) from by rw [HCL2.out, HI.out, if_neg hq])
          go_wp2_with (go_at_call 22; go_must ((with_reducible refine C22.out.mono ?_); rintro e wk ⟨rfl, hbk⟩; have HBk := hide (HU.out.1.trans (hbk.mono HU.out.1.size)); clear hbk))
          refine bodyPost_ret (v := .tuple #[.int .i64 (u : Int), .int .i64 q1, .int .i64 q2]) (by simp [results, Tryd.results12, go_sem]) rfl ?_
          exact HFIN.out _ _ _ _ (HB1.out.trans (HBk.out.mono HB1.out.size)) HR.out
      · obtain rfl : u = nf := by omega
        have huI : ¬ (u : Int) < (u : Int) := by omega
        have HR := hide (show res = (0, 0, 0) from by
          rw [HCL2.out, HU.out.2, List.drop_of_length_le (by have := HNF.out; omega)]; rfl)
        have HBw := hide (HB1.out.trans (HU.out.1.mono HB1.out.size))
        clear HU HCL2
        go_wp2_with fail
        refine bodyPost_ret (v := .tuple #[.int .i64 0, .int .i64 0, .int .i64 0]) (by simp [results, Tryd.results12, go_sem]) rfl ?_
        exact HFIN.out _ _ _ _ HBw.out HR.out
  · have HR := hide (HERR.out 15 (by rw [HJE3.out, if_neg c1]) (by decide))
    have hna1 : ((na : Int) != ag) = true := by simpa using c1
    have hna2 : ((na : Int) == ag) = false := by simpa using c1
    clear HCL HJE3 HERR c1
    go_upto_region 9 with fail
    go_big_quiet (fail)
    go_wp2_with fail
    refine bodyPost_ret (v := .tuple #[.int .i64 0, .int .i64 0, .int .i64 15]) (by simp [results, Tryd.results12, go_sem]) rfl ?_
    exact HFIN.out _ _ _ _ (below_drewN HB1.out _) HR.out
end Go.Proofs.YtfdgkeljnmamiaaDoor
