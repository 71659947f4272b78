/- isFunc, plainIns, plainCode. -/
import Derived.Test.YtfdgkeljnmamiaaDoorEnv
namespace Go.Proofs.YtfdgkeljnmamiaaDoor
open Go.RowKit Go.ChangeShapes Go.WideShapes Go.ChangeAt Go.Deep

/-- A job's value. -/
structure JV where
  fa : Option Addr
  nf : Nat
  fc : Nat
  main : Int
  aa : Option Addr
  na : Nat
  ac : Nat
  fuel : Int
  tasks : Int
def JV.cells (j : JV) : Array Value := #[.slice j.fa j.nf j.fc, .int .i64 j.main, .slice j.aa j.na j.ac, .int .i64 j.fuel, .int .i64 j.tasks]

def isFuncL (n : Int) (nf : Nat) : Bool := decide (0 ≤ n) && decide (n < (nf : Int))

set_option maxRecDepth 100000 in
set_option maxHeartbeats 400000 in
theorem isFunc_any (n : Int) (j : JV) (w : World) : Calls Tryd.prog 55 #[.int .i64 n, .agg j.cells] w fun e w' => e = .returned (.bool (isFuncL n j.nf)) ∧ Below w.heap.size w w' := by
  obtain ⟨fa, nf, fc, mn, aa, na, ac, fu, ta⟩ := j
  show Calls Tryd.prog 55 #[.int .i64 n, .agg #[.slice fa nf fc, .int .i64 mn, .slice aa na ac, .int .i64 fu, .int .i64 ta]] w fun e w' => e = .returned (.bool (isFuncL n nf)) ∧ Below w.heap.size w w'
  by_cases h0 : 0 ≤ n
  · by_cases h1 : n < (nf : Int)
    · have HO := hide (show isFuncL n nf = true by unfold isFuncL; rw [decide_eq_true h0, decide_eq_true h1]; rfl)
      go_enter Tryd.func55, Tryd.ntmps55
      go_wp2
      go_ret
      exact ⟨by rw [HO.out]; rfl, alloc_below w _⟩
    · have HO := hide (show isFuncL n nf = false by unfold isFuncL; rw [decide_eq_false h1, Bool.and_false])
      go_enter Tryd.func55, Tryd.ntmps55
      go_wp2
      go_ret
      exact ⟨by rw [HO.out]; rfl, alloc_below w _⟩
  · have HO := hide (show isFuncL n nf = false by unfold isFuncL; rw [decide_eq_false h0]; rfl)
    go_enter Tryd.func55, Tryd.ntmps55
    go_wp2
    go_ret
    exact ⟨by rw [HO.out]; rfl, alloc_below w _⟩

/-- Can an instruction be written down? -/
def plainIns (op n : Int) (nf : Nat) : Bool :=
  if (kindOf op).word.toList.isEmpty = true then false
  else if op = 16 then isFuncL n nf
  else (kindOf op).hasN || decide (n = 0)

set_option maxRecDepth 100000 in
set_option maxHeartbeats 1000000 in
theorem plainIns_any (op n : Int) (j : JV) (w : World) (hE : Env w) : Calls Tryd.prog 67 #[.agg #[.int .i64 op, .int .i64 n], .agg j.cells] w fun e w' => e = .returned (.bool (plainIns op n j.nf)) ∧ Below w.heap.size w w' := by
  have hb1 := alloc_below w (.cells #[.int .i64 op, .int .i64 n] 39)
  have hb2 := hb1.trans ((alloc_below (w.alloc (.cells #[.int .i64 op, .int .i64 n] 39)) (.cells j.cells 25)).mono hb1.size)
  have hi0 : ((w.alloc (.cells #[.int .i64 op, .int .i64 n] 39)).alloc (.cells j.cells 25)).heap[w.heap.size]? = some (.cells [.int .i64 op, .int .i64 n].toArray 39 (0, 0)) := by
    rw [Go.heap_alloc_old _ _ (show w.heap.size < _ by simp)]; exact heap_alloc_new w _
  have hj0 : ((w.alloc (.cells #[.int .i64 op, .int .i64 n] 39)).alloc (.cells j.cells 25)).heap[w.heap.size + 1]? = some (.cells j.cells 25 (0, 0)) := by
    have := heap_alloc_new (w.alloc (.cells #[.int .i64 op, .int .i64 n] 39)) (.cells j.cells 25)
    simpa using this
  have N := name_any op _ (hE.below hb2).tab
  have HN := fun w hT => hasN_any op w hT
  have IF := fun w => isFunc_any n j w
  have HP := hide (show plainIns op n j.nf = if (kindOf op).word.toList.isEmpty = true then false else if op = 16 then isFuncL n j.nf else (kindOf op).hasN || decide (n = 0) from rfl)
  have hE2 := hE.below hb2
  obtain ⟨fa, nf, fc, mn, aa, na, ac, fu, ta⟩ := j
  simp only [JV.cells] at *
  generalize (kindOf op).word = wd at N HP
  generalize (kindOf op).hasN = hn at HN HP
  generalize isFuncL n nf = fq at IF HP
  generalize plainIns op n nf = r at HP ⊢
  go_enter Tryd.func67, Tryd.ntmps67
  go_wp2_with (go_at_call 60; refine Hid.out ?_)
  refine Lib.hid ?_
  generalize (w.alloc (.cells #[.int .i64 op, .int .i64 n] 39)).alloc (.cells #[.slice fa nf fc, .int .i64 mn, .slice aa na ac, .int .i64 fu, .int .i64 ta] 25) = w2 at hb2 hi0 hj0 N hE2 ⊢
  refine N.mono ?_
  rintro e w3 ⟨rfl, hb3⟩
  have hi3 : w3.heap[w.heap.size]? = some (.cells [.int .i64 op, .int .i64 n].toArray 39 (0, 0)) := by rw [hb3.block _ (lt_row hi0)]; exact hi0
  have hj3 : w3.heap[w.heap.size + 1]? = some (.cells [.slice fa nf fc, .int .i64 mn, .slice aa na ac, .int .i64 fu, .int .i64 ta].toArray 25 (0, 0)) := by rw [hb3.block _ (lt_row hj0)]; exact hj0
  have i0 := cell_row (i := 0) hi3 rfl
  have i1 := cell_row (i := 1) hi3 rfl
  have j0 := cell_row (i := 0) hj3 rfl
  have j1 := cell_row (i := 1) hj3 rfl
  have j2 := cell_row (i := 2) hj3 rfl
  have j3 := cell_row (i := 3) hj3 rfl
  have j4 := cell_row (i := 4) hj3 rfl
  have hbx := hb2.trans (hb3.mono hb2.size)
  have hE3 := hE2.below hb3
  clear N
  cases hq : wd.toList.isEmpty with
  | true =>
    rw [hq] at HP
    have HO := hide (show r = false from HP.out)
    go_wp2
    go_ret
    exact ⟨by rw [HO.out]; rfl, hbx⟩
  | false =>
    rw [hq] at HP
    by_cases h16 : op = 16
    · have HO := hide (show r = fq by rw [HP.out]; simp [h16])
      have h16' : (op == 16) = true := by simp [h16]
      have H16 := hide h16
      clear h16
      go_wp2_with (go_at_call 55; go_must (refine (IF _).mono ?_; rintro e w4 ⟨rfl, hb4⟩))
      go_ret
      exact ⟨by rw [HO.out]; rfl, hbx.trans (hb4.mono hbx.size)⟩
    · have HO := hide (show r = (hn || decide (n = 0)) by rw [HP.out]; simp [h16])
      cases hn with
      | true =>
        go_wp2_with (go_at_call 61; go_must (refine (HN _ hE3.tab).mono ?_; rintro e w4 ⟨rfl, hb4⟩))
        go_ret
        exact ⟨by rw [HO.out]; rfl, hbx.trans (hb4.mono hbx.size)⟩
      | false =>
        go_wp2_with (go_at_call 61; go_must (refine (HN _ hE3.tab).mono ?_; rintro e w4 ⟨rfl, hb4⟩; have i14 := keep_cell i1 hb4))
        go_ret
        refine ⟨?_, hbx.trans (hb4.mono hbx.size)⟩
        rw [HO.out]
        by_cases hn0 : n = 0 <;> simp [hn0]
end Go.Proofs.YtfdgkeljnmamiaaDoor
