/- plainCode. -/
import Derived.Test.YtnkfdpnommjlcaaGreatDoorEnv
namespace Go.Proofs.YtnkfdpnommjlcaaGreatDoor
open Go.RowKit Go.ChangeShapes Go.WideShapes Go.ChangeAt Go.Deep

/-- A job's value. -/
structure JV where
  fa : Option Addr
  nf : Nat
  fc : Nat
  main : Int
  aa : Option Addr
  na : Nat
  ac : Nat
  fuel : Int
  tasks : Int
def JV.cells (j : JV) : Array Value := #[.slice j.fa j.nf j.fc, .int .i64 j.main, .slice j.aa j.na j.ac, .int .i64 j.fuel, .int .i64 j.tasks]

def isFuncL (n : Int) (nf : Nat) : Bool := decide (0 ≤ n) && decide (n < (nf : Int))

set_option maxRecDepth 100000 in
set_option maxHeartbeats 400000 in
theorem isFunc_any (n : Int) (j : JV) (w : World) : Calls Tryz.prog 94 #[.int .i64 n, .agg j.cells] w fun e w' => e = .returned (.bool (isFuncL n j.nf)) ∧ Below w.heap.size w w' := by
  obtain ⟨fa, nf, fc, mn, aa, na, ac, fu, ta⟩ := j
  show Calls Tryz.prog 94 #[.int .i64 n, .agg #[.slice fa nf fc, .int .i64 mn, .slice aa na ac, .int .i64 fu, .int .i64 ta]] w fun e w' => e = .returned (.bool (isFuncL n nf)) ∧ Below w.heap.size w w'
  by_cases h0 : 0 ≤ n
  · by_cases h1 : n < (nf : Int)
    · have HO := hide (show isFuncL n nf = true by unfold isFuncL; rw [decide_eq_true h0, decide_eq_true h1]; rfl)
      go_enter Tryz.func94, Tryz.ntmps94
      go_wp2
      go_ret
      exact ⟨by rw [HO.out]; rfl, alloc_below w _⟩
    · have HO := hide (show isFuncL n nf = false by unfold isFuncL; rw [decide_eq_false h1, Bool.and_false])
      go_enter Tryz.func94, Tryz.ntmps94
      go_wp2
      go_ret
      exact ⟨by rw [HO.out]; rfl, alloc_below w _⟩
  · have HO := hide (show isFuncL n nf = false by unfold isFuncL; rw [decide_eq_false h0]; rfl)
    go_enter Tryz.func94, Tryz.ntmps94
    go_wp2
    go_ret
    exact ⟨by rw [HO.out]; rfl, alloc_below w _⟩

/-- Can an instruction be written down? -/
def plainIns (op n : Int) (nf : Nat) : Bool :=
  if (kindOf op).word.toList.isEmpty = true then false
  else if op = 16 then isFuncL n nf
  else (kindOf op).hasN || decide (n = 0)

set_option maxRecDepth 100000 in
set_option maxHeartbeats 1000000 in
theorem plainIns_any (op n : Int) (j : JV) (w : World) (hE : Env w) : Calls Tryz.prog 109 #[.agg #[.int .i64 op, .int .i64 n], .agg j.cells] w fun e w' => e = .returned (.bool (plainIns op n j.nf)) ∧ Below w.heap.size w w' := by
  have hb1 := alloc_below w (.cells #[.int .i64 op, .int .i64 n] 55)
  have hb2 := hb1.trans ((alloc_below (w.alloc (.cells #[.int .i64 op, .int .i64 n] 55)) (.cells j.cells 25)).mono hb1.size)
  have hi0 : ((w.alloc (.cells #[.int .i64 op, .int .i64 n] 55)).alloc (.cells j.cells 25)).heap[w.heap.size]? = some (.cells [.int .i64 op, .int .i64 n].toArray 55 (0, 0)) := by
    rw [Go.heap_alloc_old _ _ (show w.heap.size < _ by simp)]; exact heap_alloc_new w _
  have hj0 : ((w.alloc (.cells #[.int .i64 op, .int .i64 n] 55)).alloc (.cells j.cells 25)).heap[w.heap.size + 1]? = some (.cells j.cells 25 (0, 0)) := by
    have := heap_alloc_new (w.alloc (.cells #[.int .i64 op, .int .i64 n] 55)) (.cells j.cells 25)
    simpa using this
  have N := name_any op _ (hE.below hb2).tab
  have HN := fun w hT => hasN_any op w hT
  have IF := fun w => isFunc_any n j w
  have HP := hide (show plainIns op n j.nf = if (kindOf op).word.toList.isEmpty = true then false else if op = 16 then isFuncL n j.nf else (kindOf op).hasN || decide (n = 0) from rfl)
  have hE2 := hE.below hb2
  obtain ⟨fa, nf, fc, mn, aa, na, ac, fu, ta⟩ := j
  simp only [JV.cells] at *
  generalize (kindOf op).word = wd at N HP
  generalize (kindOf op).hasN = hn at HN HP
  generalize isFuncL n nf = fq at IF HP
  generalize plainIns op n nf = r at HP ⊢
  go_enter Tryz.func109, Tryz.ntmps109
  go_wp2_with (go_at_call 99; refine Hid.out ?_)
  refine Lib.hid ?_
  generalize (w.alloc (.cells #[.int .i64 op, .int .i64 n] 55)).alloc (.cells #[.slice fa nf fc, .int .i64 mn, .slice aa na ac, .int .i64 fu, .int .i64 ta] 25) = w2 at hb2 hi0 hj0 N hE2 ⊢
  refine N.mono ?_
  rintro e w3 ⟨rfl, hb3⟩
  have hi3 : w3.heap[w.heap.size]? = some (.cells [.int .i64 op, .int .i64 n].toArray 55 (0, 0)) := by rw [hb3.block _ (lt_row hi0)]; exact hi0
  have hj3 : w3.heap[w.heap.size + 1]? = some (.cells [.slice fa nf fc, .int .i64 mn, .slice aa na ac, .int .i64 fu, .int .i64 ta].toArray 25 (0, 0)) := by rw [hb3.block _ (lt_row hj0)]; exact hj0
  have i0 := cell_row (i := 0) hi3 rfl
  have i1 := cell_row (i := 1) hi3 rfl
  have j0 := cell_row (i := 0) hj3 rfl
  have j1 := cell_row (i := 1) hj3 rfl
  have j2 := cell_row (i := 2) hj3 rfl
  have j3 := cell_row (i := 3) hj3 rfl
  have j4 := cell_row (i := 4) hj3 rfl
  have hbx := hb2.trans (hb3.mono hb2.size)
  have hE3 := hE2.below hb3
  clear N
  cases hq : wd.toList.isEmpty with
  | true =>
    rw [hq] at HP
    have HO := hide (show r = false from HP.out)
    go_wp2
    go_ret
    exact ⟨by rw [HO.out]; rfl, hbx⟩
  | false =>
    rw [hq] at HP
    by_cases h16 : op = 16
    · have HO := hide (show r = fq by rw [HP.out]; simp [h16])
      have h16' : (op == 16) = true := by simp [h16]
      have H16 := hide h16
      clear h16
      go_wp2_with (go_at_call 94; go_must (refine (IF _).mono ?_; rintro e w4 ⟨rfl, hb4⟩))
      go_ret
      exact ⟨by rw [HO.out]; rfl, hbx.trans (hb4.mono hbx.size)⟩
    · have HO := hide (show r = (hn || decide (n = 0)) by rw [HP.out]; simp [h16])
      cases hn with
      | true =>
        go_wp2_with (go_at_call 100; go_must (refine (HN _ hE3.tab).mono ?_; rintro e w4 ⟨rfl, hb4⟩))
        go_ret
        exact ⟨by rw [HO.out]; rfl, hbx.trans (hb4.mono hbx.size)⟩
      | false =>
        go_wp2_with (go_at_call 100; go_must (refine (HN _ hE3.tab).mono ?_; rintro e w4 ⟨rfl, hb4⟩; have i14 := keep_cell i1 hb4))
        go_ret
        refine ⟨?_, hbx.trans (hb4.mono hbx.size)⟩
        rw [HO.out]
        by_cases hn0 : n = 0 <;> simp [hn0]
end Go.Proofs.YtnkfdpnommjlcaaGreatDoor
namespace Go.Proofs.YtnkfdpnommjlcaaGreatDoor
open Go.RowKit Go.ChangeShapes Go.WideShapes Go.ChangeAt Go.Deep

def plainCode (c : List (Int × Int)) (nf : Nat) : Bool := decide (c.length ≤ 256) && c.all fun x => plainIns x.1 x.2 nf

theorem insV_both {c : List (Int × Int)} {k : Nat} {x : Int × Int} (h : c[k]? = some x) : (insV c)[k * 2]? = some (.int .i64 x.1) ∧ (insV c)[k * 2 + 1]? = some (.int .i64 x.2) := by
  induction c generalizing k with
  | nil => simp at h
  | cons a r ih =>
    cases k with
    | zero => simp at h; subst h; exact ⟨rfl, rfl⟩
    | succ k =>
      have := ih (k := k) (by simpa using h)
      have e1 : ∀ i, (insV (a :: r))[(k + 1) * 2 + i]? = (insV r)[k * 2 + i]? := fun i => by
        show ([Value.int .i64 a.1, Value.int .i64 a.2] ++ insV r)[(k + 1) * 2 + i]? = _
        rw [List.getElem?_append_right (by simp; omega)]
        congr 1
        simp; omega
      exact ⟨(e1 0).trans this.1, (e1 1).trans this.2⟩

theorem code_at {w : World} {a : Option Addr} {c : List (Int × Int)} {k : Nat} (h : Reads w a (insV c)) (hk : k < c.length) : ∃ b off, a = some ⟨b, off, none⟩ ∧ w.cell? ⟨b, off + k * 2, none⟩ = some (.int .i64 c[k].1) ∧ w.cell? ⟨b, off + k * 2 + 1, none⟩ = some (.int .i64 c[k].2) := by
  have hh := insV_both (List.getElem?_eq_getElem hk)
  rcases h with h | ⟨b, off, rfl, h⟩
  · rw [h] at hh; simp at hh
  · exact ⟨b, off, rfl, h _ _ hh.1, by rw [Nat.add_assoc]; exact h _ _ hh.2⟩

set_option maxRecDepth 100000 in
set_option maxHeartbeats 1000000 in
theorem plainCode_any (c : List (Int × Int)) (a : Option Addr) (n cap : Nat) (hn : c.length = n) (hbig : n ≤ 1000000000000) (j : JV) (w : World) (hr : Reads w a (insV c)) (hE : Env w) : Calls Tryz.prog 97 #[.slice a n cap, .agg j.cells] w fun e w' => e = .returned (.bool (plainCode c j.nf)) ∧ Below w.heap.size w w' := by
  have hbA := alloc_below w (.cells j.cells 25)
  have hjA : (w.alloc (.cells j.cells 25)).heap[w.heap.size]? = some (.cells j.cells 25 (0, 0)) := heap_alloc_new w _
  have PI := fun op m w hE => plainIns_any op m j w hE
  have HP := hide (show plainCode c j.nf = (decide (c.length ≤ 256) && c.all fun x => plainIns x.1 x.2 j.nf) from rfl)
  obtain ⟨fa, nf, fc, mn, aa, na, ac, fu, ta⟩ := j
  simp only [JV.cells] at *
  by_cases h256 : n ≤ 256
  · have h256' : ¬ (256 : Int) < (n : Int) := by omega
    go_enter Tryz.func97, Tryz.ntmps97
    go_wp2
    go_loopw [12] (fun i wr => Hid (Below w.heap.size w wr) ∧ wr.heap[w.heap.size]? = some (.cells [.slice fa nf fc, .int .i64 mn, .slice aa na ac, .int .i64 fu, .int .i64 ta].toArray 25 (0, 0)) ∧ ∃ k : Nat, k ≤ n ∧ i = .int .i64 (k : Nat) ∧ Hid (∀ x ∈ c.take k, plainIns x.1 x.2 nf = true)) (fun i _ => n - (intOf i).toNat)
    case atStart => exact ⟨hbA, hjA, 0, Nat.zero_le _, rfl, fun x hx => by simp at hx⟩
    case round =>
      obtain ⟨hbw, hj, k, hk, rfl, hh⟩ := hrel
      by_cases hlt : k < n
      · have hkc : k < c.length := by omega
        obtain ⟨b, off, rfl, y0, y1⟩ := code_at (hr.below hbw.out) hkc
        have hkx := List.getElem?_eq_getElem hkc
        generalize c[k] = x at y0 y1 hkx
        have HX := hide hkx
        clear hkx
        have j0 := cell_row (i := 0) hj rfl
        have j1 := cell_row (i := 1) hj rfl
        have j2 := cell_row (i := 2) hj rfl
        have j3 := cell_row (i := 3) hj rfl
        have j4 := cell_row (i := 4) hj rfl
        have hjl := lt_row hj
        have hyl := cell_some_lt y0
        have hlt' : (k : Int) < (n : Int) := by omega
        have hbC := alloc_below wr (.cells #[.int .i64 x.1, .int .i64 x.2] 55)
        have C := PI x.1 x.2 (wr.alloc (.cells #[.int .i64 x.1, .int .i64 x.2] 55)) ((hE.below hbw.out).below hbC)
        have HK := hide hj
        clear hj
        cases hq : plainIns x.1 x.2 nf with
        | true =>
          rw [hq] at C
          have HO := hide (show ∀ y ∈ c.take (k + 1), plainIns y.1 y.2 nf = true from fun y hy => by
            rw [List.take_add_one, HX.out] at hy
            rcases List.mem_append.1 hy with h | h
            · exact hh.out y h
            · simp only [Option.toList_some, List.mem_singleton] at h
              rw [h, hq])
          go_wp2_with (go_at_call 109; go_must (refine C.mono ?_; rintro e w2 ⟨rfl, hb2⟩; refine Hid.out ?_))
          refine Lib.hid ?_
          have hbd := hbC.trans (hb2.mono hbC.size)
          have hsw := hbw.out.size
          clear C
          go_wp2
          go_roundw
          case rel => exact ⟨hbw.out.trans (hbd.mono hsw), by rw [hbd.block _ (lt_row HK.out)]; exact HK.out, k + 1, by omega, by go_num, HO⟩
          case measure => simp [intOf]; omega
        | false =>
          rw [hq] at C
          have HO := hide (show plainCode c nf = false from by
            rw [HP.out]
            have : (c.all fun x => plainIns x.1 x.2 nf) = false := by
              rw [List.all_eq_false]
              exact ⟨x, List.mem_of_getElem? HX.out, by simp [hq]⟩
            rw [this, Bool.and_false])
          go_wp2_with (go_at_call 109; go_must (refine C.mono ?_; rintro e w2 ⟨rfl, hb2⟩; refine Hid.out ?_))
          refine Lib.hid ?_
          have hbd := hbC.trans (hb2.mono hbC.size)
          have hsw := hbw.out.size
          clear C
          go_wp2
          go_ret
          exact ⟨by rw [HO.out]; rfl, hbw.out.trans (hbd.mono hsw)⟩
      · have hkn : k = n := by omega
        have HO := hide (show plainCode c nf = true from by
          rw [HP.out, decide_eq_true (by omega : c.length ≤ 256), Bool.true_and, List.all_eq_true]
          intro y hy
          refine hh.out y ?_
          rw [List.take_of_length_le (by omega)]
          exact hy)
        have hlt' : ¬ (k : Int) < (n : Int) := by omega
        clear hkn
        go_wp2
        go_ret
        exact ⟨by rw [HO.out]; rfl, hbw.out⟩
  · have h256' : (256 : Int) < (n : Int) := by omega
    have HO := hide (show plainCode c nf = false from by rw [HP.out, decide_eq_false (by omega : ¬ c.length ≤ 256)]; rfl)
    go_enter Tryz.func97, Tryz.ntmps97
    go_wp2
    go_ret
    exact ⟨by rw [HO.out]; rfl, hbA⟩
end Go.Proofs.YtnkfdpnommjlcaaGreatDoor
