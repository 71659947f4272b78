/- SameInts, SameJob (of two jobs that are one). -/
import Derived.Test.YtfnloomcianbiaaGreatDoorPlain
import Derived.Deep.QuietTactic
import Derived.BigQuiet
namespace Go.Proofs.YtfnloomcianbiaaGreatDoor
open Go.RowKit Go.ChangeShapes Go.WideShapes Go.ChangeAt Go.Deep

theorem ret_b {a b : Bool} (h : a = b) : Ending.returned (.bool a) = .returned (.bool b) := by rw [h]
theorem below_drewN {B : Nat} {a w : World} (h : Below B a w) (n : Nat) : Below B a (w.drewN n) := by
  induction n with
  | zero => exact h
  | succ n ih => exact ih.drew

set_option maxRecDepth 100000 in
set_option maxHeartbeats 1000000 in
theorem same_any (a1 a2 : Option Addr) (c1 c2 l1 l2 : Nat) (x y : List Int) (w : World) (h1 : x.length = l1) (h2 : y.length = l2) (r1 : Reads w a1 (iV x)) (r2 : Reads w a2 (iV y)) (hm : l1 ≤ 9223372036854775807) (hm2 : l2 ≤ 9223372036854775807) :
    Calls Tryz.prog 24 #[.slice a1 l1 c1, .slice a2 l2 c2] w fun e w' => e = .returned (.bool (decide (x = y))) ∧ Below w.heap.size w w' := by
  by_cases hl : l1 = l2
  · subst hl
    go_enter Tryz.func24, Tryz.ntmps24
    go_wp2
    go_loopw [5] (fun i wr => Below w.heap.size w wr ∧ ∃ k : Nat, k ≤ l1 ∧ i = .int .i64 (k : Nat) ∧ Hid (x.take k = y.take k)) (fun i _ => l1 - (intOf i).toNat)
    case atStart => exact ⟨Below.refl _ _, 0, Nat.zero_le _, rfl, rfl⟩
    case round =>
      obtain ⟨hbw, k, hk, rfl, ht⟩ := hrel
      by_cases hlt : k < l1
      · obtain ⟨b1, o1, rfl, q1⟩ := reads_at (r1.below hbw) (show k < x.length by omega)
        obtain ⟨b2, o2, rfl, q2⟩ := reads_at (r2.below hbw) (show k < y.length by omega)
        have d1 := q1.out k (.int .i64 (x[k]'(by omega))) (by simp [iV, show k < x.length by omega])
        have d2 := q2.out k (.int .i64 (y[k]'(by omega))) (by simp [iV, show k < y.length by omega])
        have e1 := hide (List.take_succ_eq_append_getElem (show k < x.length by omega))
        have e2 := hide (List.take_succ_eq_append_getElem (show k < y.length by omega))
        clear q1 q2
        generalize x[k]'(by omega) = u1 at d1 e1
        generalize y[k]'(by omega) = u2 at d2 e2
        have hki : (k : Int) < (l1 : Int) := by omega
        by_cases hu : u1 = u2
        · have hd : (u1 != u2) = false := by simp [hu]
          have HT := hide (show x.take (k + 1) = y.take (k + 1) by rw [e1.out, e2.out, ht.out, hu])
          clear hu e1 e2 ht
          go_wp2
          go_quiet (fail)
          go_wp2
          go_roundw
          case rel => exact ⟨below_drewN hbw _, k + 1, by omega, by go_num, HT⟩
          case measure => simp [intOf]; omega
        · have hd : (u1 != u2) = true := by simp [hu]
          have HN := hide (show ¬ x = y from fun h => hu (by
            have := e1.out
            rw [h, e2.out] at this
            simpa using (List.append_inj' this rfl).2.symm))
          clear hu e1 e2 ht
          go_wp2
          go_quiet (fail)
          go_wp2
          go_ret
          exact ⟨ret_b (by simp [HN.out]), below_drewN hbw _⟩
      · have hx : x = y := by
          have := ht.out
          rwa [List.take_of_length_le (by omega), List.take_of_length_le (by omega)] at this
        have HX := hide hx
        clear hx
        go_wp2
        go_ret
        exact ⟨ret_b (by simp [HX.out]), hbw⟩
  · have e : decide (x = y) = false := decide_eq_false (fun h => hl (by rw [← h1, ← h2, h]))
    rw [e]
    go_enter Tryz.func24, Tryz.ntmps24
    go_wp2
    go_ret
    exact ⟨rfl, Below.refl _ _⟩



theorem frs_row {fs : List Fun} {cs : List Value} (hl : cs.length = fs.length) {k : Nat} (hk : k < fs.length) : (frs fs cs)[k]! = Fun.row fs[k] (cs[k]'(by rw [hl]; exact hk)) := by
  rw [getElem!_pos _ k (by simp [frs, hl]; exact hk)]
  simp [frs]

/-- A function's four cells. -/
theorem JobR.cell {w : World} {j : JV} {cs : List Value} {fs : List Fun} {args : List Int} (h : JobR w j cs fs args) {k : Nat} (hk : k < fs.length) : ∃ b off ca cc, j.fa = some ⟨b, off, none⟩ ∧ w.cell? ⟨b, off + k * 4, none⟩ = some (.string fs[k].name) ∧ w.cell? ⟨b, off + k * 4 + 1, none⟩ = some (.int .i64 fs[k].args) ∧ w.cell? ⟨b, off + k * 4 + 2, none⟩ = some (.int .i64 fs[k].locals) ∧ w.cell? ⟨b, off + k * 4 + 3, none⟩ = some (.slice ca fs[k].code.length cc) ∧ Reads w ca (insV fs[k].code) := by
  have hlf : (frs fs cs).length = fs.length := by simp [frs, h.len]
  rcases h.fns with ⟨_, h0⟩ | ⟨b, off, h1, h2, hcl⟩
  · rw [h0] at hlf
    simp at hlf
    omega
  · obtain ⟨ca, cc, hcv, hcr⟩ := h.codes k (by rw [h.len]; exact hk) hk
    have hr := frs_row h.len hk
    have y0 := hcl k (by omega) 0 _ (by rw [hr]; rfl)
    have y1 := hcl k (by omega) 1 _ (by rw [hr]; rfl)
    have y2 := hcl k (by omega) 2 _ (by rw [hr]; rfl)
    have y3 := hcl k (by omega) 3 _ (by rw [hr]; rfl)
    simp only [Nat.add_zero, Fun.row] at y0 y1 y2 y3
    rw [hcv] at y3
    exact ⟨b, off, ca, cc, h1, y0, y1, y2, y3, hcr⟩

set_option maxRecDepth 100000 in
set_option maxHeartbeats 2000000 in
theorem sameJob_any (i j : JV) (cs ds : List Value) (fs : List Fun) (args : List Int) (w : World) (h1 : JobR w i cs fs args) (h2 : JobR w j ds fs args) (e1 : i.main = j.main) (e2 : i.fuel = j.fuel) (e3 : i.tasks = j.tasks) (hf : fs.length ≤ 1000000000) (ha : args.length ≤ 1000000000) (hc : ∀ f ∈ fs, f.code.length ≤ 1000000000) :
    Calls Tryz.prog 12 #[.agg i.cells, .agg j.cells] w fun e w' => e = .returned (.bool true) ∧ Below w.heap.size w w' := by
  have hb1 := alloc_below w (.cells i.cells 25)
  have hb2 := hb1.trans ((alloc_below (w.alloc (.cells i.cells 25)) (.cells j.cells 25)).mono hb1.size)
  have hi0 : ((w.alloc (.cells i.cells 25)).alloc (.cells j.cells 25)).heap[w.heap.size]? = some (.cells i.cells 25 (0, 0)) := by
    rw [Go.heap_alloc_old _ _ (show w.heap.size < _ by simp)]; exact heap_alloc_new w _
  have hj0 : ((w.alloc (.cells i.cells 25)).alloc (.cells j.cells 25)).heap[w.heap.size + 1]? = some (.cells j.cells 25 (0, 0)) := by
    have := heap_alloc_new (w.alloc (.cells i.cells 25)) (.cells j.cells 25)
    simpa using this
  have S := same_any i.aa j.aa i.ac j.ac args.length args.length args args ((w.alloc (.cells i.cells 25)).alloc (.cells j.cells 25)) rfl rfl (h1.args.below hb2) (h2.args.below hb2) (by omega) (by omega)
  rw [decide_eq_true (rfl : args = args)] at S
  have n1 := h1.nf
  have n2 := h2.nf
  have m1 := h1.na
  have m2 := h2.na
  obtain ⟨fa, nf, fc, mn, aa, na, ac, fu, ta⟩ := i
  obtain ⟨fa', nf', fc', mn', aa', na', ac', fu', ta'⟩ := j
  simp only at e1 e2 e3 n1 n2 m1 m2
  subst e1 e2 e3
  have e4 : nf = nf' := by omega
  have e5 : na = na' := by omega
  subst e4 e5
  simp only [JV.cells] at *
  rw [← m1] at S
  have HN := hide n1
  have HM := hide m1
  clear n1 n2 m1 m2
  go_enter Tryz.func12, Tryz.ntmps12
  go_wp2_with (go_at_call 24; go_must (refine S.mono ?_; rintro e w2 ⟨rfl, hb3⟩; refine Hid.out ?_))
  refine Lib.hid ?_
  have hbx := hb2.trans (hb3.mono hb2.size)
  have hi3 : w2.heap[w.heap.size]? = some (.cells [.slice fa nf fc, .int .i64 mn, .slice aa na ac, .int .i64 fu, .int .i64 ta].toArray 25 (0, 0)) := (hb3.block _ (lt_row hi0)).trans hi0
  have hj3 : w2.heap[w.heap.size + 1]? = some (.cells [.slice fa' nf fc', .int .i64 mn, .slice aa' na ac', .int .i64 fu, .int .i64 ta].toArray 25 (0, 0)) := (hb3.block _ (lt_row hj0)).trans hj0
  clear S hb3 hi0 hj0 hb1 hb2
  go_wp2
  go_loopw [5] (fun i wr => ∃ k : Nat, k ≤ nf ∧ i = .int .i64 (k : Nat) ∧ Hid (Below w.heap.size w wr) ∧ wr.heap[w.heap.size]? = some (.cells [.slice fa nf fc, .int .i64 mn, .slice aa na ac, .int .i64 fu, .int .i64 ta].toArray 25 (0, 0)) ∧ wr.heap[w.heap.size + 1]? = some (.cells [.slice fa' nf fc', .int .i64 mn, .slice aa' na ac', .int .i64 fu, .int .i64 ta].toArray 25 (0, 0))) (fun i _ => nf - (intOf i).toNat)
  case atStart => exact ⟨0, Nat.zero_le _, rfl, hbx, hi3, hj3⟩
  case round =>
    clear hi3 hj3 hbx
    obtain ⟨k, hk, rfl, hbw, hi3, hj3⟩ := hrel
    have i0 := cell_row (i := 0) hi3 rfl
    have j0 := cell_row (i := 0) hj3 rfl
    have hil := lt_row hi3
    have hjl := lt_row hj3
    by_cases hlt : k < nf
    · have hkf : k < fs.length := by have := HN.out; omega
      obtain ⟨b, off, ca, cc, p1, y0, y1, y2, y3, yr⟩ := (h1.below hbw.out).cell hkf
      obtain ⟨b', off', ca', cc', p2, z0, z1, z2, z3, zr⟩ := (h2.below hbw.out).cell hkf
      simp only at p1 p2
      subst p1 p2
      have hfm := hc fs[k] (List.getElem_mem _)
      generalize fs[k] = f at y0 y1 y2 y3 yr z0 z1 z2 z3 zr hfm
      obtain ⟨cn, hcn⟩ : ∃ cn, cn = f.code.length := ⟨_, rfl⟩
      rw [← hcn] at y3 z3 hfm
      have HCN := hide hcn
      have HY := hide yr
      have HZ := hide zr
      clear hcn yr zr
      have hyl := cell_some_lt y0
      have hzl := cell_some_lt z0
      have hlt' : (k : Int) < (nf : Int) := by omega
      have HI3 := hide hi3
      have HJ3 := hide hj3
      have hbF := alloc_below wr (.cells #[.string f.name, .int .i64 f.args, .int .i64 f.locals, .slice ca cn cc] 45)
      have hbG := hbF.trans ((alloc_below (wr.alloc (.cells #[.string f.name, .int .i64 f.args, .int .i64 f.locals, .slice ca cn cc] 45)) (.cells #[.string f.name, .int .i64 f.args, .int .i64 f.locals, .slice ca' cn cc'] 45)).mono hbF.size)
      have hF : ((wr.alloc (.cells #[.string f.name, .int .i64 f.args, .int .i64 f.locals, .slice ca cn cc] 45)).alloc (.cells #[.string f.name, .int .i64 f.args, .int .i64 f.locals, .slice ca' cn cc'] 45)).heap[wr.heap.size]? = some (.cells [.string f.name, .int .i64 f.args, .int .i64 f.locals, .slice ca cn cc].toArray 45 (0, 0)) := by
        rw [Go.heap_alloc_old _ _ (show wr.heap.size < _ by simp)]; exact heap_alloc_new wr _
      have hG : ((wr.alloc (.cells #[.string f.name, .int .i64 f.args, .int .i64 f.locals, .slice ca cn cc] 45)).alloc (.cells #[.string f.name, .int .i64 f.args, .int .i64 f.locals, .slice ca' cn cc'] 45)).heap[wr.heap.size + 1]? = some (.cells [.string f.name, .int .i64 f.args, .int .i64 f.locals, .slice ca' cn cc'].toArray 45 (0, 0)) := by
        have := heap_alloc_new (wr.alloc (.cells #[.string f.name, .int .i64 f.args, .int .i64 f.locals, .slice ca cn cc] 45)) (.cells #[.string f.name, .int .i64 f.args, .int .i64 f.locals, .slice ca' cn cc'] 45)
        simpa using this
      clear hi3 hj3
      go_wp2
      go_loopw [8] (fun i wq => ∃ kk : Nat, kk ≤ cn ∧ i = .int .i64 (kk : Nat) ∧ Hid (Below ((wr.alloc (.cells #[.string f.name, .int .i64 f.args, .int .i64 f.locals, .slice ca cn cc] 45)).alloc (.cells #[.string f.name, .int .i64 f.args, .int .i64 f.locals, .slice ca' cn cc'] 45)).heap.size ((wr.alloc (.cells #[.string f.name, .int .i64 f.args, .int .i64 f.locals, .slice ca cn cc] 45)).alloc (.cells #[.string f.name, .int .i64 f.args, .int .i64 f.locals, .slice ca' cn cc'] 45)) wq)) (fun i _ => cn - (intOf i).toNat)
      case atStart => exact ⟨0, Nat.zero_le _, rfl, Below.refl _ _⟩
      case round =>
        obtain ⟨kk, hkk, rfl, hbq⟩ := hrel
        have hF2 := (hbq.out.block _ (lt_row hF)).trans hF
        have hG2 := (hbq.out.block _ (lt_row hG)).trans hG
        have c3 := cell_row (i := 3) hF2 rfl
        have d3 := cell_row (i := 3) hG2 rfl
        have hbo := hbG.trans (hbq.out.mono hbG.size)
        by_cases hlq : kk < cn
        · have hkc : kk < f.code.length := by have := HCN.out; omega
          obtain ⟨cb, co, rfl, u0, u1⟩ := code_at (HY.out.below hbo) hkc
          obtain ⟨cb', co', rfl, v0, v1⟩ := code_at (HZ.out.below hbo) hkc
          generalize f.code[kk] = x at u0 u1 v0 v1
          have hlq' : (kk : Int) < (cn : Int) := by omega
          have HQ := hide hbq
          have HBO := hide hbo
          clear hF2 hG2 hbq hbo hF hG hbF hbG
          go_wp2
          go_quiet (fail)
          go_wp2
          go_roundw
          case rel => exact ⟨kk + 1, by omega, by go_num, below_drewN HQ.out _⟩
          case measure => simp [intOf]; omega
        · have hlq' : ¬ (kk : Int) < (cn : Int) := by omega
          have HW := hide (hbw.out.trans (hbo.mono hbw.out.size))
          have HI4 := hide ((hbo.block _ (lt_row HI3.out)).trans HI3.out)
          have HJ4 := hide ((hbo.block _ (lt_row HJ3.out)).trans HJ3.out)
          go_wp2
          go_roundw
          case rel => exact ⟨k + 1, by omega, by go_num, HW.out, HI4.out, HJ4.out⟩
          case measure => simp [intOf]; omega
    · have hlt' : ¬ (k : Int) < (nf : Int) := by omega
      go_wp2
      go_ret
      exact ⟨rfl, hbw.out⟩
end Go.Proofs.YtfnloomcianbiaaGreatDoor
