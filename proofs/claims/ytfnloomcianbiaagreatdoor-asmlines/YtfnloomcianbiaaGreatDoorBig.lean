/- Big: what a job that is not too much has. -/
import Derived.Test.YtfnloomcianbiaaGreatDoorSame
namespace Go.Proofs.YtfnloomcianbiaaGreatDoor
open Go.RowKit Go.ChangeShapes Go.WideShapes Go.ChangeAt Go.Deep

def bigOf (f : Fun) : Nat := f.code.length + f.name.size / 8
def bigN (fs : List Fun) : Nat := (fs.map bigOf).sum
theorem bigN_take {fs : List Fun} {k : Nat} {f : Fun} (h : fs[k]? = some f) : bigN (fs.take (k + 1)) = bigN (fs.take k) + bigOf f := by
  simp [bigN, List.take_add_one, h]
theorem bigN_le {fs : List Fun} {f : Fun} (h : f ∈ fs) : bigOf f ≤ bigN fs := by
  induction fs with
  | nil => cases h
  | cons g r ih =>
    have e : bigN (g :: r) = bigOf g + bigN r := by simp [bigN]
    rcases List.mem_cons.1 h with rfl | h
    · omega
    · have := ih h; omega

/-- No job that can be written. -/
def Modest (fs : List Fun) : Prop := ∀ f ∈ fs, f.code.length ≤ 1000000 ∧ f.name.size ≤ 1000000
theorem bigN_small {fs : List Fun} (h : Modest fs) : ∀ k, bigN (fs.take k) ≤ 2000000 * k
  | 0 => by simp [bigN]
  | k + 1 => by
    have ih := bigN_small h k
    cases hf : fs[k]? with
    | none =>
      have e : fs.take (k + 1) = fs.take k := by simp [List.take_add_one, hf]
      rw [e]; omega
    | some f =>
      rw [bigN_take hf]
      have := h f (List.mem_of_getElem? hf)
      unfold bigOf
      omega

def BigPost (fs : List Fun) (w : World) (e : Ending) (w' : World) : Prop := ∃ bg, e = .returned (.bool bg) ∧ Below w.heap.size w w' ∧ Hid (bg = false → Modest fs → bigN fs ≤ 2000)
theorem wrap_in {x : Int} (h : -9223372036854775808 ≤ x ∧ x ≤ 9223372036854775807) : wrap64 x = x := (IntWalk.i64_left x).symm.trans (IntWalk.i64_in x h)

set_option maxRecDepth 100000 in
set_option maxHeartbeats 2000000 in
theorem big_any (j : JV) (cs : List Value) (fs : List Fun) (args : List Int) (w : World) (hJ : JobR w j cs fs args) (hnfM : fs.length ≤ 9223372036854775807) (hnaM : args.length ≤ 9223372036854775807) (hc : ∀ f ∈ fs, f.code.length ≤ 9223372036854775807 ∧ f.name.size ≤ 9223372036854775807) :
    Calls Tryz.prog 5 #[.agg j.cells] w (BigPost fs w) := by
  have hbA := alloc_below w (.cells j.cells 25)
  have hjA : (w.alloc (.cells j.cells 25)).heap[w.heap.size]? = some (.cells j.cells 25 (0, 0)) := heap_alloc_new w _
  have hnf := hJ.nf
  have hna := hJ.na
  obtain ⟨fa, nf, fc, mn, aa, na, ac, fu, ta⟩ := j
  simp only [JV.cells] at *
  have HNF := hide hnf
  have HNA := hide hna
  rw [← hnf] at hnfM
  rw [← hna] at hnaM
  clear hnf hna
  have j0 := cell_row (i := 0) hjA rfl
  have j2 := cell_row (i := 2) hjA rfl
  have HBA := hide hbA
  have HJA := hide hjA
  clear hbA hjA
  by_cases h60 : nf ≤ 60
  · have q1 : ¬ (60 : Int) < (nf : Int) := by omega
    by_cases h100 : na ≤ 100
    · have q2 : ¬ (100 : Int) < (na : Int) := by omega
      clear h100
      have H60 := hide h60
      clear h60
      go_enter Tryz.func5, Tryz.ntmps5
      go_wp2
      clear q1 q2 j0 j2
      go_loopw [3, 4] (fun s i wr => Hid (Below w.heap.size w wr) ∧ wr.heap[w.heap.size]? = some (.cells [.slice fa nf fc, .int .i64 mn, .slice aa na ac, .int .i64 fu, .int .i64 ta].toArray 25 (0, 0)) ∧ ∃ (k : Nat) (v : Int), k ≤ nf ∧ i = .int .i64 (k : Nat) ∧ s = .int .i64 v ∧ Hid (Modest fs → v = (bigN (fs.take k) : Nat))) (fun _ i _ => nf - (intOf i).toNat)
      case atStart => exact ⟨HBA, HJA.out, 0, 0, Nat.zero_le _, rfl, rfl, fun _ => by simp [bigN]⟩
      case round =>
        clear HBA HJA
        obtain ⟨hbw, hj, k, v, hk, rfl, rfl, hm⟩ := hrel
        have j0 := cell_row (i := 0) hj rfl
        have hjl := lt_row hj
        by_cases hlt : k < nf
        · have hlt' : (k : Int) < (nf : Int) := by omega
          by_cases h2 : v ≤ 2000
          · have hkf : k < fs.length := by have := HNF.out; omega
            obtain ⟨b, off, ca, cc, p1, y0, -, -, y3, -⟩ := (hJ.below hbw.out).cell hkf
            simp only at p1
            subst p1
            have hfm := hc fs[k] (List.getElem_mem _)
            have hkx := List.getElem?_eq_getElem hkf
            have hmem : fs[k] ∈ fs := List.getElem_mem _
            generalize fs[k] = f at y0 y3 hfm hkx hmem
            have HB := hide (fun hM : Modest fs => (show (0 : Int) ≤ v ∧ (v + (f.code.length : Nat) + (f.name.size / 8 : Nat) : Int) = (bigN (fs.take (k + 1)) : Nat) ∧ f.code.length ≤ 1000000 ∧ f.name.size ≤ 1000000 by
              have e1 := hm.out hM
              have e2 := hM f hmem
              have e3 := bigN_take hkx
              unfold bigOf at e3
              omega))
            have hyl := cell_some_lt y0
            have HW := hide hbw.out
            have HJ3 := hide hj
            obtain ⟨cn, hcn⟩ : ∃ cn, cn = f.code.length := ⟨_, rfl⟩
            rw [← hcn] at y3 HB hfm
            clear hbw hj hkx hcn hm hmem
            go_wp2
            go_quiet (fail)
            have HD := hide (show Modest fs → wrap64 (wrap64 (v + (cn : Int)) + (f.name.size : Int) / 8) = (bigN (fs.take (k + 1)) : Nat) from fun hM => by
              obtain ⟨e0, e1, e2, e3⟩ := HB.out hM
              have e4 := bigN_small hM (k + 1)
              have e5 := H60.out
              rw [wrap_in (x := v + (cn : Int)) (by omega), wrap_in (by omega), ← e1]
              omega)
            generalize wrap64 (wrap64 (v + (cn : Int)) + (f.name.size : Int) / 8) = v' at HD ⊢
            go_wp2
            go_roundw
            case rel => exact ⟨below_drewN HW.out _, (by have := HJ3.out; simpa using this), k + 1, v', by omega, by go_num, rfl, HD⟩
            case measure => simp [intOf]; omega
          · have h2' : 2000 < v := by omega
            have h3' : ¬ v ≤ 2000 := h2
            clear hm h2
            go_wp2
            refine bodyPost_ret (v := .bool true) (by simp [results, Tryz.results5, go_sem]) rfl ⟨true, rfl, hbw.out, fun h => by cases h⟩
        · have hlt' : ¬ (k : Int) < (nf : Int) := by omega
          have hkn : k = nf := by omega
          have HD := hide (show decide (2000 < v) = false → Modest fs → bigN fs ≤ 2000 from fun h hM => by
            have e1 := hm.out hM
            rw [List.take_of_length_le (by have := HNF.out; omega)] at e1
            have := of_decide_eq_false h
            omega)
          clear hm hkn
          go_wp2
          refine bodyPost_ret (v := .bool (decide (2000 < v))) (by simp [results, Tryz.results5, go_sem]) rfl ⟨_, rfl, hbw.out, HD⟩
    · have q2 : (100 : Int) < (na : Int) := by omega
      go_enter Tryz.func5, Tryz.ntmps5
      go_wp2
      exact bodyPost_ret (v := .bool true) (by simp [results, Tryz.results5, go_sem]) rfl ⟨true, rfl, HBA.out, fun h => by cases h⟩
  · have q1 : (60 : Int) < (nf : Int) := by omega
    go_enter Tryz.func5, Tryz.ntmps5
    go_wp2
    exact bodyPost_ret (v := .bool true) (by simp [results, Tryz.results5, go_sem]) rfl ⟨true, rfl, HBA.out, fun h => by cases h⟩
end Go.Proofs.YtfnloomcianbiaaGreatDoor
