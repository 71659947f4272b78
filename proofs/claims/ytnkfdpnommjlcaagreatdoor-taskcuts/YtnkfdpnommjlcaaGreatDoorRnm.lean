/- The document's name; Big. -/
import Derived.Test.YtnkfdpnommjlcaaGreatDoorNew
import Derived.BigQuiet
import Derived.Test.YtnkfdpnommjlcaaGreatDoorRdp
namespace Go.Proofs.YtnkfdpnommjlcaaGreatDoor
open Go.RowKit Go.ChangeShapes Go.WideShapes Go.ChangeAt Go.Deep

/-- A byte that may stand at place j of a name. -/
def goodAt (j : Nat) (x : UInt8) : Bool := letter x || (decide (0 < j) && digit x)
theorem name_all {l : List UInt8} (h : ∀ j x, l[j]? = some x → goodAt j x = true) (h0 : l ≠ []) (h20 : l.length ≤ 20) : isNameL l = true := by
  cases l with
  | nil => exact absurd rfl h0
  | cons c r =>
    have hc : letter c = true := by
      have := h 0 c rfl
      simpa [goodAt] using this
    unfold isNameL
    simp only [List.isEmpty_cons, Bool.not_false, Bool.true_and, Bool.and_eq_true, decide_eq_true_eq, List.headD_cons, List.all_eq_true]
    refine ⟨⟨h20, hc⟩, fun x hx => ?_⟩
    obtain ⟨j, hj, rfl⟩ := List.getElem_of_mem hx
    have := h j _ (List.getElem?_eq_getElem hj)
    unfold goodAt at this
    cases h1 : letter (c :: r)[j] with
    | true => rfl
    | false =>
      rw [h1] at this
      simp only [Bool.false_or, Bool.and_eq_true] at this ⊢
      exact this.2
theorem name_bad {l : List UInt8} {j : Nat} {x : UInt8} (hx : l[j]? = some x) (h : goodAt j x = false) : isNameL l = false := by
  cases hn : isNameL l with
  | false => rfl
  | true =>
    exfalso
    unfold isNameL at hn
    simp only [Bool.and_eq_true, decide_eq_true_eq, List.all_eq_true] at hn
    obtain ⟨⟨⟨_, _⟩, h1⟩, h2⟩ := hn
    have h3 := h2 x (List.mem_of_getElem? hx)
    unfold goodAt at h
    simp only [Bool.or_eq_false_iff] at h
    rw [h.1, Bool.false_or] at h3
    rw [h3, Bool.and_true] at h
    have hj : j = 0 := by
      have := h.2
      simp at this
      exact this
    subst hj
    cases l with
    | nil => simp at hx
    | cons c r =>
      have : c = x := by simpa using hx
      subst this
      simp only [List.headD_cons] at h1
      rw [h.1] at h1
      cases h1
theorem name_long {l : List UInt8} (h : 20 < l.length) : isNameL l = false := by
  unfold isNameL
  rw [decide_eq_false (by omega)]
  simp

set_option maxRecDepth 100000 in
set_option maxHeartbeats 1000000 in
theorem refname_any (s : ByteArray) (hl : s.size ≤ 9223372036854775807) (w : World) : Calls Tryz.prog 76 #[.string s] w fun e w' => e = .returned (.bool (isNameL s.data.toList)) ∧ w' = w := by
  have hsz : s.size = s.data.toList.length := Lib.size_eq s
  have HE := hide (empty_str s)
  have HS := hide hsz
  clear hsz
  go_enter Tryz.func76, Tryz.ntmps76
  go_wp2
  go_loopw [3] (fun i wr => wr = w ∧ ∃ k : Nat, k ≤ s.size ∧ k ≤ 21 ∧ i = .int .i64 (k : Nat) ∧ Hid (∀ j x, j < k → s.data.toList[j]? = some x → goodAt j x = true)) (fun i _ => s.size - (intOf i).toNat)
  case atStart => exact ⟨rfl, 0, by omega, by omega, rfl, fun j x hj => by omega⟩
  case round =>
    obtain ⟨rfl, k, hk, hk21, rfl, hh⟩ := hrel
    by_cases hlt : k < s.size ∧ k ≤ 20
    · obtain ⟨hlt, hk20⟩ := hlt
      have hg : ∃ x, s.data.toList[k]? = some x := ⟨s.data.toList[k]'(by rw [← Lib.size_eq]; exact hlt), List.getElem?_eq_getElem _⟩
      obtain ⟨x, hx⟩ := hg
      have ik := fun w => index_str hx w
      have hlt' : (k : Int) < (s.size : Int) := by omega
      have hk20' : (k : Int) ≤ 20 := by omega
      have HX := hide hx
      clear hx
      have hxb : x.toNat < 256 := x.toNat_lt
      have HN := hide (show goodAt k x = ((decide (97 ≤ x.toNat) && decide (x.toNat ≤ 122)) || (decide (0 < k) && (decide (48 ≤ x.toNat) && decide (x.toNat ≤ 57)))) from rfl)
      have HB := hide (fun (h : goodAt k x = false) => name_bad HX.out h)
      have HO := hide (show goodAt k x = true → ∀ j y, j < k + 1 → s.data.toList[j]? = some y → goodAt j y = true from fun hq j y hj hy => by
        rcases Nat.lt_or_ge j k with h | h
        · exact hh.out j y h hy
        · have : j = k := by omega
          subst this
          rw [HX.out] at hy
          injection hy with hy
          rw [← hy]; exact hq)
      generalize x.toNat = n at ik HN hxb
      by_cases h1 : (97 ≤ n ∧ n ≤ 122)
      · have a1 : (97 : Int) ≤ (n : Int) := by omega
        have a2 : (n : Int) ≤ 122 := by omega
        have hq : goodAt k x = true := by rw [HN.out, decide_eq_true h1.1, decide_eq_true h1.2]; rfl
        have HQ := hide (HO.out hq)
        clear h1 hq HB HO HN hk20 hlt hk21
        go_wp2
        go_roundw
        case rel => exact ⟨trivial, k + 1, by omega, by omega, by go_num, HQ⟩
        case measure => simp [intOf]; omega
      · by_cases h2 : 0 < k ∧ 48 ≤ n ∧ n ≤ 57
        · have a1 : ¬ (97 : Int) ≤ (n : Int) := by omega
          have a2 : (48 : Int) ≤ (n : Int) := by omega
          have a3 : (n : Int) ≤ 57 := by omega
          have a4 : (0 : Int) < (k : Int) := by omega
          have hq : goodAt k x = true := by rw [HN.out, decide_eq_true h2.1, decide_eq_true h2.2.1, decide_eq_true h2.2.2]; simp
          have HQ := hide (HO.out hq)
          clear h1 h2 hq HB HO HN hk20 hlt hk21
          go_wp2
          go_roundw
          case rel => exact ⟨trivial, k + 1, by omega, by omega, by go_num, HQ⟩
          case measure => simp [intOf]; omega
        · have hq : goodAt k x = false := by
            rw [HN.out]
            by_cases g1 : 97 ≤ n
            · have g2 : ¬ n ≤ 122 := fun g => h1 ⟨g1, g⟩
              rw [decide_eq_false g2, decide_eq_false (show ¬ n ≤ 57 by omega)]; simp
            · rw [decide_eq_false g1]
              by_cases g3 : 0 < k
              · by_cases g4 : 48 ≤ n
                · rw [decide_eq_false (fun g => h2 ⟨g3, g4, g⟩ : ¬ n ≤ 57)]; simp
                · rw [decide_eq_false g4]; simp
              · rw [decide_eq_false g3]; simp
          have HQ := hide (HB.out hq)
          clear hq HB HO HN hk20 hlt hk21
          by_cases g1 : 97 ≤ n
          · have a1 : (97 : Int) ≤ (n : Int) := by omega
            have a2 : ¬ (n : Int) ≤ 122 := by omega
            have a3 : (48 : Int) ≤ (n : Int) := by omega
            have a4 : ¬ (n : Int) ≤ 57 := by omega
            clear h1 h2 g1
            by_cases g3 : 0 < k
            · have a5 : (0 : Int) < (k : Int) := by omega
              clear g3
              go_wp2
              go_ret
              exact ⟨by rw [HQ.out]; rfl, rfl⟩
            · have a5 : ¬ (0 : Int) < (k : Int) := by omega
              clear g3
              go_wp2
              go_ret
              exact ⟨by rw [HQ.out]; rfl, rfl⟩
          · have a1 : ¬ (97 : Int) ≤ (n : Int) := by omega
            by_cases g3 : 0 < k
            · have a5 : (0 : Int) < (k : Int) := by omega
              by_cases g4 : 48 ≤ n
              · have a3 : (48 : Int) ≤ (n : Int) := by omega
                have a4 : ¬ (n : Int) ≤ 57 := by omega
                clear h1 h2 g1 g3 g4
                go_wp2
                go_ret
                exact ⟨by rw [HQ.out]; rfl, rfl⟩
              · have a3 : ¬ (48 : Int) ≤ (n : Int) := by omega
                clear h1 h2 g1 g3 g4
                go_wp2
                go_ret
                exact ⟨by rw [HQ.out]; rfl, rfl⟩
            · have a5 : ¬ (0 : Int) < (k : Int) := by omega
              clear h1 h2 g1 g3
              go_wp2
              go_ret
              exact ⟨by rw [HQ.out]; rfl, rfl⟩
    · by_cases hend : k < s.size
      · have hk21' : ¬ (k : Int) ≤ 20 := by omega
        have hlt' : (k : Int) < (s.size : Int) := by omega
        have HQ := hide (name_long (l := s.data.toList) (by rw [← HS.out]; omega))
        have q20 : ¬ (s.size : Int) ≤ 20 := by omega
        clear hlt hk21 hend
        go_wp2
        all_goals first
          | (exfalso; omega)
          | (go_ret; exact ⟨by rw [HQ.out]; rfl, rfl⟩)
      · have hks : k = s.size := by omega
        subst hks
        have hlt' : ¬ (s.size : Int) < (s.size : Int) := by omega
        cases hemp : s.toList.isEmpty with
        | true =>
          have HQ := hide (show isNameL s.data.toList = false by
            rw [HE.out] at hemp
            unfold isNameL
            rw [hemp]; rfl)
          clear hlt hk21 hend
          go_wp2
          all_goals first
            | (exfalso; omega)
            | (go_ret; exact ⟨by rw [HQ.out]; rfl, rfl⟩)
        | false =>
          by_cases h20 : s.size ≤ 20
          · have HQ := hide (name_all (l := s.data.toList) (fun j y hy => hh.out j y (by rw [HS.out]; exact (List.getElem?_eq_some_iff.1 hy).1) hy) (fun h => by rw [HE.out, h] at hemp; cases hemp) (by rw [← HS.out]; exact h20))
            have q20 : (s.size : Int) ≤ 20 := by omega
            clear hlt hk21 hend h20
            go_wp2
            all_goals first
              | (exfalso; omega)
              | (go_ret; exact ⟨by rw [HQ.out]; rfl, rfl⟩)
          · have HQ := hide (name_long (l := s.data.toList) (by rw [← HS.out]; omega))
            have q20 : ¬ (s.size : Int) ≤ 20 := by omega
            clear hlt hk21 hend h20
            go_wp2
            all_goals first
              | (exfalso; omega)
              | (go_ret; exact ⟨by rw [HQ.out]; rfl, rfl⟩)

def bigOf (f : Fun) : Nat := f.code.length + f.name.size / 8
def bigN (fs : List Fun) : Nat := (fs.map bigOf).sum
theorem bigN_take {fs : List Fun} {k : Nat} {f : Fun} (h : fs[k]? = some f) : bigN (fs.take (k + 1)) = bigN (fs.take k) + bigOf f := by
  simp [bigN, List.take_add_one, h]
theorem bigN_le {fs : List Fun} {f : Fun} (h : f ∈ fs) : bigOf f ≤ bigN fs := by
  induction fs with
  | nil => cases h
  | cons g r ih =>
    have e : bigN (g :: r) = bigOf g + bigN r := by simp [bigN]
    rcases List.mem_cons.1 h with rfl | h
    · omega
    · have := ih h; omega

/-- No job that can be written. -/
def Modest (fs : List Fun) : Prop := ∀ f ∈ fs, f.code.length ≤ 1000000 ∧ f.name.size ≤ 1000000
theorem bigN_small {fs : List Fun} (h : Modest fs) : ∀ k, bigN (fs.take k) ≤ 2000000 * k
  | 0 => by simp [bigN]
  | k + 1 => by
    have ih := bigN_small h k
    cases hf : fs[k]? with
    | none =>
      have e : fs.take (k + 1) = fs.take k := by simp [List.take_add_one, hf]
      rw [e]; omega
    | some f =>
      rw [bigN_take hf]
      have := h f (List.mem_of_getElem? hf)
      unfold bigOf
      omega

theorem wrap_inB {x : Int} (h : -9223372036854775808 ≤ x ∧ x ≤ 9223372036854775807) : wrap64 x = x := (IntWalk.i64_left x).symm.trans (IntWalk.i64_in x h)
def BigPost (fs : List Fun) (w : World) (e : Ending) (w' : World) : Prop := ∃ bg, e = .returned (.bool bg) ∧ Below w.heap.size w w' ∧ Hid (bg = false → Modest fs → bigN fs ≤ 2000)

set_option maxRecDepth 100000 in
set_option maxHeartbeats 2000000 in
theorem big_any (j : JV) (cs : List Value) (fs : List Fun) (args : List Int) (w : World) (hJ : JobR w j cs fs args) (hnfM : fs.length ≤ 9223372036854775807) (hnaM : args.length ≤ 9223372036854775807) (hc : ∀ f ∈ fs, f.code.length ≤ 9223372036854775807 ∧ f.name.size ≤ 9223372036854775807) :
    Calls Tryz.prog 7 #[.agg j.cells] w (BigPost fs w) := by
  have hbA := alloc_below w (.cells j.cells 25)
  have hjA : (w.alloc (.cells j.cells 25)).heap[w.heap.size]? = some (.cells j.cells 25 (0, 0)) := heap_alloc_new w _
  have hnf := hJ.nf
  have hna := hJ.na
  obtain ⟨fa, nf, fc, mn, aa, na, ac, fu, ta⟩ := j
  simp only [JV.cells] at *
  have HNF := hide hnf
  have HNA := hide hna
  rw [← hnf] at hnfM
  rw [← hna] at hnaM
  clear hnf hna
  have j0 := cell_row (i := 0) hjA rfl
  have j2 := cell_row (i := 2) hjA rfl
  have HBA := hide hbA
  have HJA := hide hjA
  clear hbA hjA
  by_cases h60 : nf ≤ 60
  · have q1 : ¬ (60 : Int) < (nf : Int) := by omega
    by_cases h100 : na ≤ 100
    · have q2 : ¬ (100 : Int) < (na : Int) := by omega
      clear h100
      have H60 := hide h60
      clear h60
      go_enter Tryz.func7, Tryz.ntmps7
      go_wp2
      clear q1 q2 j0 j2
      go_loopw [3, 4] (fun s i wr => Hid (Below w.heap.size w wr) ∧ wr.heap[w.heap.size]? = some (.cells [.slice fa nf fc, .int .i64 mn, .slice aa na ac, .int .i64 fu, .int .i64 ta].toArray 25 (0, 0)) ∧ ∃ (k : Nat) (v : Int), k ≤ nf ∧ i = .int .i64 (k : Nat) ∧ s = .int .i64 v ∧ Hid (Modest fs → v = (bigN (fs.take k) : Nat))) (fun _ i _ => nf - (intOf i).toNat)
      case atStart => exact ⟨HBA, HJA.out, 0, 0, Nat.zero_le _, rfl, rfl, fun _ => by simp [bigN]⟩
      case round =>
        clear HBA HJA
        obtain ⟨hbw, hj, k, v, hk, rfl, rfl, hm⟩ := hrel
        have j0 := cell_row (i := 0) hj rfl
        have hjl := lt_row hj
        by_cases hlt : k < nf
        · have hlt' : (k : Int) < (nf : Int) := by omega
          by_cases h2 : v ≤ 2000
          · have hkf : k < fs.length := by have := HNF.out; omega
            obtain ⟨b, off, ca, cc, p1, y0, -, -, y3, -⟩ := (hJ.below hbw.out).fun_at hkf
            simp only at p1
            subst p1
            have hfm := hc fs[k] (List.getElem_mem _)
            have hkx := List.getElem?_eq_getElem hkf
            have hmem : fs[k] ∈ fs := List.getElem_mem _
            generalize fs[k] = f at y0 y3 hfm hkx hmem
            have HB := hide (fun hM : Modest fs => (show (0 : Int) ≤ v ∧ (v + (f.code.length : Nat) + (f.name.size / 8 : Nat) : Int) = (bigN (fs.take (k + 1)) : Nat) ∧ f.code.length ≤ 1000000 ∧ f.name.size ≤ 1000000 by
              have e1 := hm.out hM
              have e2 := hM f hmem
              have e3 := bigN_take hkx
              unfold bigOf at e3
              omega))
            have hyl := cell_some_lt y0
            have HW := hide hbw.out
            have HJ3 := hide hj
            obtain ⟨cn, hcn⟩ : ∃ cn, cn = f.code.length := ⟨_, rfl⟩
            rw [← hcn] at y3 HB hfm
            clear hbw hj hkx hcn hm hmem
            go_wp2
            go_quiet (fail)
            have HD := hide (show Modest fs → wrap64 (wrap64 (v + (cn : Int)) + (f.name.size : Int) / 8) = (bigN (fs.take (k + 1)) : Nat) from fun hM => by
              obtain ⟨e0, e1, e2, e3⟩ := HB.out hM
              have e4 := bigN_small hM (k + 1)
              have e5 := H60.out
              rw [wrap_inB (x := v + (cn : Int)) (by omega), wrap_inB (by omega), ← e1]
              omega)
            generalize wrap64 (wrap64 (v + (cn : Int)) + (f.name.size : Int) / 8) = v' at HD ⊢
            go_wp2
            go_roundw
            case rel => exact ⟨below_drewN HW.out _, (by have := HJ3.out; simpa using this), k + 1, v', by omega, by go_num, rfl, HD⟩
            case measure => simp [intOf]; omega
          · have h2' : 2000 < v := by omega
            have h3' : ¬ v ≤ 2000 := h2
            clear hm h2
            go_wp2
            refine bodyPost_ret (v := .bool true) (by simp [results, Tryz.results7, go_sem]) rfl ⟨true, rfl, hbw.out, fun h => by cases h⟩
        · have hlt' : ¬ (k : Int) < (nf : Int) := by omega
          have hkn : k = nf := by omega
          have HD := hide (show decide (2000 < v) = false → Modest fs → bigN fs ≤ 2000 from fun h hM => by
            have e1 := hm.out hM
            rw [List.take_of_length_le (by have := HNF.out; omega)] at e1
            have := of_decide_eq_false h
            omega)
          clear hm hkn
          go_wp2
          refine bodyPost_ret (v := .bool (decide (2000 < v))) (by simp [results, Tryz.results7, go_sem]) rfl ⟨_, rfl, hbw.out, HD⟩
    · have q2 : (100 : Int) < (na : Int) := by omega
      go_enter Tryz.func7, Tryz.ntmps7
      go_wp2
      exact bodyPost_ret (v := .bool true) (by simp [results, Tryz.results7, go_sem]) rfl ⟨true, rfl, HBA.out, fun h => by cases h⟩
  · have q1 : (60 : Int) < (nf : Int) := by omega
    go_enter Tryz.func7, Tryz.ntmps7
    go_wp2
    exact bodyPost_ret (v := .bool true) (by simp [results, Tryz.results7, go_sem]) rfl ⟨true, rfl, HBA.out, fun h => by cases h⟩

end Go.Proofs.YtnkfdpnommjlcaaGreatDoor
