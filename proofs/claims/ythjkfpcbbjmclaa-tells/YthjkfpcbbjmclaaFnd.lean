/- Where a node stands: slices.BinarySearchFunc, place, mayLeave. -/
import Derived.Test.YthjkfpcbbjmclaaMay
namespace Go.Proofs.Ythjkfpcbbjmclaa
open Go.RowKit Go.ChangeShapes Go.WideShapes Go.ChangeAt Go.Deep

def Rises (l : List Mb) : Prop := ∀ i j (hi : i < l.length) (hj : j < l.length), i < j → l[i].1 < l[j].1
/-- k is where n stands, or would. -/
def PlaceAt (l : List Mb) (n : Int) (k : Nat) : Prop := k ≤ l.length ∧ (∀ q (h : q < l.length), q < k → l[q].1 < n) ∧ (∀ q (h : q < l.length), k ≤ q → n ≤ l[q].1)
theorem PlaceAt.no {l : List Mb} {n : Int} {k : Nat} (h : PlaceAt l n k) (hr : Rises l) (hk : ∀ hk : k < l.length, l[k].1 ≠ n) : inV l n = false := by
  unfold inV
  rw [List.any_eq_false]
  intro x hx
  obtain ⟨q, hq, rfl⟩ := List.getElem_of_mem hx
  simp only [decide_eq_true_eq]
  rcases Nat.lt_trichotomy q k with h1 | rfl | h1
  · have := h.2.1 q hq h1; omega
  · exact hk hq
  · have h2 := h.2.2 k (by omega) (Nat.le_refl _)
    have h3 := hr k q (by omega) hq h1
    omega
theorem PlaceAt.yes {l : List Mb} {n : Int} {k : Nat} (hk : k < l.length) (he : l[k].1 = n) : inV l n = true := by
  unfold inV
  rw [List.any_eq_true]
  exact ⟨l[k], List.getElem_mem _, by simp [he]⟩

theorem cmp_low {x n : Int} (h : ¬ x < n) : ¬ cmpI x n < 0 := by unfold cmpI; rw [if_neg h]; split <;> omega
theorem cmp_ne {x n : Int} (h : x ≠ n) : (cmpI x n == 0) = false := by
  rw [beq_eq_false_iff_ne]
  unfold cmpI
  split
  · omega
  · rw [if_pos (by omega)]; omega
/-- The search's state. -/
def SrS (l : List Mb) (n : Int) (i j : Nat) : Prop := i ≤ j ∧ j ≤ l.length ∧ (∀ q (h : q < l.length), q < i → l[q].1 < n) ∧ (∀ q (h : q < l.length), j ≤ q → n ≤ l[q].1)
theorem SrS.lo {l : List Mb} {n : Int} {i j m : Nat} (h : SrS l n i j) (hr : Rises l) (hm : i ≤ m ∧ m < j) (hml : m < l.length) (hx : l[m].1 < n) : SrS l n (m + 1) j :=
  ⟨by omega, h.2.1, fun q hq hqm => by
    rcases Nat.lt_or_eq_of_le (Nat.le_of_lt_succ hqm) with h1 | rfl
    · have := hr q m hq hml h1; omega
    · exact hx, h.2.2.2⟩
theorem SrS.hi {l : List Mb} {n : Int} {i j m : Nat} (h : SrS l n i j) (hr : Rises l) (hm : i ≤ m ∧ m < j) (hml : m < l.length) (hx : ¬ l[m].1 < n) : SrS l n i m :=
  ⟨hm.1, by omega, h.2.2.1, fun q hq hqm => by
    rcases Nat.lt_or_eq_of_le hqm with h1 | rfl
    · have := hr m q hml hq h1; omega
    · omega⟩

set_option linter.unusedSimpArgs false in
set_option maxRecDepth 100000 in
set_option maxHeartbeats 4000000 in
/-- slices.BinarySearchFunc. -/
theorem search_any (ms : List Mb) (n : Int) (a : Option Addr) (l c : Nat) (w : World) (hl : ms.length = l) (hlen : l ≤ 20000) (hr : Reads w a (mV ms)) (hri : Rises ms) :
    Calls Try.prog 40 #[.slice a l c, .int .i64 n, .func (.func 41) #[] #[]] w fun e w' => ∃ (k : Nat) (b : Bool), e = .returned (.tuple #[.int .i64 (k : Nat), .bool b]) ∧ PlaceAt ms n k ∧ b = inV ms n ∧ Below w.heap.size w w' := by
  have HR := hide hr
  have HL := hide hl
  have HRI := hide hri
  have HS := hide (show SrS ms n 0 l from ⟨Nat.zero_le _, by omega, fun q _ h => by omega, fun q h1 h2 => by omega⟩)
  clear hr hl hri
  go_enter Try.func40, Try.ntmps40
  go_wp2
  go_loopw [9, 10] (fun i j wr => Hid (Below w.heap.size w wr) ∧ ∃ (p q : Nat), i = .int .i64 (p : Nat) ∧ j = .int .i64 (q : Nat) ∧ q ≤ l ∧ Hid (SrS ms n p q)) (fun i j _ => (intOf j).toNat - (intOf i).toNat)
  case atStart => exact ⟨hide (Below.refl _ _), 0, l, rfl, rfl, Nat.le_refl _, HS⟩
  case round =>
    clear HS
    obtain ⟨hbw, p, q, rfl, rfl, hq, hS⟩ := hrel
    by_cases hlt : p < q
    · have hlt' : (p : Int) < (q : Int) := by omega
      obtain ⟨m, hm⟩ : ∃ m, m = (p + q) / 2 := ⟨_, rfl⟩
      have hm1 : p ≤ m ∧ m < q := by omega
      have hml : m < ms.length := by have := HL.out; omega
      have hm2 : ((p : Int) + (q : Int)) / 2 = (m : Int) := by omega
      have hmi : (m : Int) < (l : Int) := by have := HL.out; omega
      have hml' : m < l := by have := HL.out; omega
      obtain ⟨b, off, har, y0, y1⟩ := mem_at (HR.out.below hbw.out) hml
      subst har
      have HLO := hide (fun hx => hS.out.lo HRI.out hm1 hml hx)
      have HHI := hide (fun hx => hS.out.hi HRI.out hm1 hml hx)
      generalize ms[m] = x at y0 y1 HLO HHI
      obtain ⟨x, lf⟩ := x
      simp only at y0 y1
      have C41 := hide (place1_any x lf n wr)
      have HM := hide hm1
      clear hS hm hm1 hml
      by_cases hx : x < n
      · have HN := hide (HLO.out hx)
        have q0 : cmpI x n < 0 := by simp [cmpI, hx]
        clear HLO HHI
        go_wp2_with (go_at_call 41; go_must ((with_reducible refine C41.out.mono ?_); rintro e w2 ⟨rfl, hb2⟩; have HB2 := hide (hbw.out.trans (hb2.mono hbw.out.size)); clear hb2))
        go_roundw
        case rel => exact ⟨HB2, m + 1, q, by go_num, rfl, hq, HN⟩
        case measure => have := HM.out; simp [intOf]; omega
      · have HN := hide (HHI.out hx)
        have q0 : ¬ cmpI x n < 0 := cmp_low hx
        clear HLO HHI
        go_wp2_with (go_at_call 41; go_must ((with_reducible refine C41.out.mono ?_); rintro e w2 ⟨rfl, hb2⟩; have HB2 := hide (hbw.out.trans (hb2.mono hbw.out.size)); clear hb2))
        go_roundw
        case rel => exact ⟨HB2, p, m, rfl, rfl, by omega, HN⟩
        case measure => have := HM.out; simp [intOf]; omega
    · have hpq : p = q := by have := hS.out.1; omega
      subst hpq
      have HP := hide (show PlaceAt ms n p from ⟨by have := hS.out.2.1; omega, hS.out.2.2.1, hS.out.2.2.2⟩)
      clear hS
      by_cases hpl : p < l
      · have hpl' : (p : Int) < (l : Int) := by omega
        have hpm : p < ms.length := by have := HL.out; omega
        obtain ⟨b, off, har, y0, y1⟩ := mem_at (HR.out.below hbw.out) hpm
        subst har
        have HY := hide (fun he => PlaceAt.yes (n := n) hpm he)
        have HNO := hide (fun (he : ms[p].1 ≠ n) => HP.out.no HRI.out (fun _ => he))
        generalize ms[p] = x at y0 y1 HY HNO
        obtain ⟨x, lf⟩ := x
        simp only at y0 y1
        have C41 := hide (place1_any x lf n wr)
        by_cases hx : x = n
        · have HF := hide (HY.out hx)
          have q0 : (cmpI x n == 0) = true := by simp [cmpI, hx]
          clear HY HNO hx
          go_wp2_with (go_at_call 41; go_must ((with_reducible refine C41.out.mono ?_); rintro e w2 ⟨rfl, hb2⟩; have HB2 := hide (hbw.out.trans (hb2.mono hbw.out.size)); clear hb2))
          refine bodyPost_ret (v := .tuple #[.int .i64 (p : Nat), .bool true]) (by simp [results, Try.results40, go_sem]) rfl ?_
          exact ⟨p, true, rfl, HP.out, HF.out.symm, HB2.out⟩
        · have HF := hide (HNO.out hx)
          have q0 : (cmpI x n == 0) = false := cmp_ne hx
          clear HY HNO hx
          go_wp2_with (go_at_call 41; go_must ((with_reducible refine C41.out.mono ?_); rintro e w2 ⟨rfl, hb2⟩; have HB2 := hide (hbw.out.trans (hb2.mono hbw.out.size)); clear hb2))
          refine bodyPost_ret (v := .tuple #[.int .i64 (p : Nat), .bool false]) (by simp [results, Try.results40, go_sem]) rfl ?_
          exact ⟨p, false, rfl, HP.out, HF.out.symm, HB2.out⟩
      · have hpl' : ¬ (p : Int) < (l : Int) := by omega
        have HF := hide (HP.out.no HRI.out (fun hk => by have := HL.out; omega))
        go_wp2
        refine bodyPost_ret (v := .tuple #[.int .i64 (p : Nat), .bool false]) (by simp [results, Try.results40, go_sem]) rfl ?_
        first | exact ⟨p, false, rfl, HP.out, HF.out.symm, hbw.out⟩ | exact ⟨p, .inl ⟨rfl, HP.out, HF.out, hbw.out⟩⟩

set_option maxRecDepth 100000 in
set_option maxHeartbeats 1000000 in
/-- view.place. -/
theorem place_any (ep : Int) (ms : List Mb) (n : Int) (a : Option Addr) (l c : Nat) (w : World) (hl : ms.length = l) (hlen : l ≤ 20000) (hr : Reads w a (mV ms)) (hri : Rises ms) :
    Calls Try.prog 34 #[.agg #[.int .i64 ep, .slice a l c], .int .i64 n] w fun e w' => ∃ (k : Nat) (b : Bool), e = .returned (.tuple #[.int .i64 (k : Nat), .bool b]) ∧ PlaceAt ms n k ∧ b = inV ms n ∧ Below w.heap.size w w' := by
  have HB := hide (below_new w (.cells #[.int .i64 ep, .slice a l c] 24))
  obtain ⟨V, hV⟩ : ∃ V, V = w.alloc (.cells #[.int .i64 ep, .slice a l c] 24) := ⟨_, rfl⟩
  rw [← hV] at HB
  have C40 := hide (search_any ms n a l c V hl hlen (hr.below HB.out) hri)
  have HV := hide hV
  clear hV
  go_enter Try.func34, Try.ntmps34
  go_wp2_with (go_at_call 40; go_must (rw [← HV.out]; (with_reducible refine C40.out.mono ?_); rintro e w1 ⟨k, b, rfl, hP, hb, hb1⟩; have HP := hide hP; have HBB := hide hb; have HB1 := hide (HB.out.trans (hb1.mono HB.out.size)); clear hP hb hb1))
  refine bodyPost_ret (v := .tuple #[.int .i64 (k : Nat), .bool b]) (by simp [results, Try.results34, go_sem]) rfl ?_
  exact ⟨k, b, rfl, HP.out, HBB.out, HB1.out⟩

theorem outOk_step {ms : List Mb} {ns : List Int} {k : Nat} (h : k < ns.length) (hp : outOk ms (ns.take k) = true) (h1 : inV ms ns[k] = true) (h2 : ns[k] ≠ 0) : outOk ms (ns.take (k + 1)) = true := by
  unfold outOk at hp ⊢
  rw [List.take_succ_eq_append_getElem h, List.all_append, hp]
  simp [h1, h2]
theorem outOk_no {ms : List Mb} {ns : List Int} {k : Nat} (h : k < ns.length) (hx : inV ms ns[k] = false ∨ ns[k] = 0) : outOk ms ns = false := by
  unfold outOk
  rw [List.all_eq_false]
  refine ⟨ns[k], List.getElem_mem _, ?_⟩
  rcases hx with hx | hx <;> simp [hx]

set_option linter.unusedSimpArgs false in
set_option maxRecDepth 100000 in
set_option maxHeartbeats 4000000 in
/-- view.mayLeave. -/
theorem leave_any (ep : Int) (ms : List Mb) (ns : List Int) (a : Option Addr) (l c : Nat) (b : Option Addr) (m d : Nat) (w : World) (hl : ms.length = l) (hlen : l ≤ 20000) (hr : Reads w a (mV ms)) (hri : Rises ms)
    (hm : ns.length = m) (hml : m ≤ 20000) (hs : Reads w b (iV ns)) :
    Calls Try.prog 25 #[.agg #[.int .i64 ep, .slice a l c], .slice b m d] w fun e w' => e = .returned (.bool (outOk ms ns && !ns.isEmpty)) ∧ Below w.heap.size w w' := by
  have HB := hide (below_new w (.cells #[.int .i64 ep, .slice a l c] 24))
  have HX := hide (BoxL.new w [.int .i64 ep, .slice a l c] 24)
  obtain ⟨V, hV⟩ : ∃ V, V = w.alloc (.cells #[.int .i64 ep, .slice a l c] 24) := ⟨_, rfl⟩
  have HX := hide (show BoxL V w.heap.size [.int .i64 ep, .slice a l c] by rw [hV]; exact HX.out)
  rw [← hV] at HB
  have HR := hide (hr.below HB.out)
  have HS := hide (hs.below HB.out)
  have HL := hide hl
  have HM := hide hm
  have HRI := hide hri
  have HV := hide hV
  have HLE := hide hlen
  clear hr hs hl hm hri hV hlen
  obtain ⟨R, hR⟩ : ∃ R, R = (outOk ms ns && !ns.isEmpty) := ⟨_, rfl⟩
  have HO := hide hR
  rw [← hR]
  clear hR
  go_enter Try.func25, Try.ntmps25
  go_wp2
  rw [← HV.out]
  go_loopw [11] (fun i wr => Hid (Below V.heap.size V wr) ∧ ∃ (k : Nat), k ≤ m ∧ i = .int .i64 (k : Nat) ∧ Hid (outOk ms (ns.take k) = true)) (fun i _ => m - (intOf i).toNat)
  case atStart => exact ⟨hide (Below.refl _ _), 0, Nat.zero_le _, rfl, hide rfl⟩
  case round =>
    obtain ⟨hbw, k, hk, rfl, hA⟩ := hrel
    obtain ⟨⟨x0, x1⟩, -⟩ := (HX.out.below hbw.out).c2
    by_cases hlt : k < m
    · have hlt' : (k : Int) < (m : Int) := by omega
      have hkn : k < ns.length := by have := HM.out; omega
      obtain ⟨g, off, har, hcs⟩ := reads_at (HS.out.below hbw.out) hkn
      subst har
      have hcell := hcs.out k (.int .i64 ns[k]) (by simp [iV, hkn])
      have C34 := hide (place_any ep ms ns[k] a l c wr HL.out HLE.out (HR.out.below hbw.out) HRI.out)
      have HY := hide (fun h1 h2 => outOk_step hkn hA.out h1 h2)
      have HN := hide (fun hx => outOk_no (ms := ms) hkn hx)
      generalize ns[k] = x at hcell C34 HY HN
      clear hcs hA
      generalize inV ms x = q at C34 HY HN
      cases q
      · have HF := hide (show R = false by rw [HO.out, HN.out (.inl rfl)]; rfl)
        go_wp2_with (go_at_call 34; go_must ((with_reducible refine C34.out.mono ?_); rintro e w1 ⟨k', b', rfl, -, rfl, hb1⟩; have HB1 := hide (hbw.out.trans (hb1.mono hbw.out.size)); clear hb1))
        go_ret
        exact ⟨by rw [HF.out]; rfl, HB.out.trans (HB1.out.mono HB.out.size)⟩
      · by_cases hx : x = 0
        · have HF := hide (show R = false by rw [HO.out, HN.out (.inr hx)]; rfl)
          have q0 : (x == 0) = true := by simp [hx]
          clear HN HY hx
          go_wp2_with (go_at_call 34; go_must ((with_reducible refine C34.out.mono ?_); rintro e w1 ⟨k', b', rfl, -, rfl, hb1⟩; have HB1 := hide (hbw.out.trans (hb1.mono hbw.out.size)); clear hb1))
          go_ret
          exact ⟨by rw [HF.out]; rfl, HB.out.trans (HB1.out.mono HB.out.size)⟩
        · have HF := hide (HY.out rfl hx)
          have q0 : (x == 0) = false := by simp [hx]
          clear HN HY hx
          go_wp2_with (go_at_call 34; go_must ((with_reducible refine C34.out.mono ?_); rintro e w1 ⟨k', b', rfl, -, rfl, hb1⟩; have HB1 := hide (hbw.out.trans (hb1.mono hbw.out.size)); clear hb1))
          go_roundw
          case rel => exact ⟨HB1, k + 1, by omega, by go_num, HF⟩
          case measure => simp [intOf]; omega
    · have HF := hide (show R = decide ((0 : Int) < (m : Int)) by
        have h1 := hA.out
        rw [List.take_of_length_le (by have := HM.out; omega)] at h1
        rw [HO.out, h1]
        have h2 := HM.out
        cases ns with
        | nil => simp at h2; subst h2; rfl
        | cons x r => simp at h2; simp; omega)
      have hlt' : ¬ (k : Int) < (m : Int) := by omega
      clear hA
      go_wp2
      go_ret
      exact ⟨by rw [HF.out]; first | rfl | simp, HB.out.trans (hbw.out.mono HB.out.size)⟩
end Go.Proofs.Ythjkfpcbbjmclaa
