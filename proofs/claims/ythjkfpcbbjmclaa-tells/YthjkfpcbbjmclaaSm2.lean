/- Who is a member; two views held against each other. -/
import Derived.Test.YthjkfpcbbjmclaaSml
import Derived.Deep.Cut
namespace Go.Proofs.Ythjkfpcbbjmclaa
open Go.RowKit Go.ChangeShapes Go.WideShapes Go.ChangeAt Go.Deep

set_option linter.unusedSimpArgs false in
set_option maxRecDepth 100000 in
set_option maxHeartbeats 1000000 in
/-- gleanerref14.Member. -/
theorem member_any (ep : Int) (ms : List Mb) (n : Int) (a : Option Addr) (l c : Nat) (w : World) (hl : ms.length = l) (hlen : l ≤ 20000) (hr : Reads w a (mV ms)) :
    Calls Try.prog 31 #[.agg #[.int .i64 ep, .slice a l c], .int .i64 n] w fun e w' => e = .returned (.bool (inV ms n)) ∧ Below w.heap.size w w' := by
  have HB := hide (below_new w (.cells #[.int .i64 ep, .slice a l c] 24))
  have HX := hide (BoxL.new w [.int .i64 ep, .slice a l c] 24)
  obtain ⟨V, hV⟩ : ∃ V, V = w.alloc (.cells #[.int .i64 ep, .slice a l c] 24) := ⟨_, rfl⟩
  have HX := hide (show BoxL V w.heap.size [.int .i64 ep, .slice a l c] by rw [hV]; exact HX.out)
  rw [← hV] at HB
  have HR := hide (hr.below HB.out)
  have HL := hide hl
  have HV := hide hV
  clear hr hl hV
  go_enter Try.func31, Try.ntmps31
  go_wp2
  rw [← HV.out]
  go_loopw [5] (fun i wr => wr = V ∧ ∃ k : Nat, k ≤ l ∧ i = .int .i64 (k : Nat) ∧ Hid ((ms.take k).any (fun x => decide (x.1 = n)) = false)) (fun i _ => l - (intOf i).toNat)
  case atStart => exact ⟨rfl, 0, Nat.zero_le _, rfl, hide rfl⟩
  case round =>
    obtain ⟨rfl, k, hk, rfl, hA⟩ := hrel
    obtain ⟨⟨-, x1⟩, -⟩ := HX.out.c2
    by_cases hlt : k < l
    · have hkn : k < ms.length := by have := HL.out; omega
      have hlt' : (k : Int) < (l : Int) := by omega
      obtain ⟨b, off, har, y0, -⟩ := mem_at HR.out hkn
      subst har
      have HN := hide (fun h => any_step (p := fun x : Mb => decide (x.1 = n)) hkn hA.out h)
      have HY := hide (fun h => any_yes (p := fun x : Mb => decide (x.1 = n)) hkn h)
      generalize ms[k] = x at y0 HN HY
      obtain ⟨x, y⟩ := x
      simp only at y0
      clear hA
      by_cases hx : x = n
      · have HF := hide (show inV ms n = true from HY.out (by simp [hx]))
        have q : (x == n) = true := by simp [hx]
        clear HN HY hx
        go_wp2
        go_ret
        exact ⟨by rw [HF.out]; rfl, HB.out⟩
      · have HF := hide (HN.out (by simp [hx]))
        have q : (x == n) = false := by simp [hx]
        clear HN HY hx
        go_wp2
        go_roundw
        case rel => exact ⟨trivial, k + 1, by omega, by go_num, HF⟩
        case measure => simp [intOf]; omega
    · have HF := hide (show inV ms n = false by have := hA.out; rwa [List.take_of_length_le (by have := HL.out; omega)] at this)
      have hlt' : ¬ (k : Int) < (l : Int) := by omega
      clear hA
      go_wp2
      go_ret
      exact ⟨by rw [HF.out]; rfl, HB.out⟩

theorem hasV_any (ms : List Mb) (n k : Int) : hasV ms n k = ms.any (fun x => decide (x = (n, k))) := by
  unfold hasV
  rw [Bool.eq_iff_iff]
  simp

set_option linter.unusedSimpArgs false in
set_option maxRecDepth 100000 in
set_option maxHeartbeats 1000000 in
/-- gleanerref14.Has. -/
theorem rhas_any (ep : Int) (ms : List Mb) (n lf : Int) (a : Option Addr) (l c : Nat) (w : World) (hl : ms.length = l) (hlen : l ≤ 20000) (hr : Reads w a (mV ms)) :
    Calls Try.prog 16 #[.agg #[.int .i64 ep, .slice a l c], .int .i64 n, .int .i64 lf] w fun e w' => e = .returned (.bool (hasV ms n lf)) ∧ Below w.heap.size w w' := by
  rw [hasV_any]
  have HB := hide (below_new w (.cells #[.int .i64 ep, .slice a l c] 24))
  have HX := hide (BoxL.new w [.int .i64 ep, .slice a l c] 24)
  obtain ⟨V, hV⟩ : ∃ V, V = w.alloc (.cells #[.int .i64 ep, .slice a l c] 24) := ⟨_, rfl⟩
  have HX := hide (show BoxL V w.heap.size [.int .i64 ep, .slice a l c] by rw [hV]; exact HX.out)
  rw [← hV] at HB
  have HR := hide (hr.below HB.out)
  have HL := hide hl
  have HV := hide hV
  clear hr hl hV
  go_enter Try.func16, Try.ntmps16
  go_wp2
  rw [← HV.out]
  go_loopw [7] (fun i wr => wr = V ∧ ∃ k : Nat, k ≤ l ∧ i = .int .i64 (k : Nat) ∧ Hid ((ms.take k).any (fun x => decide (x = (n, lf))) = false)) (fun i _ => l - (intOf i).toNat)
  case atStart => exact ⟨rfl, 0, Nat.zero_le _, rfl, hide rfl⟩
  case round =>
    obtain ⟨rfl, k, hk, rfl, hA⟩ := hrel
    obtain ⟨⟨-, x1⟩, -⟩ := HX.out.c2
    by_cases hlt : k < l
    · have hkn : k < ms.length := by have := HL.out; omega
      have hlt' : (k : Int) < (l : Int) := by omega
      obtain ⟨b, off, har, y0, y1⟩ := mem_at HR.out hkn
      subst har
      have HN := hide (fun h => any_step (p := fun x : Mb => decide (x = (n, lf))) hkn hA.out h)
      have HY := hide (fun h => any_yes (p := fun x : Mb => decide (x = (n, lf))) hkn h)
      generalize ms[k] = x at y0 y1 HN HY
      obtain ⟨x, y⟩ := x
      simp only at y0 y1
      clear hA
      by_cases hx : x = n
      · by_cases hy : y = lf
        · have HF := hide (HY.out (by simp [hx, hy]))
          have q : (x == n) = true := by simp [hx]
          have q' : (y == lf) = true := by simp [hy]
          clear HN HY hx hy
          go_wp2
          go_ret
          exact ⟨by rw [HF.out]; rfl, HB.out⟩
        · have HF := hide (HN.out (by simp [hy]))
          have q : (x == n) = true := by simp [hx]
          have q' : (y == lf) = false := by simp [hy]
          clear HN HY hx hy
          go_wp2
          go_roundw
          case rel => exact ⟨trivial, k + 1, by omega, by go_num, HF⟩
          case measure => simp [intOf]; omega
      · have HF := hide (HN.out (by simp [hx]))
        have q : (x == n) = false := by simp [hx]
        clear HN HY hx
        go_wp2
        go_roundw
        case rel => exact ⟨trivial, k + 1, by omega, by go_num, HF⟩
        case measure => simp [intOf]; omega
    · have HF := hide (show ms.any (fun x => decide (x = (n, lf))) = false by have := hA.out; rwa [List.take_of_length_le (by have := HL.out; omega)] at this)
      have hlt' : ¬ (k : Int) < (l : Int) := by omega
      clear hA
      go_wp2
      go_ret
      exact ⟨by rw [HF.out]; rfl, HB.out⟩

set_option linter.unusedSimpArgs false in
set_option maxRecDepth 100000 in
set_option maxHeartbeats 4000000 in
/-- slices.Index of members. -/
theorem indexM_any (ms : List Mb) (n lf : Int) (a : Option Addr) (l c : Nat) (w : World) (hl : ms.length = l) (hlen : l ≤ 20000) (hr : Reads w a (mV ms)) :
    Calls Try.prog 45 #[.slice a l c, .agg #[.int .i64 n, .int .i64 lf]] w fun e w' => ∃ r : Int, e = .returned (.int .i64 r) ∧ decide (0 ≤ r) = hasV ms n lf ∧ Below w.heap.size w w' := by
  rw [hasV_any]
  have HB := hide (below_new w (.cells #[.int .i64 n, .int .i64 lf] 41))
  have HX := hide (BoxL.new w [.int .i64 n, .int .i64 lf] 41)
  obtain ⟨V, hV⟩ : ∃ V, V = w.alloc (.cells #[.int .i64 n, .int .i64 lf] 41) := ⟨_, rfl⟩
  have HX := hide (show BoxL V w.heap.size [.int .i64 n, .int .i64 lf] by rw [hV]; exact HX.out)
  rw [← hV] at HB
  have HR := hide (hr.below HB.out)
  have HL := hide hl
  have HV := hide hV
  clear hr hl hV
  go_enter Try.func45, Try.ntmps45
  go_wp2
  rw [← HV.out]
  go_loopw [8] (fun i wr => Hid (Below V.heap.size V wr) ∧ ∃ k : Nat, k ≤ l ∧ i = .int .i64 (k : Nat) ∧ Hid ((ms.take k).any (fun x => decide (x = (n, lf))) = false)) (fun i _ => l - (intOf i).toNat)
  case atStart => exact ⟨hide (Below.refl _ _), 0, Nat.zero_le _, rfl, hide rfl⟩
  case round =>
    obtain ⟨hbw, k, hk, rfl, hA⟩ := hrel
    have HBW := hide (HB.out.trans (hbw.out.mono HB.out.size))
    obtain ⟨⟨x0, x1⟩, -⟩ := (HX.out.below hbw.out).c2
    by_cases hlt : k < l
    · have hkn : k < ms.length := by have := HL.out; omega
      have hlt' : (k : Int) < (l : Int) := by omega
      obtain ⟨b, off, har, y0, y1⟩ := mem_at (HR.out.below hbw.out) hkn
      subst har
      have HN := hide (fun h => any_step (p := fun x : Mb => decide (x = (n, lf))) hkn hA.out h)
      have HY := hide (fun h => any_yes (p := fun x : Mb => decide (x = (n, lf))) hkn h)
      generalize ms[k] = x at y0 y1 HN HY
      obtain ⟨x, y⟩ := x
      simp only at y0 y1
      clear hA
      by_cases hx : (x, y) = (n, lf)
      · have HF := hide (show decide ((0 : Int) ≤ (k : Int)) = ms.any (fun x => decide (x = (n, lf))) by rw [HY.out (by simp [hx])]; simp)
        obtain ⟨rfl, rfl⟩ := Prod.mk.inj hx
        clear HN HY hx
        go_wp2_with fail
        go_big_quiet (fail)
        go_wp2_with fail
        go_ret
        exact ⟨_, rfl, HF.out, below_drewN HBW.out _⟩
      · have HF := hide (HN.out (by simpa using hx))
        have hxy : n ≠ x ∨ lf ≠ y := by
          by_cases h0 : n = x
          · right; intro h1; exact hx (by rw [h0, h1])
          · exact .inl h0
        clear HN HY hx
        rcases hxy with h0 | h0
        · have g0 : (n == x) = false := by rw [beq_eq_false_iff_ne]; exact h0
          go_wp2_with fail
          go_big_quiet (fail)
          go_wp2_with fail
          go_roundw
          case rel => exact ⟨hide (below_drewN hbw.out _), k + 1, by omega, by go_num, HF⟩
          case measure => simp [intOf]; omega
        · have g0 : (lf == y) = false := by rw [beq_eq_false_iff_ne]; exact h0
          go_wp2_with fail
          go_big_quiet (fail)
          go_wp2_with fail
          go_roundw
          case rel => exact ⟨hide (below_drewN hbw.out _), k + 1, by omega, by go_num, HF⟩
          case measure => simp [intOf]; omega
    · have HF := hide (show decide ((0 : Int) ≤ -1) = ms.any (fun x => decide (x = (n, lf))) by
        have := hA.out
        rw [List.take_of_length_le (by have := HL.out; omega)] at this
        rw [this]; rfl)
      have hlt' : ¬ (k : Int) < (l : Int) := by omega
      clear hA
      go_wp2
      go_ret
      exact ⟨_, rfl, HF.out, HBW.out⟩

set_option maxRecDepth 100000 in
set_option maxHeartbeats 400000 in
theorem containsM_any (ms : List Mb) (n lf : Int) (a : Option Addr) (l c : Nat) (w : World) (hl : ms.length = l) (hlen : l ≤ 20000) (hr : Reads w a (mV ms)) :
    Calls Try.prog 37 #[.slice a l c, .agg #[.int .i64 n, .int .i64 lf]] w fun e w' => e = .returned (.bool (hasV ms n lf)) ∧ Below w.heap.size w w' := by
  have HB := hide (below_new w (.cells #[.int .i64 n, .int .i64 lf] 41))
  obtain ⟨V, hV⟩ : ∃ V, V = w.alloc (.cells #[.int .i64 n, .int .i64 lf] 41) := ⟨_, rfl⟩
  rw [← hV] at HB
  have C45 := hide (indexM_any ms n lf a l c V hl hlen (hr.below HB.out))
  have HV := hide hV
  clear hV
  go_enter Try.func37, Try.ntmps37
  go_wp2_with (go_at_call 45; go_must (rw [← HV.out]; (with_reducible refine C45.out.mono ?_); rintro e w1 ⟨r, rfl, hD, hb1⟩; have HD := hide hD; have HB1 := hide (HB.out.trans (hb1.mono HB.out.size)); clear hD hb1))
  go_ret
  exact ⟨by rw [← HD.out]; rfl, HB1.out⟩

set_option maxRecDepth 100000 in
set_option maxHeartbeats 400000 in
/-- view.Has. -/
theorem has_any (ep : Int) (ms : List Mb) (n lf : Int) (a : Option Addr) (l c : Nat) (w : World) (hl : ms.length = l) (hlen : l ≤ 20000) (hr : Reads w a (mV ms)) :
    Calls Try.prog 21 #[.agg #[.int .i64 ep, .slice a l c], .int .i64 n, .int .i64 lf] w fun e w' => e = .returned (.bool (hasV ms n lf)) ∧ Below w.heap.size w w' := by
  have HB := hide (below_new w (.cells #[.int .i64 ep, .slice a l c] 24))
  obtain ⟨V, hV⟩ : ∃ V, V = w.alloc (.cells #[.int .i64 ep, .slice a l c] 24) := ⟨_, rfl⟩
  rw [← hV] at HB
  have C37 := hide (containsM_any ms n lf a l c V hl hlen (hr.below HB.out))
  have HV := hide hV
  clear hV
  go_enter Try.func21, Try.ntmps21
  go_wp2_with (go_at_call 37; go_must (rw [← HV.out]; (with_reducible refine C37.out.mono ?_); rintro e w1 ⟨rfl, hb1⟩; have HB1 := hide (HB.out.trans (hb1.mono HB.out.size)); clear hb1))
  go_ret
  exact ⟨rfl, HB1.out⟩

/-- Fenced, plain. -/
def fenV (ep : Int) (ms : List Mb) (x n lf : Int) : Bool := !decide (x = ep) || !hasV ms n lf

set_option maxRecDepth 100000 in
set_option maxHeartbeats 400000 in
/-- view.Fenced. -/
theorem fenced_any (ep : Int) (ms : List Mb) (x n lf : Int) (a : Option Addr) (l c : Nat) (w : World) (hl : ms.length = l) (hlen : l ≤ 20000) (hr : Reads w a (mV ms)) :
    Calls Try.prog 22 #[.agg #[.int .i64 ep, .slice a l c], .int .i64 x, .int .i64 n, .int .i64 lf] w fun e w' => e = .returned (.bool (fenV ep ms x n lf)) ∧ Below w.heap.size w w' := by
  have HB := hide (below_new w (.cells #[.int .i64 ep, .slice a l c] 24))
  obtain ⟨V, hV⟩ : ∃ V, V = w.alloc (.cells #[.int .i64 ep, .slice a l c] 24) := ⟨_, rfl⟩
  rw [← hV] at HB
  have C21 := hide (has_any ep ms n lf a l c V hl hlen (hr.below HB.out))
  have HV := hide hV
  clear hV
  by_cases hx : x = ep
  · subst hx
    have HO := hide (show fenV x ms x n lf = !hasV ms n lf by simp [fenV])
    generalize fenV x ms x n lf = R at HO ⊢
    go_enter Try.func22, Try.ntmps22
    go_wp2_with (go_at_call 21; go_must (rw [← HV.out]; (with_reducible refine C21.out.mono ?_); rintro e w1 ⟨rfl, hb1⟩; have HB1 := hide (HB.out.trans (hb1.mono HB.out.size)); clear hb1))
    go_ret
    exact ⟨by rw [HO.out]; rfl, HB1.out⟩
  · have q : (x == ep) = false := by simp [hx]
    have q' : (x != ep) = true := by simp [hx]
    have HO := hide (show fenV ep ms x n lf = true by simp [fenV, hx])
    generalize fenV ep ms x n lf = R at HO ⊢
    clear hx
    go_enter Try.func22, Try.ntmps22
    go_wp2
    go_ret
    first | exact ⟨by rw [HO.out]; rfl, by rw [← HV.out]; exact HB.out⟩ | exact ⟨by rw [HO.out]; rfl, HB.out⟩
end Go.Proofs.Ythjkfpcbbjmclaa
