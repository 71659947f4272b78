/- The small functions. -/
import Derived.Test.YthjkfpcbbjmclaaRow
import Derived.BigQuiet
namespace Go.Proofs.Ythjkfpcbbjmclaa
open Go.RowKit Go.ChangeShapes Go.WideShapes Go.ChangeAt Go.Deep

set_option maxRecDepth 100000 in
set_option maxHeartbeats 400000 in
theorem num_any (n : Int) (w : World) : Calls Try.prog 17 #[.int .i64 n] w fun e w' => e = .returned (.int .i64 n) ∧ w' = w := by
  go_enter Try.func17, Try.ntmps17
  go_wp2
  go_ret
  exact ⟨rfl, rfl⟩

set_option maxRecDepth 100000 in
set_option maxHeartbeats 400000 in
theorem mayBe_any (n : Int) (w : World) : Calls Try.prog 36 #[.int .i64 n] w fun e w' => e = .returned (.bool (okN n)) ∧ w' = w := by
  by_cases h0 : 1 ≤ n
  · by_cases h1 : n ≤ 2147483647
    · have HO := hide (show okN n = true by simp [okN]; omega)
      go_enter Try.func36, Try.ntmps36
      go_wp2
      go_ret
      exact ⟨by rw [HO.out]; rfl, rfl⟩
    · have HO := hide (show okN n = false by simp [okN]; omega)
      go_enter Try.func36, Try.ntmps36
      go_wp2
      go_ret
      exact ⟨by rw [HO.out]; rfl, rfl⟩
  · have HO := hide (show okN n = false by simp [okN]; omega)
    go_enter Try.func36, Try.ntmps36
    go_wp2
    go_ret
    exact ⟨by rw [HO.out]; rfl, rfl⟩

set_option maxRecDepth 100000 in
set_option maxHeartbeats 400000 in
theorem mayMember_any (n k : Int) (w : World) : Calls Try.prog 33 #[.agg #[.int .i64 n, .int .i64 k]] w fun e w' => e = .returned (.bool (okM (n, k))) ∧ Below w.heap.size w w' := by
  have HB := hide (below_new w (.cells #[.int .i64 n, .int .i64 k] 41))
  have C36 := hide (fun x X => mayBe_any x X)
  by_cases h0 : 0 ≤ n
  · by_cases h1 : n < 16
    · have HO := hide (show okM (n, k) = okN k by simp [okM, h0, h1])
      generalize okM (n, k) = R at HO ⊢
      go_enter Try.func33, Try.ntmps33
      go_wp2_with (go_at_call 36; go_must ((with_reducible refine (C36.out _ _).mono ?_); rintro e w1 ⟨rfl, hw1⟩; subst hw1))
      go_ret
      exact ⟨by rw [HO.out]; rfl, HB.out⟩
    · have HO := hide (show okM (n, k) = false by simp [okM, h1])
      generalize okM (n, k) = R at HO ⊢
      go_enter Try.func33, Try.ntmps33
      go_wp2
      go_ret
      exact ⟨by rw [HO.out]; rfl, HB.out⟩
  · have HO := hide (show okM (n, k) = false by simp [okM, h0])
    generalize okM (n, k) = R at HO ⊢
    go_enter Try.func33, Try.ntmps33
    go_wp2
    go_ret
    exact ⟨by rw [HO.out]; rfl, HB.out⟩

set_option maxRecDepth 100000 in
set_option maxHeartbeats 400000 in
theorem big_any (ep : Int) (a : Option Addr) (l c : Nat) (w : World) : Calls Try.prog 9 #[.agg #[.int .i64 ep, .slice a l c]] w fun e w' => e = .returned (.bool (decide (200 < l))) ∧ Below w.heap.size w w' := by
  have HB := hide (below_new w (.cells #[.int .i64 ep, .slice a l c] 24))
  have HD := hide (show decide ((200 : Int) < (l : Int)) = decide (200 < l) by simp; omega)
  go_enter Try.func9, Try.ntmps9
  go_wp2
  go_ret
  first | exact ⟨by rw [HD.out]; rfl, HB.out⟩ | exact ⟨by simp only [← HD.out]; rfl, HB.out⟩

set_option maxRecDepth 100000 in
set_option maxHeartbeats 400000 in
theorem nan_any (n : Int) (w : World) : Calls Try.prog 46 #[.int .i64 n] w fun e w' => e = .returned (.bool false) ∧ w' = w := by
  go_enter Try.func46, Try.ntmps46
  go_wp2
  go_ret
  exact ⟨by simp, rfl⟩

def cmpI (x y : Int) : Int := if x < y then -1 else if y < x then 1 else 0
set_option maxRecDepth 100000 in
set_option maxHeartbeats 400000 in
theorem compare_any (x y : Int) (w : World) : Calls Try.prog 42 #[.int .i64 x, .int .i64 y] w fun e w' => e = .returned (.int .i64 (cmpI x y)) ∧ w' = w := by
  have C46 := hide (fun x X => nan_any x X)
  by_cases h0 : x < y
  · have HO := hide (show cmpI x y = -1 by simp [cmpI, h0])
    go_enter Try.func42, Try.ntmps42
    go_wp2_with (go_at_call 46; go_must ((with_reducible refine (C46.out _ _).mono ?_); rintro e w1 ⟨rfl, hw1⟩; subst hw1))
    go_ret
    exact ⟨by rw [HO.out]; rfl, rfl⟩
  · by_cases h1 : y < x
    · have HO := hide (show cmpI x y = 1 by simp [cmpI, h0, h1])
      go_enter Try.func42, Try.ntmps42
      go_wp2_with (go_at_call 46; go_must ((with_reducible refine (C46.out _ _).mono ?_); rintro e w1 ⟨rfl, hw1⟩; subst hw1))
      go_ret
      exact ⟨by rw [HO.out]; rfl, rfl⟩
    · have HO := hide (show cmpI x y = 0 by simp [cmpI, h0, h1])
      go_enter Try.func42, Try.ntmps42
      go_wp2_with (go_at_call 46; go_must ((with_reducible refine (C46.out _ _).mono ?_); rintro e w1 ⟨rfl, hw1⟩; subst hw1))
      go_ret
      exact ⟨by rw [HO.out]; rfl, rfl⟩

set_option maxRecDepth 100000 in
set_option maxHeartbeats 400000 in
theorem place1_any (n k y : Int) (w : World) : Calls Try.prog 41 #[.agg #[.int .i64 n, .int .i64 k], .int .i64 y] w fun e w' => e = .returned (.int .i64 (cmpI n y)) ∧ Below w.heap.size w w' := by
  have HB := hide (below_new w (.cells #[.int .i64 n, .int .i64 k] 41))
  have C42 := hide (fun x y X => compare_any x y X)
  go_enter Try.func41, Try.ntmps41
  go_wp2_with (go_at_call 42; go_must ((with_reducible refine (C42.out _ _ _).mono ?_); rintro e w1 ⟨rfl, hw1⟩; subst hw1))
  go_ret
  exact ⟨rfl, HB.out⟩

theorem any_step {α : Type} {l : List α} {p : α → Bool} {k : Nat} (h : k < l.length) (hp : (l.take k).any p = false) (hx : p l[k] = false) : (l.take (k + 1)).any p = false := by
  rw [List.take_succ_eq_append_getElem h, List.any_append, hp]
  simp [hx]
theorem any_yes {α : Type} {l : List α} {p : α → Bool} {k : Nat} (h : k < l.length) (hx : p l[k] = true) : l.any p = true := by
  rw [List.any_eq_true]
  exact ⟨l[k], List.getElem_mem _, hx⟩

def inI (ns : List Int) (n : Int) : Bool := ns.any fun x => decide (x = n)
theorem inI_eq (ns : List Int) (n : Int) : inI ns n = decide (n ∈ ns) := by
  unfold inI
  rw [Bool.eq_iff_iff]
  simp

set_option linter.unusedSimpArgs false in
set_option maxRecDepth 100000 in
set_option maxHeartbeats 1000000 in
/-- gleanerref1.In. -/
theorem in_any (ns : List Int) (n : Int) (a : Option Addr) (l c : Nat) (w : World) (hl : ns.length = l) (hlen : l ≤ 20000) (hr : Reads w a (iV ns)) :
    Calls Try.prog 32 #[.slice a l c, .int .i64 n] w fun e w' => e = .returned (.bool (inI ns n)) ∧ w' = w := by
  have HR := hide hr
  have HL := hide hl
  clear hr hl
  go_enter Try.func32, Try.ntmps32
  go_wp2
  go_loopw [5] (fun i wr => wr = w ∧ ∃ k : Nat, k ≤ l ∧ i = .int .i64 (k : Nat) ∧ Hid ((ns.take k).any (fun x => decide (x = n)) = false)) (fun i _ => l - (intOf i).toNat)
  case atStart => exact ⟨rfl, 0, Nat.zero_le _, rfl, hide rfl⟩
  case round =>
    obtain ⟨rfl, k, hk, rfl, hA⟩ := hrel
    by_cases hlt : k < l
    · have hkn : k < ns.length := by have := HL.out; omega
      have hlt' : (k : Int) < (l : Int) := by omega
      obtain ⟨b, off, har, hcs⟩ := reads_at HR.out hkn
      subst har
      have hcell := hcs.out k (.int .i64 ns[k]) (by simp [iV, hkn])
      have HN := hide (fun h => any_step (p := fun x => decide (x = n)) hkn hA.out h)
      have HY := hide (fun h => any_yes (p := fun x => decide (x = n)) hkn h)
      generalize ns[k] = x at hcell HN HY
      clear hcs hA
      by_cases hx : x = n
      · have HF := hide (show inI ns n = true from HY.out (by simp [hx]))
        have q : (x == n) = true := by simp [hx]
        clear HN HY hx
        go_wp2
        go_ret
        exact ⟨by rw [HF.out]; rfl, rfl⟩
      · have HF := hide (HN.out (by simp [hx]))
        have q : (x == n) = false := by simp [hx]
        clear HN HY hx
        go_wp2
        go_roundw
        case rel => exact ⟨trivial, k + 1, by omega, by go_num, HF⟩
        case measure => simp [intOf]; omega
    · have HF := hide (show inI ns n = false by have := hA.out; rwa [List.take_of_length_le (by have := HL.out; omega)] at this)
      clear hA
      go_wp2
      go_ret
      exact ⟨by rw [HF.out]; rfl, rfl⟩

set_option linter.unusedSimpArgs false in
set_option maxRecDepth 100000 in
set_option maxHeartbeats 1000000 in
/-- slices.Index of ints. -/
theorem indexI_any (ns : List Int) (n : Int) (a : Option Addr) (l c : Nat) (w : World) (hl : ns.length = l) (hlen : l ≤ 20000) (hr : Reads w a (iV ns)) :
    Calls Try.prog 39 #[.slice a l c, .int .i64 n] w fun e w' => ∃ r : Int, e = .returned (.int .i64 r) ∧ decide (0 ≤ r) = inI ns n ∧ w' = w := by
  have HR := hide hr
  have HL := hide hl
  clear hr hl
  go_enter Try.func39, Try.ntmps39
  go_wp2
  go_loopw [8] (fun i wr => wr = w ∧ ∃ k : Nat, k ≤ l ∧ i = .int .i64 (k : Nat) ∧ Hid ((ns.take k).any (fun x => decide (x = n)) = false)) (fun i _ => l - (intOf i).toNat)
  case atStart => exact ⟨rfl, 0, Nat.zero_le _, rfl, hide rfl⟩
  case round =>
    obtain ⟨rfl, k, hk, rfl, hA⟩ := hrel
    by_cases hlt : k < l
    · have hkn : k < ns.length := by have := HL.out; omega
      have hlt' : (k : Int) < (l : Int) := by omega
      obtain ⟨b, off, har, hcs⟩ := reads_at HR.out hkn
      subst har
      have hcell := hcs.out k (.int .i64 ns[k]) (by simp [iV, hkn])
      have HN := hide (fun h => any_step (p := fun x => decide (x = n)) hkn hA.out h)
      have HY := hide (fun h => any_yes (p := fun x => decide (x = n)) hkn h)
      generalize ns[k] = x at hcell HN HY
      clear hcs hA
      by_cases hx : n = x
      · have HF := hide (show decide ((0 : Int) ≤ (k : Int)) = inI ns n by rw [show inI ns n = true from HY.out (by simp [hx])]; simp)
        have q : (n == x) = true := by simp [hx]
        clear HN HY hx
        go_wp2
        go_ret
        exact ⟨_, rfl, HF.out, rfl⟩
      · have HF := hide (HN.out (by simp; omega))
        have q : (n == x) = false := by simp [hx]
        clear HN HY hx
        go_wp2
        go_roundw
        case rel => exact ⟨trivial, k + 1, by omega, by go_num, HF⟩
        case measure => simp [intOf]; omega
    · have HF := hide (show decide ((0 : Int) ≤ -1) = inI ns n by
        have := hA.out
        rw [List.take_of_length_le (by have := HL.out; omega)] at this
        rw [show inI ns n = false from this]; rfl)
      clear hA
      go_wp2
      go_ret
      exact ⟨_, rfl, HF.out, rfl⟩

set_option maxRecDepth 100000 in
set_option maxHeartbeats 400000 in
theorem containsI_any (ns : List Int) (n : Int) (a : Option Addr) (l c : Nat) (w : World) (hl : ns.length = l) (hlen : l ≤ 20000) (hr : Reads w a (iV ns)) :
    Calls Try.prog 29 #[.slice a l c, .int .i64 n] w fun e w' => e = .returned (.bool (inI ns n)) ∧ w' = w := by
  have C39 := hide (indexI_any ns n a l c w hl hlen hr)
  go_enter Try.func29, Try.ntmps29
  go_wp2_with (go_at_call 39; go_must ((with_reducible refine C39.out.mono ?_); rintro e w1 ⟨r, rfl, hD, hw1⟩; subst hw1; have HD := hide hD; clear hD))
  go_ret
  exact ⟨by rw [← HD.out]; rfl, rfl⟩
end Go.Proofs.Ythjkfpcbbjmclaa
