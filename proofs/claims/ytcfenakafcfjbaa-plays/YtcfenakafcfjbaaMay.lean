/- May these be times, lives? -/
import Derived.Test.YtcfenakafcfjbaaMem
namespace Go.Proofs.Ytcfenakafcfjbaa
open Go.RowKit Go.ChangeShapes Go.WideShapes Go.ChangeAt Go.Deep Go.Maps

set_option linter.unusedSimpArgs false in
set_option maxRecDepth 100000 in
set_option maxHeartbeats 2000000 in
theorem idx_any (w : World) (l : List Int) (a : Option Addr) (n c : Nat) (hl : l.length = n) (hn : n ≤ 20000) (ra : Reads w a (iV l)) :
    Calls Try.prog 31 #[.slice a n c, .func (.func 28) #[] #[]] w fun e w' => ∃ r : Int, e = .returned (.int .i64 r) ∧ decide (r ≥ 0) = !l.all okT ∧ w' = w := by
  have HL := hide hl
  have HR := hide ra
  have H0 := hide (show ∀ j (hj : j < l.length), j < 0 → okT l[j] = true from fun j _ h => by omega)
  clear hl ra
  go_enter Try.func31, Try.ntmps31
  go_wp2
  go_loopw [8] (fun i wr => wr = w ∧ ∃ k : Nat, k ≤ n ∧ i = .int .i64 (k : Nat) ∧ Hid (∀ j (hj : j < l.length), j < k → okT l[j] = true)) (fun i _ => n - (intOf i).toNat)
  case atStart => exact ⟨rfl, 0, Nat.zero_le _, rfl, H0⟩
  case round =>
    obtain ⟨rfl, k, hk, rfl, HA⟩ := hrel
    by_cases hlt : k < n
    · have hkl : k < l.length := by have := HL.out; omega
      have hlt' : (k : Int) < (n : Int) := by omega
      obtain ⟨g, off, har, hcs⟩ := reads_at HR.out hkl
      subst har
      have y0 := hcs.out k (.int .i64 l[k]) (by simp [iV, hkl])
      have C28 := hide (bad_any l[k] wr)
      have HT := hide (fun (h : okT l[k] = false) => show decide ((k : Int) ≥ 0) = !l.all okT by
        have : l.all okT = false := by rw [List.all_eq_false]; exact ⟨l[k], List.getElem_mem _, by rw [h]; simp⟩
        rw [this]; simp)
      have HN := hide (fun (h : okT l[k] = true) j (h1 : j < l.length) (h2 : j < k + 1) => show okT l[j] = true by
        rcases Nat.lt_or_eq_of_le (Nat.le_of_lt_succ h2) with h3 | rfl
        · exact HA.out j h1 h3
        · exact h)
      generalize okT l[k] = R at C28 HT HN
      generalize l[k] = x at y0 C28
      clear hcs hkl
      cases R
      · have HT2 := hide (HT.out rfl)
        simp only [Bool.not_false] at C28
        go_wp2_with (go_at_call 28; go_must ((with_reducible refine C28.out.mono ?_); rintro e w1 ⟨rfl, hw1⟩; subst hw1))
        go_ret
        exact ⟨_, rfl, HT2.out, rfl⟩
      · have HN2 := hide (HN.out rfl)
        simp only [Bool.not_true] at C28
        go_wp2_with (go_at_call 28; go_must ((with_reducible refine C28.out.mono ?_); rintro e w1 ⟨rfl, hw1⟩; subst hw1))
        go_roundw
        case rel => exact ⟨trivial, k + 1, by omega, by go_num, HN2⟩
        case measure => simp [intOf]; omega
    · obtain rfl : k = n := by omega
      have HF := hide (show decide ((-1 : Int) ≥ 0) = !l.all okT from by
        have : l.all okT = true := by
          rw [List.all_eq_true]
          intro x hx
          obtain ⟨i, hi, rfl⟩ := List.getElem_of_mem hx
          exact HA.out i hi (by have := HL.out; omega)
        rw [this]; rfl)
      go_wp2
      go_ret
      exact ⟨_, rfl, HF.out, rfl⟩

set_option maxRecDepth 100000 in
theorem contains_any (w : World) (l : List Int) (a : Option Addr) (n c : Nat) (hl : l.length = n) (hn : n ≤ 20000) (ra : Reads w a (iV l)) :
    Calls Try.prog 27 #[.slice a n c, .func (.func 28) #[] #[]] w fun e w' => e = .returned (.bool (!l.all okT)) ∧ w' = w := by
  have C31 := hide (idx_any w l a n c hl hn ra)
  generalize (!l.all okT) = q at C31
  clear hl ra
  go_enter Try.func27, Try.ntmps27
  go_wp2_with (go_at_call 31; go_must ((with_reducible refine C31.out.mono ?_); rintro e w1 ⟨r, rfl, hr, hw1⟩; subst hw1; have HR := hide hr; clear hr))
  go_ret
  exact ⟨ret_b HR.out, rfl⟩

set_option maxRecDepth 100000 in
theorem may_any (w : World) (l : List Int) (a : Option Addr) (n c : Nat) (hl : l.length = n) (hn : n ≤ 20000) (ra : Reads w a (iV l)) :
    Calls Try.prog 22 #[.slice a n c] w fun e w' => e = .returned (.bool (l.all okT)) ∧ w' = w := by
  have C27 := hide (contains_any w l a n c hl hn ra)
  generalize l.all okT = q at C27
  clear hl ra
  go_enter Try.func22, Try.ntmps22
  go_wp2_with (go_at_call 27; go_must ((with_reducible refine C27.out.mono ?_); rintro e w1 ⟨rfl, hw1⟩; subst hw1))
  go_ret
  exact ⟨ret_b (by simp), rfl⟩
end Go.Proofs.Ytcfenakafcfjbaa
