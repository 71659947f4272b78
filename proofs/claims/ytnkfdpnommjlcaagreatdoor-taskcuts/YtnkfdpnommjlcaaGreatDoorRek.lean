/- need, has, within, oneIf, reckon, own, take. -/
import Derived.Test.YtnkfdpnommjlcaaGreatDoorStk
namespace Go.Proofs.YtnkfdpnommjlcaaGreatDoor
open Go.RowKit Go.ChangeShapes Go.WideShapes Go.ChangeAt Go.Deep

/-- An error on its way up. -/
def failV (e v : Int) : Value := .iface 87 (.agg #[.int .i64 e, .int .i64 v])
def upF (e v : Int) : Ending := .panicked [{ v := failV e v, recovered := false }]
theorem tneed_yes (e : Int) (w : World) : Calls Tryz.prog 24 #[.bool true, .int .i64 e] w fun r w' => r = .returned (.tuple #[]) ∧ w' = w := by
  go_enter Tryz.func24, Tryz.ntmps24
  go_wp2
  go_end0
  exact ⟨rfl, rfl⟩
theorem tneed_no (e : Int) (w : World) : Calls Tryz.prog 24 #[.bool false, .int .i64 e] w fun r w' => r = upF e 0 ∧ w' = w := by
  go_enter Tryz.func24, Tryz.ntmps24
  go_wp2
  exact ⟨rfl, rfl, rfl⟩
theorem twithin_any (n lo hi : Int) (w : World) : Calls Tryz.prog 32 #[.int .i64 n, .int .i64 lo, .int .i64 hi] w fun r w' => r = .returned (.bool (inB n lo hi)) ∧ w' = w := by
  unfold inB
  go_enter Tryz.func32, Tryz.ntmps32
  go_wp2
  · rename_i h
    go_ret
    exact ⟨by simp [h], rfl⟩
  · rename_i h
    go_ret
    exact ⟨by simp; intro h2; omega, rfl⟩
theorem thas_any (n k : Int) (hn : -9223372036854775807 ≤ n ∧ n ≤ 9223372036854775807) (w : World) : Calls Tryz.prog 25 #[.int .i64 n, .int .i64 k] w fun r w' => r = .returned (.bool (hasB n k)) ∧ w' = w := by
  have C := fun w => twithin_any k 0 (n - 1) w
  go_enter Tryz.func25, Tryz.ntmps25
  go_wp2_with (go_at_call 32; go_must (with_reducible refine (C _).mono ?_; (rintro e w1 ⟨rfl, hw1⟩); subst hw1))
  go_ret
  exact ⟨rfl, rfl⟩
theorem oneIf_any (b : Bool) (w : World) : Calls Tryz.prog 111 #[.bool b] w fun r w' => r = .returned (.int .i64 (if b then 1 else 0)) ∧ w' = w := by
  cases b
  · go_enter Tryz.func111, Tryz.ntmps111
    go_wp2
    go_ret
    exact ⟨rfl, rfl⟩
  · go_enter Tryz.func111, Tryz.ntmps111
    go_wp2
    go_ret
    exact ⟨rfl, rfl⟩
/-- What an instruction of two values makes of them; none: there is no such value. -/
def rekL (op x y : Int) : Option Int :=
  if op = 7 then some (wrap64 (x + y))
  else if op = 8 then some (wrap64 (x - y))
  else if op = 9 then some (wrap64 (x * y))
  else if op = 10 then (if y = 0 then none else some (wrap64 (x.tdiv y)))
  else if op = 11 then (if y = 0 then none else some (x.tmod y))
  else if op = 12 then some (if x < y then 1 else 0)
  else some (if x = y then 1 else 0)
def RekPost (op x y : Int) (w : World) (r : Ending) (w' : World) : Prop := (match rekL op x y with | some v => r = .returned (.int .i64 v) | none => r = upF 20 0) ∧ w' = w

set_option maxRecDepth 100000 in
set_option maxHeartbeats 1000000 in
theorem reckon_any (op x y : Int) (w : World) : Calls Tryz.prog 103 #[.int .i64 op, .int .i64 x, .int .i64 y] w (RekPost op x y w) := by
  have N1 := fun w => tneed_yes 20 w
  have N0 := fun w => tneed_no 20 w
  unfold upF failV at N0
  have T1 := fun w => oneIf_any true w
  have T0 := fun w => oneIf_any false w
  simp only [if_true, Bool.false_eq_true, if_false] at T1 T0
  have yes : ∀ v, rekL op x y = some v → Calls Tryz.prog 103 #[.int .i64 op, .int .i64 x, .int .i64 y] w (fun r w' => r = .returned (.int .i64 v) ∧ w' = w) → Calls Tryz.prog 103 #[.int .i64 op, .int .i64 x, .int .i64 y] w (RekPost op x y w) := fun v e h => h.mono (fun r w' q => by unfold RekPost; rw [e]; exact q)
  have no : rekL op x y = none → Calls Tryz.prog 103 #[.int .i64 op, .int .i64 x, .int .i64 y] w (fun r w' => r = upF 20 0 ∧ w' = w) → Calls Tryz.prog 103 #[.int .i64 op, .int .i64 x, .int .i64 y] w (RekPost op x y w) := fun e h => h.mono (fun r w' q => by unfold RekPost; rw [e]; exact q)
  by_cases h7 : op = 7
  · subst h7
    refine yes _ rfl ?_
    clear yes no
    go_enter Tryz.func103, Tryz.ntmps103
    go_wp2_with fail
    go_ret
    exact ⟨rfl, rfl⟩
  by_cases h8 : op = 8
  · subst h8
    refine yes _ rfl ?_
    clear yes no
    go_enter Tryz.func103, Tryz.ntmps103
    go_wp2_with fail
    go_ret
    exact ⟨rfl, rfl⟩
  by_cases h9 : op = 9
  · subst h9
    refine yes _ rfl ?_
    clear yes no
    go_enter Tryz.func103, Tryz.ntmps103
    go_wp2_with fail
    go_ret
    exact ⟨rfl, rfl⟩
  by_cases h10 : op = 10
  · subst h10
    by_cases hy : y = 0
    · subst hy
      refine no (by simp [rekL]) ?_
      clear yes no
      go_enter Tryz.func103, Tryz.ntmps103
      go_wp2_with (go_at_call 24; go_must (with_reducible refine (N0 _).mono ?_; (rintro e w1 ⟨rfl, hw1⟩); subst hw1))
      exact ⟨rfl, rfl, rfl⟩
    · refine yes (wrap64 (x.tdiv y)) (by simp [rekL, hy]) ?_
      have hyb : (y != 0) = true := by simp [hy]
      clear yes no
      go_enter Tryz.func103, Tryz.ntmps103
      go_wp2_with (go_at_call 24; go_must (with_reducible refine (N1 _).mono ?_; (rintro e w1 ⟨rfl, hw1⟩); subst hw1))
      go_ret
      exact ⟨rfl, rfl⟩
  by_cases h11 : op = 11
  · subst h11
    by_cases hy : y = 0
    · subst hy
      refine no (by simp [rekL]) ?_
      clear yes no
      go_enter Tryz.func103, Tryz.ntmps103
      go_wp2_with (go_at_call 24; go_must (with_reducible refine (N0 _).mono ?_; (rintro e w1 ⟨rfl, hw1⟩); subst hw1))
      exact ⟨rfl, rfl, rfl⟩
    · refine yes (x.tmod y) (by simp [rekL, hy]) ?_
      have hyb : (y != 0) = true := by simp [hy]
      clear yes no
      go_enter Tryz.func103, Tryz.ntmps103
      go_wp2_with (go_at_call 24; go_must (with_reducible refine (N1 _).mono ?_; (rintro e w1 ⟨rfl, hw1⟩); subst hw1))
      go_ret
      exact ⟨rfl, rfl⟩
  by_cases h12 : op = 12
  · subst h12
    by_cases hxy : x < y
    · refine yes 1 (by simp [rekL, hxy]) ?_
      clear yes no
      go_enter Tryz.func103, Tryz.ntmps103
      go_wp2_with (go_at_call 111; first | (with_reducible refine (T1 _).mono ?_; (rintro e w1 ⟨rfl, hw1⟩); subst hw1) | (with_reducible refine (T0 _).mono ?_; (rintro e w1 ⟨rfl, hw1⟩); subst hw1))
      go_ret
      exact ⟨rfl, rfl⟩
    · refine yes 0 (by simp [rekL]; omega) ?_
      clear yes no
      go_enter Tryz.func103, Tryz.ntmps103
      go_wp2_with (go_at_call 111; first | (with_reducible refine (T1 _).mono ?_; (rintro e w1 ⟨rfl, hw1⟩); subst hw1) | (with_reducible refine (T0 _).mono ?_; (rintro e w1 ⟨rfl, hw1⟩); subst hw1))
      go_ret
      exact ⟨rfl, rfl⟩
  · have g7 : (op == 7) = false := by simp [h7]
    have g8 : (op == 8) = false := by simp [h8]
    have g9 : (op == 9) = false := by simp [h9]
    have g10 : (op == 10) = false := by simp [h10]
    have g11 : (op == 11) = false := by simp [h11]
    have g12 : (op == 12) = false := by simp [h12]
    by_cases hxy : x = y
    · have gxy : (x == y) = true := by simp [hxy]
      refine yes 1 (by simp [rekL, h7, h8, h9, h10, h11, h12, hxy]) ?_
      clear yes no
      go_enter Tryz.func103, Tryz.ntmps103
      go_wp2_with (go_at_call 111; first | (with_reducible refine (T1 _).mono ?_; (rintro e w1 ⟨rfl, hw1⟩); subst hw1) | (with_reducible refine (T0 _).mono ?_; (rintro e w1 ⟨rfl, hw1⟩); subst hw1))
      go_ret
      exact ⟨rfl, rfl⟩
    · have gxy : (x == y) = false := by simp [hxy]
      refine yes 0 (by simp [rekL, h7, h8, h9, h10, h11, h12, hxy]) ?_
      clear yes no
      go_enter Tryz.func103, Tryz.ntmps103
      go_wp2_with (go_at_call 111; first | (with_reducible refine (T1 _).mono ?_; (rintro e w1 ⟨rfl, hw1⟩); subst hw1) | (with_reducible refine (T0 _).mono ?_; (rintro e w1 ⟨rfl, hw1⟩); subst hw1))
      go_ret
      exact ⟨rfl, rfl⟩
end Go.Proofs.YtnkfdpnommjlcaaGreatDoor
