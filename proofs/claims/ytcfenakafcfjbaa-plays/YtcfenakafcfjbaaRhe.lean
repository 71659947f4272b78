/- The document's Heard, Life. -/
import Derived.Test.YtcfenakafcfjbaaRfm
namespace Go.Proofs.Ytcfenakafcfjbaa
open Go.RowKit Go.ChangeShapes Go.WideShapes Go.ChangeAt Go.Deep Go.Maps Go.Sort

/-- One found at its place, the first. -/
def AtP (S : List Wd) (x : Int) (k : Nat) (e : Wd) : Prop := ∃ hk : k < S.length, S[k] = e ∧ e.nd = x ∧ ∀ j (hj : j < k), S[j].nd ≠ x
def NoP (S : List Wd) (x : Int) : Prop := ∀ e ∈ S, e.nd ≠ x
theorem AtP.pos {S : List Wd} {x : Int} {k : Nat} {e : Wd} (h : AtP S x k e) : PosP S x (k : Int) := by
  obtain ⟨hk, rfl, h2, h3⟩ := h
  exact .inr ⟨k, hk, rfl, h2, h3⟩
theorem NoP.pos {S : List Wd} {x : Int} (h : NoP S x) : PosP S x (-1) := .inl ⟨rfl, h⟩
/-- What is read of one that is found. -/
theorem RbM.cells {E : Cl} {w : World} {rb : Nat} {wt : Int} {S : List Wd} (h : RbM E w rb wt S) {x : Int} {k : Nat} {e : Wd} (hk : AtP S x k e) :
    ∃ g n c, k < n ∧ E g ∧ w.cell? ⟨rb, 1, none⟩ = some (.slice (some ⟨g, 0, none⟩) n c) ∧ w.cell? ⟨g, k * 5, none⟩ = some (.int .i64 e.nd) ∧ w.cell? ⟨g, k * 5 + 1, none⟩ = some (.int .i64 e.lf) ∧ w.cell? ⟨g, k * 5 + 2, none⟩ = some (.int .i64 e.at') ∧ w.cell? ⟨g, k * 5 + 3, none⟩ = some (.int .i64 e.mo) ∧ w.cell? ⟨g, k * 5 + 4, none⟩ = some (.bool e.inn) ∧ (∀ j, w.frozen? ⟨g, j, none⟩ = false) ∧
      ∀ (j : Nat) (v : Value) (y : Wd), j < 5 → y.cs = e.cs.set j v → RbM E (w.setCell ⟨g, k * 5 + j, none⟩ v) rb wt (S.set k y) ∧ Stp E E w (w.setCell ⟨g, k * 5 + j, none⟩ v) := by
  obtain ⟨h1, h2, hw, a, n, c, hB, hR, h5⟩ := h
  obtain ⟨hk', rfl, _, _⟩ := hk
  obtain ⟨g, rfl, hg⟩ := hR.isAt (by have := hR.1; omega)
  obtain ⟨y0, y1, y2, y3, y4, y5⟩ := hR.at hk'
  obtain ⟨g1, g2⟩ := h5 g rfl
  refine ⟨g, n, c, by have := hR.1; omega, g1, (hB.at (o := 1) rfl).1, y0, y1, y2, y3, y4, y5, fun j v y hj hy => ?_⟩
  have hgr := grown_setCell w g (k * 5 + j) v
  refine ⟨⟨fun q hq => Nat.lt_of_lt_of_le (h1 q hq) hgr.size, h2, hw, _, n, c, hB.grown hgr (fun e => g2 e.symm), hR.put hk' j hj v y hy, h5⟩, ⟨Kp.ofG hgr (fun q e => by cases e; exact g1), fun _ _ => Iff.rfl⟩⟩

set_option maxRecDepth 100000 in
set_option maxHeartbeats 2000000 in
theorem rlife_no {E : Cl} {w : World} {rb : Nat} {wt : Int} {S : List Wd} (h : RbM E w rb wt S) (hS : S.length ≤ 100000) (x : Int) (hx : NoP S x) :
    Calls Try.prog 17 #[.pointer (some ⟨rb, 0, none⟩), .int .i64 x] w fun e w' => e = .returned (.tuple #[.int .i64 0, .bool false]) ∧ w' = w := by
  have C21 := hide (find_any h hS x (-1) hx.pos)
  clear h hx
  go_enter Try.func17, Try.ntmps17
  go_wp2_with (go_at_call 21; go_must ((with_reducible refine C21.out.mono ?_); rintro e w1 ⟨rfl, hw1⟩; subst hw1))
  go_ret2
  exact ⟨rfl, rfl⟩
set_option maxRecDepth 100000 in
set_option maxHeartbeats 2000000 in
theorem rlife_yes {E : Cl} {w : World} {rb : Nat} {wt : Int} {S : List Wd} (h : RbM E w rb wt S) (hS : S.length ≤ 100000) (x : Int) {k : Nat} {e : Wd} (hk : AtP S x k e) :
    Calls Try.prog 17 #[.pointer (some ⟨rb, 0, none⟩), .int .i64 x] w fun r w' => r = .returned (.tuple #[.int .i64 (if e.inn then e.lf else 0), .bool e.inn]) ∧ w' = w := by
  have C21 := hide (find_any h hS x k hk.pos)
  obtain ⟨g, n, c, hkn, hg, c1, y0, y1, y2, y3, y4, y5, _⟩ := h.cells hk
  have hk1 : ¬ ((k : Int) < 0) := by omega
  have hk2 : (k : Int) < (n : Int) := by omega
  generalize e.lf = lf at y1
  generalize e.inn = q at y4
  clear h hk y0 y2 y3
  cases q
  · go_enter Try.func17, Try.ntmps17
    go_wp2_with (go_at_call 21; go_must ((with_reducible refine C21.out.mono ?_); rintro e w1 ⟨rfl, hw1⟩; subst hw1))
    go_ret2
    exact ⟨rfl, rfl⟩
  · go_enter Try.func17, Try.ntmps17
    go_wp2_with (go_at_call 21; go_must ((with_reducible refine C21.out.mono ?_); rintro e w1 ⟨rfl, hw1⟩; subst hw1))
    go_ret2
    exact ⟨rfl, rfl⟩

set_option maxRecDepth 100000 in
set_option maxHeartbeats 2000000 in
theorem rheard_none {E : Cl} {w : World} {rb : Nat} {wt : Int} {S : List Wd} (h : RbM E w rb wt S) (hS : S.length ≤ 100000) (x life now : Int) (hx : NoP S x) :
    Calls Try.prog 10 #[.pointer (some ⟨rb, 0, none⟩), .int .i64 x, .int .i64 life, .int .i64 now] w fun e w' => e = .returned (.bool false) ∧ w' = w := by
  have C21 := hide (find_any h hS x (-1) hx.pos)
  have C23 := hide (when_any now w)
  generalize okT now = q at C23
  clear h hx
  cases q
  all_goals
    go_enter Try.func10, Try.ntmps10
    go_wp2_with (first
      | (go_at_call 21; ((with_reducible refine C21.out.mono ?_); rintro e w1 ⟨rfl, hw1⟩; subst hw1))
      | (go_at_call 23; go_must ((with_reducible refine C23.out.mono ?_); rintro e w1 ⟨rfl, hw1⟩; subst hw1)))
    go_ret
    exact ⟨rfl, rfl⟩

set_option maxRecDepth 100000 in
set_option maxHeartbeats 2000000 in
theorem rheard_no {E : Cl} {w : World} {rb : Nat} {wt : Int} {S : List Wd} (h : RbM E w rb wt S) (hS : S.length ≤ 100000) (x life now : Int) {k : Nat} {e : Wd} (hk : AtP S x k e) (hq : (okT now && e.inn && decide (e.lf = life)) = false) :
    Calls Try.prog 10 #[.pointer (some ⟨rb, 0, none⟩), .int .i64 x, .int .i64 life, .int .i64 now] w fun r w' => r = .returned (.bool false) ∧ w' = w := by
  have C21 := hide (find_any h hS x k hk.pos)
  have C23 := hide (when_any now w)
  obtain ⟨g, n, c, hkn, hg, c1, y0, y1, y2, y3, y4, y5, _⟩ := h.cells hk
  have hk1 : ¬ ((k : Int) < 0) := by omega
  have hk2 : (k : Int) < (n : Int) := by omega
  have HQ := hide hq
  generalize okT now = q1 at C23 HQ
  generalize e.lf = lf at y1 HQ
  generalize e.inn = q at y4 HQ
  clear h hk y0 y2 y3 hq
  cases q1
  · clear HQ
    go_enter Try.func10, Try.ntmps10
    go_wp2_with (first
      | (go_at_call 21; ((with_reducible refine C21.out.mono ?_); rintro e w1 ⟨rfl, hw1⟩; subst hw1))
      | (go_at_call 23; go_must ((with_reducible refine C23.out.mono ?_); rintro e w1 ⟨rfl, hw1⟩; subst hw1)))
    go_ret
    exact ⟨rfl, rfl⟩
  · cases q
    · clear HQ
      go_enter Try.func10, Try.ntmps10
      go_wp2_with (first
        | (go_at_call 21; ((with_reducible refine C21.out.mono ?_); rintro e w1 ⟨rfl, hw1⟩; subst hw1))
        | (go_at_call 23; go_must ((with_reducible refine C23.out.mono ?_); rintro e w1 ⟨rfl, hw1⟩; subst hw1)))
      go_ret
      exact ⟨rfl, rfl⟩
    · have hne : (lf != life) = true := by have := HQ.out; simpa using this
      clear HQ
      go_enter Try.func10, Try.ntmps10
      go_wp2_with (first
        | (go_at_call 21; ((with_reducible refine C21.out.mono ?_); rintro e w1 ⟨rfl, hw1⟩; subst hw1))
        | (go_at_call 23; go_must ((with_reducible refine C23.out.mono ?_); rintro e w1 ⟨rfl, hw1⟩; subst hw1)))
      go_ret
      exact ⟨rfl, rfl⟩

theorem set_get {S : List Wd} {x : Int} {k : Nat} {e : Wd} (hk : AtP S x k e) : S.set k e = S := by
  obtain ⟨h1, rfl, _⟩ := hk
  exact List.set_getElem_self h1

set_option maxRecDepth 100000 in
set_option maxHeartbeats 2000000 in
theorem rheard_yes {E : Cl} {w : World} {rb : Nat} {wt : Int} {S : List Wd} (h : RbM E w rb wt S) (hS : S.length ≤ 100000) (x life now : Int) {k : Nat} {e : Wd} (hk : AtP S x k e) (hq : (okT now && e.inn && decide (e.lf = life)) = true) :
    Calls Try.prog 10 #[.pointer (some ⟨rb, 0, none⟩), .int .i64 x, .int .i64 life, .int .i64 now] w fun r w' => r = .returned (.bool true) ∧ RbM E w' rb wt (S.set k { e with at' := max e.at' now }) ∧ Stp E E w w' := by
  have C21 := hide (find_any h hS x k hk.pos)
  have C23 := hide (when_any now w)
  obtain ⟨g, n, c, hkn, hg, c1, y0, y1, y2, y3, y4, y5, hP⟩ := h.cells hk
  have hk1 : ¬ ((k : Int) < 0) := by omega
  have hk2 : (k : Int) < (n : Int) := by omega
  simp only [Bool.and_eq_true, decide_eq_true_eq] at hq
  obtain ⟨⟨q1, q2⟩, q3⟩ := hq
  rw [q1] at C23
  rw [q2] at y4
  rw [q3] at y1
  have hne : (life != life) = false := by simp
  have hf := y5 (k * 5 + 2)
  by_cases hgt : now > e.at'
  · have HP := hide (hP 2 (.int .i64 now) { e with at' := max e.at' now } (by omega) (by simp [Wd.cs]; omega))
    generalize e.at' = t at y2 HP hgt
    have HG := hide hgt
    clear h hk y0 y3 y5 hP q1 q2 q3
    go_enter Try.func10, Try.ntmps10
    go_wp2_with (first
      | (go_at_call 21; ((with_reducible refine C21.out.mono ?_); rintro e w1 ⟨rfl, hw1⟩; subst hw1))
      | (go_at_call 23; go_must ((with_reducible refine C23.out.mono ?_); rintro e w1 ⟨rfl, hw1⟩; subst hw1)))
    go_ret
    exact ⟨rfl, HP.out.1, HP.out.2⟩
  · have HP := hide (show RbM E w rb wt (S.set k { e with at' := max e.at' now }) from by
      rw [show ({ e with at' := max e.at' now } : Wd) = e from by rw [show max e.at' now = e.at' by omega]]
      rw [set_get hk]; exact h)
    generalize e.at' = t at y2 HP hgt
    clear h hk y0 y3 y5 hP q1 q2 q3
    go_enter Try.func10, Try.ntmps10
    go_wp2_with (first
      | (go_at_call 21; ((with_reducible refine C21.out.mono ?_); rintro e w1 ⟨rfl, hw1⟩; subst hw1))
      | (go_at_call 23; go_must ((with_reducible refine C23.out.mono ?_); rintro e w1 ⟨rfl, hw1⟩; subst hw1)))
    go_ret
    exact ⟨rfl, HP.out, Stp.refl _ _⟩
end Go.Proofs.Ytcfenakafcfjbaa
