/- CodeWays: the walk. -/
import Derived.Test.YthimbiigjdmhnaaDoorOps
namespace Go.Proofs.YthimbiigjdmhnaaDoor
open Go.RowKit Go.ChangeShapes Go.WideShapes Go.ChangeAt Go.Deep
namespace codeWays

theorem alloc_below (w : World) (o : Obj) : Below w.heap.size w (w.alloc o) := (Below.refl _ _).alloc (Nat.le_refl _) _
/-- The two functions, as cells. -/
abbrev twoF : Array Value := #[.string ⟨#[]⟩, .int .i64 3, .int .i64 0, .slice none 0 0, .string ⟨#[]⟩, .int .i64 8, .int .i64 0, .slice none 0 0]
theorem chain {a b c : World} (h : Below a.heap.size a b) (k : Below b.heap.size b c) : Below a.heap.size a c := h.trans (k.mono h.size)
theorem fr_new (w : World) : FReads (w.alloc (.cells twoF 40)) (some ⟨w.heap.size, 0, none⟩) [3, 8] := by
  refine .inr ⟨_, _, rfl, fun j n hj => ?_⟩
  rw [World.cell?_alloc_at _ _ _ _ rfl]
  match j, hj with
  | 0, h => simp at h; subst h; rfl
  | 1, h => simp at h; subst h; rfl
theorem fr_cells {w : World} {g : Nat} (h : FReads w (some ⟨g, 0, none⟩) [3, 8]) : w.cell? ⟨g, 1, none⟩ = some (.int .i64 3) ∧ w.cell? ⟨g, 5, none⟩ = some (.int .i64 8) := by
  rcases h with h | ⟨b, off, e, h⟩
  · cases h
  · simp at e
    obtain ⟨rfl, rfl⟩ := e
    exact ⟨h 0 3 rfl, h 1 8 rfl⟩
theorem ins_at (w1 : World) (op n : Int) {o : Obj} {w2 : World} (h : Below ((w1.alloc (.cells #[.int .i64 op, .int .i64 n] 23)).alloc o).heap.size ((w1.alloc (.cells #[.int .i64 op, .int .i64 n] 23)).alloc o) w2) :
    w2.cell? ⟨w1.heap.size, 0, none⟩ = some (.int .i64 op) ∧ w2.cell? ⟨w1.heap.size, 1, none⟩ = some (.int .i64 n) := by
  have hb := alloc_below (w1.alloc (.cells #[.int .i64 op, .int .i64 n] 23)) o
  have h2 := hb.trans (h.mono hb.size)
  exact ⟨box0 h2, box1 h2⟩

theorem word_none (a : Int) (ha : ¬ (1 ≤ a ∧ a ≤ 19)) : (kindOf a).word.toList.isEmpty = true := by rw [kind_no ha]; decide +kernel

set_option maxRecDepth 100000 in
set_option maxHeartbeats 2000000 in
theorem other (op n p : Int) (w : World) (hT : Tab w) (hp0 : 0 ≤ p) (hp1 : p ≤ 1000) (hn0 : 0 ≤ n) (hn1 : n ≤ 1000) (h1 : 1 ≤ op) (h2 : op ≤ 17) (h3 : ¬ op = 14) (h4 : ¬ op = 15) (h5 : ¬ op = 16) :
    Calls Tryd.prog 5 #[.int .i64 op, .int .i64 n, .int .i64 p] w fun e w' => e = .returned (.bool true) ∧ Below w.heap.size w w' := by
  have hs : wrap64 (p + 1) = p + 1 := IntWalk.wrap64_in _ (by omega)
  have hw := word_yes op (by omega)
  have HL : nextL op n (p + 1) = [p + 1] := by unfold nextL; rw [if_neg (by omega), if_neg h3, if_neg (by omega)]
  obtain ⟨x, HP, hx0, hx1⟩ : ∃ x, popsOf op n [3, 8] = x ∧ 0 ≤ x ∧ x ≤ 2 := ⟨_, rfl, by unfold popsOf; rw [if_neg h5, pops_spec]; split <;> (try split) <;> omega, by unfold popsOf; rw [if_neg h5, pops_spec]; split <;> (try split) <;> omega⟩
  obtain ⟨y, HQ, hy0, hy1⟩ : ∃ y, (kindOf op).pushes = y ∧ 0 ≤ y ∧ y ≤ 2 := ⟨_, rfl, by rw [pushes_spec]; split <;> (try split) <;> omega, by rw [pushes_spec]; split <;> (try split) <;> omega⟩
  go_enter Tryd.func5, Tryd.ntmps5
  go_wp2_with (first
    | (go_at_call 6; go_must (refine (alive_any w hT).mono ?_; rintro e w1 ⟨rfl, hb1⟩; have hT1 := hT.below hb1; have hbA := alloc_below w1 (.cells #[.int .i64 op, .int .i64 n] 23); have hbX := hbA.trans ((alloc_below (w1.alloc (.cells #[.int .i64 op, .int .i64 n] 23)) (.cells twoF 40)).mono hbA.size); have NX := next_any op n p _ (hT1.below hbX); rw [hs, HL] at NX))
    | (go_at_call 9; go_must (refine NX.mono ?_; rintro e w2 ⟨v, rfl, ho⟩; clear NX; obtain ⟨la, lc, rfl, rl⟩ := own_reads ho; have hb2 := ho.2; have hT2 := (hT1.below hbX).below hb2; have fr2 := (fr_new (w1.alloc (.cells #[.int .i64 op, .int .i64 n] 23))).below hb2; rw [show (w1.alloc (.cells #[.int .i64 op, .int .i64 n] 23)).heap.size = w1.heap.size + 1 by simp] at fr2; obtain ⟨i20, i21⟩ := ins_at w1 op n hb2; have z2 : w1.heap.size + 1 < w2.heap.size := (by have := hb2.size; simp at this; omega); have z1 : w1.heap.size < w2.heap.size := (by omega); have rw2 := reads_new w2 (iV [(p + 1)]) 3; obtain ⟨f20, f21⟩ := fr_cells fr2; have P3 := pops_any op n (some ⟨w1.heap.size + 1, 0, none⟩) 2 2 [3, 8] (w2.alloc (.cells #[.int .i64 (p + 1)] 3)) (hT2.below (alloc_below w2 _)) rfl (fr2.below (alloc_below w2 _)); rw [HP] at P3))
    | (go_at_call 16; go_must (refine P3.mono ?_; rintro e w3 ⟨rfl, hb3⟩; clear P3; have hb23 : Below w2.heap.size w2 w3 := (alloc_below w2 _).trans (hb3.mono (by simp)); have i30 := keep_cell i20 hb23; have i31 := keep_cell i21 hb23; have hT3 := hT2.below hb23; have Q4 := pushes_any op n w3 hT3; rw [HQ] at Q4))
    | (go_at_call 18; go_must (refine Q4.mono ?_; rintro e w4 ⟨rfl, hb4⟩; clear Q4; have hT4 := hT3.below hb4; have hb24 : Below w2.heap.size w2 w4 := hb23.trans (hb4.mono hb23.size); have f40 := keep_cell f20 hb24; have f41 := keep_cell f21 hb24; have S5 := same_any la _ lc 1 1 1 ([p + 1] : List Int) ([p + 1] : List Int) w4 rfl rfl (rl.below hb24) (rw2.below (hb3.trans (hb4.mono hb3.size))) (by simp) (by simp); rw [decide_eq_true (rfl : ([p + 1] : List Int) = ([p + 1] : List Int))] at S5))
    | (go_at_call 10; go_must (refine S5.mono ?_; rintro e w5 ⟨rfl, hb5⟩; have N6 := name_any op w5 (hT4.below hb5)))
    | (go_at_call 12; go_must (refine N6.mono ?_; rintro e w6 ⟨rfl, hb6⟩)))
  go_ret
  exact ⟨rfl, chain (chain (chain (chain (chain hb1 hbX) hb2) hb24) hb5) hb6⟩

set_option maxRecDepth 100000 in
set_option maxHeartbeats 2000000 in
theorem jump (n p : Int) (w : World) (hT : Tab w) (hp0 : 0 ≤ p) (hp1 : p ≤ 1000) (hn0 : 0 ≤ n) (hn1 : n ≤ 1000)  :
    Calls Tryd.prog 5 #[.int .i64 14, .int .i64 n, .int .i64 p] w fun e w' => e = .returned (.bool true) ∧ Below w.heap.size w w' := by
  have hs : wrap64 (p + 1) = p + 1 := IntWalk.wrap64_in _ (by omega)
  have hw := word_yes 14 (by omega)
  have HP : popsOf 14 n [3, 8] = 0 := by unfold popsOf; rw [if_neg (by decide)]; decide +kernel
  have HQ : (kindOf 14).pushes = 0 := by decide +kernel
  have HL : nextL 14 n (p + 1) = [n] := rfl
  go_enter Tryd.func5, Tryd.ntmps5
  go_wp2_with (first
    | (go_at_call 6; go_must (refine (alive_any w hT).mono ?_; rintro e w1 ⟨rfl, hb1⟩; have hT1 := hT.below hb1; have hbA := alloc_below w1 (.cells #[.int .i64 14, .int .i64 n] 23); have hbX := hbA.trans ((alloc_below (w1.alloc (.cells #[.int .i64 14, .int .i64 n] 23)) (.cells twoF 40)).mono hbA.size); have NX := next_any 14 n p _ (hT1.below hbX); rw [hs, HL] at NX))
    | (go_at_call 9; go_must (refine NX.mono ?_; rintro e w2 ⟨v, rfl, ho⟩; clear NX; obtain ⟨la, lc, rfl, rl⟩ := own_reads ho; have hb2 := ho.2; have hT2 := (hT1.below hbX).below hb2; have fr2 := (fr_new (w1.alloc (.cells #[.int .i64 14, .int .i64 n] 23))).below hb2; rw [show (w1.alloc (.cells #[.int .i64 14, .int .i64 n] 23)).heap.size = w1.heap.size + 1 by simp] at fr2; obtain ⟨i20, i21⟩ := ins_at w1 14 n hb2; have z2 : w1.heap.size + 1 < w2.heap.size := (by have := hb2.size; simp at this; omega); have z1 : w1.heap.size < w2.heap.size := (by omega); have rw2 := reads_new w2 (iV [n]) 3; obtain ⟨f20, f21⟩ := fr_cells fr2; have P3 := pops_any 14 n (some ⟨w1.heap.size + 1, 0, none⟩) 2 2 [3, 8] (w2.alloc (.cells #[.int .i64 n] 3)) (hT2.below (alloc_below w2 _)) rfl (fr2.below (alloc_below w2 _)); rw [HP] at P3))
    | (go_at_call 16; go_must (refine P3.mono ?_; rintro e w3 ⟨rfl, hb3⟩; clear P3; have hb23 : Below w2.heap.size w2 w3 := (alloc_below w2 _).trans (hb3.mono (by simp)); have i30 := keep_cell i20 hb23; have i31 := keep_cell i21 hb23; have hT3 := hT2.below hb23; have Q4 := pushes_any 14 n w3 hT3; rw [HQ] at Q4))
    | (go_at_call 18; go_must (refine Q4.mono ?_; rintro e w4 ⟨rfl, hb4⟩; clear Q4; have hT4 := hT3.below hb4; have hb24 : Below w2.heap.size w2 w4 := hb23.trans (hb4.mono hb23.size); have f40 := keep_cell f20 hb24; have f41 := keep_cell f21 hb24; have S5 := same_any la _ lc 1 1 1 ([n] : List Int) ([n] : List Int) w4 rfl rfl (rl.below hb24) (rw2.below (hb3.trans (hb4.mono hb3.size))) (by simp) (by simp); rw [decide_eq_true (rfl : ([n] : List Int) = ([n] : List Int))] at S5))
    | (go_at_call 10; go_must (refine S5.mono ?_; rintro e w5 ⟨rfl, hb5⟩; have N6 := name_any 14 w5 (hT4.below hb5)))
    | (go_at_call 12; go_must (refine N6.mono ?_; rintro e w6 ⟨rfl, hb6⟩)))
  go_ret
  exact ⟨rfl, chain (chain (chain (chain (chain hb1 hbX) hb2) hb24) hb5) hb6⟩

set_option maxRecDepth 100000 in
set_option maxHeartbeats 2000000 in
theorem zero2 (n p : Int) (w : World) (hT : Tab w) (hp0 : 0 ≤ p) (hp1 : p ≤ 1000) (hn0 : 0 ≤ n) (hn1 : n ≤ 1000) (hd : (n != p + 1) = true) :
    Calls Tryd.prog 5 #[.int .i64 15, .int .i64 n, .int .i64 p] w fun e w' => e = .returned (.bool true) ∧ Below w.heap.size w w' := by
  have hs : wrap64 (p + 1) = p + 1 := IntWalk.wrap64_in _ (by omega)
  have hw := word_yes 15 (by omega)
  have HP : popsOf 15 n [3, 8] = 1 := by unfold popsOf; rw [if_neg (by decide)]; decide +kernel
  have HQ : (kindOf 15).pushes = 0 := by decide +kernel
  have HL : nextL 15 n (p + 1) = [p + 1, n] := by have h : ¬ n = p + 1 := (by simpa using hd); simp [nextL, h]
  go_enter Tryd.func5, Tryd.ntmps5
  go_wp2_with (first
    | (go_at_call 6; go_must (refine (alive_any w hT).mono ?_; rintro e w1 ⟨rfl, hb1⟩; have hT1 := hT.below hb1; have hbA := alloc_below w1 (.cells #[.int .i64 15, .int .i64 n] 23); have hbX := hbA.trans ((alloc_below (w1.alloc (.cells #[.int .i64 15, .int .i64 n] 23)) (.cells twoF 40)).mono hbA.size); have NX := next_any 15 n p _ (hT1.below hbX); rw [hs, HL] at NX))
    | (go_at_call 9; go_must (refine NX.mono ?_; rintro e w2 ⟨v, rfl, ho⟩; clear NX; obtain ⟨la, lc, rfl, rl⟩ := own_reads ho; have hb2 := ho.2; have hT2 := (hT1.below hbX).below hb2; have fr2 := (fr_new (w1.alloc (.cells #[.int .i64 15, .int .i64 n] 23))).below hb2; rw [show (w1.alloc (.cells #[.int .i64 15, .int .i64 n] 23)).heap.size = w1.heap.size + 1 by simp] at fr2; obtain ⟨i20, i21⟩ := ins_at w1 15 n hb2; have z2 : w1.heap.size + 1 < w2.heap.size := (by have := hb2.size; simp at this; omega); have z1 : w1.heap.size < w2.heap.size := (by omega); have rw2 := reads_new w2 (iV [(p + 1), n]) 3; obtain ⟨f20, f21⟩ := fr_cells fr2; have P3 := pops_any 15 n (some ⟨w1.heap.size + 1, 0, none⟩) 2 2 [3, 8] (w2.alloc (.cells #[.int .i64 (p + 1), .int .i64 n] 3)) (hT2.below (alloc_below w2 _)) rfl (fr2.below (alloc_below w2 _)); rw [HP] at P3))
    | (go_at_call 16; go_must (refine P3.mono ?_; rintro e w3 ⟨rfl, hb3⟩; clear P3; have hb23 : Below w2.heap.size w2 w3 := (alloc_below w2 _).trans (hb3.mono (by simp)); have i30 := keep_cell i20 hb23; have i31 := keep_cell i21 hb23; have hT3 := hT2.below hb23; have Q4 := pushes_any 15 n w3 hT3; rw [HQ] at Q4))
    | (go_at_call 18; go_must (refine Q4.mono ?_; rintro e w4 ⟨rfl, hb4⟩; clear Q4; have hT4 := hT3.below hb4; have hb24 : Below w2.heap.size w2 w4 := hb23.trans (hb4.mono hb23.size); have f40 := keep_cell f20 hb24; have f41 := keep_cell f21 hb24; have S5 := same_any la _ lc 2 2 2 ([p + 1, n] : List Int) ([p + 1, n] : List Int) w4 rfl rfl (rl.below hb24) (rw2.below (hb3.trans (hb4.mono hb3.size))) (by simp) (by simp); rw [decide_eq_true (rfl : ([p + 1, n] : List Int) = ([p + 1, n] : List Int))] at S5))
    | (go_at_call 10; go_must (refine S5.mono ?_; rintro e w5 ⟨rfl, hb5⟩; have N6 := name_any 15 w5 (hT4.below hb5)))
    | (go_at_call 12; go_must (refine N6.mono ?_; rintro e w6 ⟨rfl, hb6⟩)))
  go_ret
  exact ⟨rfl, chain (chain (chain (chain (chain hb1 hbX) hb2) hb24) hb5) hb6⟩

set_option maxRecDepth 100000 in
set_option maxHeartbeats 2000000 in
theorem zero1 (n p : Int) (w : World) (hT : Tab w) (hp0 : 0 ≤ p) (hp1 : p ≤ 1000) (hn0 : 0 ≤ n) (hn1 : n ≤ 1000) (hd : (n != p + 1) = false) :
    Calls Tryd.prog 5 #[.int .i64 15, .int .i64 n, .int .i64 p] w fun e w' => e = .returned (.bool true) ∧ Below w.heap.size w w' := by
  have hs : wrap64 (p + 1) = p + 1 := IntWalk.wrap64_in _ (by omega)
  have hw := word_yes 15 (by omega)
  have HP : popsOf 15 n [3, 8] = 1 := by unfold popsOf; rw [if_neg (by decide)]; decide +kernel
  have HQ : (kindOf 15).pushes = 0 := by decide +kernel
  have HL : nextL 15 n (p + 1) = [p + 1] := by have h : n = p + 1 := (by simpa using hd); simp [nextL, h]
  go_enter Tryd.func5, Tryd.ntmps5
  go_wp2_with (first
    | (go_at_call 6; go_must (refine (alive_any w hT).mono ?_; rintro e w1 ⟨rfl, hb1⟩; have hT1 := hT.below hb1; have hbA := alloc_below w1 (.cells #[.int .i64 15, .int .i64 n] 23); have hbX := hbA.trans ((alloc_below (w1.alloc (.cells #[.int .i64 15, .int .i64 n] 23)) (.cells twoF 40)).mono hbA.size); have NX := next_any 15 n p _ (hT1.below hbX); rw [hs, HL] at NX))
    | (go_at_call 9; go_must (refine NX.mono ?_; rintro e w2 ⟨v, rfl, ho⟩; clear NX; obtain ⟨la, lc, rfl, rl⟩ := own_reads ho; have hb2 := ho.2; have hT2 := (hT1.below hbX).below hb2; have fr2 := (fr_new (w1.alloc (.cells #[.int .i64 15, .int .i64 n] 23))).below hb2; rw [show (w1.alloc (.cells #[.int .i64 15, .int .i64 n] 23)).heap.size = w1.heap.size + 1 by simp] at fr2; obtain ⟨i20, i21⟩ := ins_at w1 15 n hb2; have z2 : w1.heap.size + 1 < w2.heap.size := (by have := hb2.size; simp at this; omega); have z1 : w1.heap.size < w2.heap.size := (by omega); have rw2 := reads_new w2 (iV [(p + 1)]) 3; obtain ⟨f20, f21⟩ := fr_cells fr2; have P3 := pops_any 15 n (some ⟨w1.heap.size + 1, 0, none⟩) 2 2 [3, 8] (w2.alloc (.cells #[.int .i64 (p + 1)] 3)) (hT2.below (alloc_below w2 _)) rfl (fr2.below (alloc_below w2 _)); rw [HP] at P3))
    | (go_at_call 16; go_must (refine P3.mono ?_; rintro e w3 ⟨rfl, hb3⟩; clear P3; have hb23 : Below w2.heap.size w2 w3 := (alloc_below w2 _).trans (hb3.mono (by simp)); have i30 := keep_cell i20 hb23; have i31 := keep_cell i21 hb23; have hT3 := hT2.below hb23; have Q4 := pushes_any 15 n w3 hT3; rw [HQ] at Q4))
    | (go_at_call 18; go_must (refine Q4.mono ?_; rintro e w4 ⟨rfl, hb4⟩; clear Q4; have hT4 := hT3.below hb4; have hb24 : Below w2.heap.size w2 w4 := hb23.trans (hb4.mono hb23.size); have f40 := keep_cell f20 hb24; have f41 := keep_cell f21 hb24; have S5 := same_any la _ lc 1 1 1 ([p + 1] : List Int) ([p + 1] : List Int) w4 rfl rfl (rl.below hb24) (rw2.below (hb3.trans (hb4.mono hb3.size))) (by simp) (by simp); rw [decide_eq_true (rfl : ([p + 1] : List Int) = ([p + 1] : List Int))] at S5))
    | (go_at_call 10; go_must (refine S5.mono ?_; rintro e w5 ⟨rfl, hb5⟩; have N6 := name_any 15 w5 (hT4.below hb5)))
    | (go_at_call 12; go_must (refine N6.mono ?_; rintro e w6 ⟨rfl, hb6⟩)))
  go_ret
  exact ⟨rfl, chain (chain (chain (chain (chain hb1 hbX) hb2) hb24) hb5) hb6⟩

set_option maxRecDepth 100000 in
set_option maxHeartbeats 2000000 in
theorem spawn0 (p : Int) (w : World) (hT : Tab w) (hp0 : 0 ≤ p) (hp1 : p ≤ 1000)   :
    Calls Tryd.prog 5 #[.int .i64 16, .int .i64 0, .int .i64 p] w fun e w' => e = .returned (.bool true) ∧ Below w.heap.size w w' := by
  have hs : wrap64 (p + 1) = p + 1 := IntWalk.wrap64_in _ (by omega)
  have hw := word_yes 16 (by omega)
  have HP : popsOf 16 0 [3, 8] = 3 := rfl
  have HQ : (kindOf 16).pushes = 1 := by decide +kernel
  have HL : nextL 16 0 (p + 1) = [p + 1] := rfl
  go_enter Tryd.func5, Tryd.ntmps5
  go_wp2_with (first
    | (go_at_call 6; go_must (refine (alive_any w hT).mono ?_; rintro e w1 ⟨rfl, hb1⟩; have hT1 := hT.below hb1; have hbA := alloc_below w1 (.cells #[.int .i64 16, .int .i64 0] 23); have hbX := hbA.trans ((alloc_below (w1.alloc (.cells #[.int .i64 16, .int .i64 0] 23)) (.cells twoF 40)).mono hbA.size); have NX := next_any 16 0 p _ (hT1.below hbX); rw [hs, HL] at NX))
    | (go_at_call 9; go_must (refine NX.mono ?_; rintro e w2 ⟨v, rfl, ho⟩; clear NX; obtain ⟨la, lc, rfl, rl⟩ := own_reads ho; have hb2 := ho.2; have hT2 := (hT1.below hbX).below hb2; have fr2 := (fr_new (w1.alloc (.cells #[.int .i64 16, .int .i64 0] 23))).below hb2; rw [show (w1.alloc (.cells #[.int .i64 16, .int .i64 0] 23)).heap.size = w1.heap.size + 1 by simp] at fr2; obtain ⟨i20, i21⟩ := ins_at w1 16 0 hb2; have z2 : w1.heap.size + 1 < w2.heap.size := (by have := hb2.size; simp at this; omega); have z1 : w1.heap.size < w2.heap.size := (by omega); have rw2 := reads_new w2 (iV [(p + 1)]) 3; obtain ⟨f20, f21⟩ := fr_cells fr2; have P3 := pops_any 16 0 (some ⟨w1.heap.size + 1, 0, none⟩) 2 2 [3, 8] (w2.alloc (.cells #[.int .i64 (p + 1)] 3)) (hT2.below (alloc_below w2 _)) rfl (fr2.below (alloc_below w2 _)); rw [HP] at P3))
    | (go_at_call 16; go_must (refine P3.mono ?_; rintro e w3 ⟨rfl, hb3⟩; clear P3; have hb23 : Below w2.heap.size w2 w3 := (alloc_below w2 _).trans (hb3.mono (by simp)); have i30 := keep_cell i20 hb23; have i31 := keep_cell i21 hb23; have hT3 := hT2.below hb23; have Q4 := pushes_any 16 0 w3 hT3; rw [HQ] at Q4))
    | (go_at_call 18; go_must (refine Q4.mono ?_; rintro e w4 ⟨rfl, hb4⟩; clear Q4; have hT4 := hT3.below hb4; have hb24 : Below w2.heap.size w2 w4 := hb23.trans (hb4.mono hb23.size); have f40 := keep_cell f20 hb24; have f41 := keep_cell f21 hb24; have S5 := same_any la _ lc 1 1 1 ([p + 1] : List Int) ([p + 1] : List Int) w4 rfl rfl (rl.below hb24) (rw2.below (hb3.trans (hb4.mono hb3.size))) (by simp) (by simp); rw [decide_eq_true (rfl : ([p + 1] : List Int) = ([p + 1] : List Int))] at S5))
    | (go_at_call 10; go_must (refine S5.mono ?_; rintro e w5 ⟨rfl, hb5⟩; have N6 := name_any 16 w5 (hT4.below hb5)))
    | (go_at_call 12; go_must (refine N6.mono ?_; rintro e w6 ⟨rfl, hb6⟩)))
  go_ret
  exact ⟨rfl, chain (chain (chain (chain (chain hb1 hbX) hb2) hb24) hb5) hb6⟩

set_option maxRecDepth 100000 in
set_option maxHeartbeats 2000000 in
theorem spawn1 (p : Int) (w : World) (hT : Tab w) (hp0 : 0 ≤ p) (hp1 : p ≤ 1000)   :
    Calls Tryd.prog 5 #[.int .i64 16, .int .i64 1, .int .i64 p] w fun e w' => e = .returned (.bool true) ∧ Below w.heap.size w w' := by
  have hs : wrap64 (p + 1) = p + 1 := IntWalk.wrap64_in _ (by omega)
  have hw := word_yes 16 (by omega)
  have HP : popsOf 16 1 [3, 8] = 8 := rfl
  have HQ : (kindOf 16).pushes = 1 := by decide +kernel
  have HL : nextL 16 1 (p + 1) = [p + 1] := rfl
  go_enter Tryd.func5, Tryd.ntmps5
  go_wp2_with (first
    | (go_at_call 6; go_must (refine (alive_any w hT).mono ?_; rintro e w1 ⟨rfl, hb1⟩; have hT1 := hT.below hb1; have hbA := alloc_below w1 (.cells #[.int .i64 16, .int .i64 1] 23); have hbX := hbA.trans ((alloc_below (w1.alloc (.cells #[.int .i64 16, .int .i64 1] 23)) (.cells twoF 40)).mono hbA.size); have NX := next_any 16 1 p _ (hT1.below hbX); rw [hs, HL] at NX))
    | (go_at_call 9; go_must (refine NX.mono ?_; rintro e w2 ⟨v, rfl, ho⟩; clear NX; obtain ⟨la, lc, rfl, rl⟩ := own_reads ho; have hb2 := ho.2; have hT2 := (hT1.below hbX).below hb2; have fr2 := (fr_new (w1.alloc (.cells #[.int .i64 16, .int .i64 1] 23))).below hb2; rw [show (w1.alloc (.cells #[.int .i64 16, .int .i64 1] 23)).heap.size = w1.heap.size + 1 by simp] at fr2; obtain ⟨i20, i21⟩ := ins_at w1 16 1 hb2; have z2 : w1.heap.size + 1 < w2.heap.size := (by have := hb2.size; simp at this; omega); have z1 : w1.heap.size < w2.heap.size := (by omega); have rw2 := reads_new w2 (iV [(p + 1)]) 3; obtain ⟨f20, f21⟩ := fr_cells fr2; have P3 := pops_any 16 1 (some ⟨w1.heap.size + 1, 0, none⟩) 2 2 [3, 8] (w2.alloc (.cells #[.int .i64 (p + 1)] 3)) (hT2.below (alloc_below w2 _)) rfl (fr2.below (alloc_below w2 _)); rw [HP] at P3))
    | (go_at_call 16; go_must (refine P3.mono ?_; rintro e w3 ⟨rfl, hb3⟩; clear P3; have hb23 : Below w2.heap.size w2 w3 := (alloc_below w2 _).trans (hb3.mono (by simp)); have i30 := keep_cell i20 hb23; have i31 := keep_cell i21 hb23; have hT3 := hT2.below hb23; have Q4 := pushes_any 16 1 w3 hT3; rw [HQ] at Q4))
    | (go_at_call 18; go_must (refine Q4.mono ?_; rintro e w4 ⟨rfl, hb4⟩; clear Q4; have hT4 := hT3.below hb4; have hb24 : Below w2.heap.size w2 w4 := hb23.trans (hb4.mono hb23.size); have f40 := keep_cell f20 hb24; have f41 := keep_cell f21 hb24; have S5 := same_any la _ lc 1 1 1 ([p + 1] : List Int) ([p + 1] : List Int) w4 rfl rfl (rl.below hb24) (rw2.below (hb3.trans (hb4.mono hb3.size))) (by simp) (by simp); rw [decide_eq_true (rfl : ([p + 1] : List Int) = ([p + 1] : List Int))] at S5))
    | (go_at_call 10; go_must (refine S5.mono ?_; rintro e w5 ⟨rfl, hb5⟩; have N6 := name_any 16 w5 (hT4.below hb5)))
    | (go_at_call 12; go_must (refine N6.mono ?_; rintro e w6 ⟨rfl, hb6⟩)))
  go_ret
  exact ⟨rfl, chain (chain (chain (chain (chain hb1 hbX) hb2) hb24) hb5) hb6⟩

set_option maxRecDepth 100000 in
set_option maxHeartbeats 2000000 in
theorem spawn2 (n p : Int) (w : World) (hT : Tab w) (hp0 : 0 ≤ p) (hp1 : p ≤ 1000) (hn0 : 0 ≤ n) (hn1 : n ≤ 1000) (h2 : 2 ≤ n) :
    Calls Tryd.prog 5 #[.int .i64 16, .int .i64 n, .int .i64 p] w fun e w' => e = .returned (.bool true) ∧ Below w.heap.size w w' := by
  have hs : wrap64 (p + 1) = p + 1 := IntWalk.wrap64_in _ (by omega)
  have hw := word_yes 16 (by omega)
  have HP : popsOf 16 n [3, 8] = 0 := (if_pos rfl).trans (argsOf_no (by simp; omega))
  have HQ : (kindOf 16).pushes = 1 := by decide +kernel
  have HL : nextL 16 n (p + 1) = [p + 1] := rfl
  go_enter Tryd.func5, Tryd.ntmps5
  go_wp2_with (first
    | (go_at_call 6; go_must (refine (alive_any w hT).mono ?_; rintro e w1 ⟨rfl, hb1⟩; have hT1 := hT.below hb1; have hbA := alloc_below w1 (.cells #[.int .i64 16, .int .i64 n] 23); have hbX := hbA.trans ((alloc_below (w1.alloc (.cells #[.int .i64 16, .int .i64 n] 23)) (.cells twoF 40)).mono hbA.size); have NX := next_any 16 n p _ (hT1.below hbX); rw [hs, HL] at NX))
    | (go_at_call 9; go_must (refine NX.mono ?_; rintro e w2 ⟨v, rfl, ho⟩; clear NX; obtain ⟨la, lc, rfl, rl⟩ := own_reads ho; have hb2 := ho.2; have hT2 := (hT1.below hbX).below hb2; have fr2 := (fr_new (w1.alloc (.cells #[.int .i64 16, .int .i64 n] 23))).below hb2; rw [show (w1.alloc (.cells #[.int .i64 16, .int .i64 n] 23)).heap.size = w1.heap.size + 1 by simp] at fr2; obtain ⟨i20, i21⟩ := ins_at w1 16 n hb2; have z2 : w1.heap.size + 1 < w2.heap.size := (by have := hb2.size; simp at this; omega); have z1 : w1.heap.size < w2.heap.size := (by omega); have rw2 := reads_new w2 (iV [(p + 1)]) 3; obtain ⟨f20, f21⟩ := fr_cells fr2; have P3 := pops_any 16 n (some ⟨w1.heap.size + 1, 0, none⟩) 2 2 [3, 8] (w2.alloc (.cells #[.int .i64 (p + 1)] 3)) (hT2.below (alloc_below w2 _)) rfl (fr2.below (alloc_below w2 _)); rw [HP] at P3))
    | (go_at_call 16; go_must (refine P3.mono ?_; rintro e w3 ⟨rfl, hb3⟩; clear P3; have hb23 : Below w2.heap.size w2 w3 := (alloc_below w2 _).trans (hb3.mono (by simp)); have i30 := keep_cell i20 hb23; have i31 := keep_cell i21 hb23; have hT3 := hT2.below hb23; have Q4 := pushes_any 16 n w3 hT3; rw [HQ] at Q4))
    | (go_at_call 18; go_must (refine Q4.mono ?_; rintro e w4 ⟨rfl, hb4⟩; clear Q4; have hT4 := hT3.below hb4; have hb24 : Below w2.heap.size w2 w4 := hb23.trans (hb4.mono hb23.size); have f40 := keep_cell f20 hb24; have f41 := keep_cell f21 hb24; have S5 := same_any la _ lc 1 1 1 ([p + 1] : List Int) ([p + 1] : List Int) w4 rfl rfl (rl.below hb24) (rw2.below (hb3.trans (hb4.mono hb3.size))) (by simp) (by simp); rw [decide_eq_true (rfl : ([p + 1] : List Int) = ([p + 1] : List Int))] at S5))
    | (go_at_call 10; go_must (refine S5.mono ?_; rintro e w5 ⟨rfl, hb5⟩; have N6 := name_any 16 w5 (hT4.below hb5)))
    | (go_at_call 12; go_must (refine N6.mono ?_; rintro e w6 ⟨rfl, hb6⟩)))
  go_ret
  exact ⟨rfl, chain (chain (chain (chain (chain hb1 hbX) hb2) hb24) hb5) hb6⟩

set_option maxRecDepth 100000 in
set_option maxHeartbeats 2000000 in
theorem ret (n p : Int) (w : World) (hT : Tab w) (hp0 : 0 ≤ p) (hp1 : p ≤ 1000) (hn0 : 0 ≤ n) (hn1 : n ≤ 1000)  :
    Calls Tryd.prog 5 #[.int .i64 18, .int .i64 n, .int .i64 p] w fun e w' => e = .returned (.bool true) ∧ Below w.heap.size w w' := by
  have hs : wrap64 (p + 1) = p + 1 := IntWalk.wrap64_in _ (by omega)
  have hw := word_yes 18 (by omega)
  have HP : popsOf 18 n [3, 8] = 1 := by unfold popsOf; rw [if_neg (by decide)]; decide +kernel
  have HQ : (kindOf 18).pushes = 0 := by decide +kernel
  have HL : nextL 18 n (p + 1) = [] := rfl
  go_enter Tryd.func5, Tryd.ntmps5
  go_wp2_with (first
    | (go_at_call 6; go_must (refine (alive_any w hT).mono ?_; rintro e w1 ⟨rfl, hb1⟩; have hT1 := hT.below hb1; have hbA := alloc_below w1 (.cells #[.int .i64 18, .int .i64 n] 23); have hbX := hbA.trans ((alloc_below (w1.alloc (.cells #[.int .i64 18, .int .i64 n] 23)) (.cells twoF 40)).mono hbA.size); have NX := next_any 18 n p _ (hT1.below hbX); rw [hs, HL] at NX))
    | (go_at_call 9; go_must (refine NX.mono ?_; rintro e w2 ⟨v, rfl, ho⟩; clear NX; obtain ⟨la, lc, rfl, rl⟩ := own_reads ho; have hb2 := ho.2; have hT2 := (hT1.below hbX).below hb2; have fr2 := (fr_new (w1.alloc (.cells #[.int .i64 18, .int .i64 n] 23))).below hb2; rw [show (w1.alloc (.cells #[.int .i64 18, .int .i64 n] 23)).heap.size = w1.heap.size + 1 by simp] at fr2; obtain ⟨i20, i21⟩ := ins_at w1 18 n hb2; have z2 : w1.heap.size + 1 < w2.heap.size := (by have := hb2.size; simp at this; omega); have z1 : w1.heap.size < w2.heap.size := (by omega); have rw2 : Reads w2 none (iV []) := .inl rfl; obtain ⟨f20, f21⟩ := fr_cells fr2; have P3 := pops_any 18 n (some ⟨w1.heap.size + 1, 0, none⟩) 2 2 [3, 8] w2 hT2 rfl fr2; rw [HP] at P3))
    | (go_at_call 16; go_must (refine P3.mono ?_; rintro e w3 ⟨rfl, hb3⟩; clear P3; have hb23 : Below w2.heap.size w2 w3 := (Below.refl _ _).trans (hb3.mono (by simp)); have i30 := keep_cell i20 hb23; have i31 := keep_cell i21 hb23; have hT3 := hT2.below hb23; have Q4 := pushes_any 18 n w3 hT3; rw [HQ] at Q4))
    | (go_at_call 18; go_must (refine Q4.mono ?_; rintro e w4 ⟨rfl, hb4⟩; clear Q4; have hT4 := hT3.below hb4; have hb24 : Below w2.heap.size w2 w4 := hb23.trans (hb4.mono hb23.size); have f40 := keep_cell f20 hb24; have f41 := keep_cell f21 hb24; have S5 := same_any la _ lc 0 0 0 ([] : List Int) ([] : List Int) w4 rfl rfl (rl.below hb24) (rw2.below (hb3.trans (hb4.mono hb3.size))) (by simp) (by simp); rw [decide_eq_true (rfl : ([] : List Int) = ([] : List Int))] at S5))
    | (go_at_call 10; go_must (refine S5.mono ?_; rintro e w5 ⟨rfl, hb5⟩; have N6 := name_any 18 w5 (hT4.below hb5)))
    | (go_at_call 12; go_must (refine N6.mono ?_; rintro e w6 ⟨rfl, hb6⟩)))
  go_ret
  exact ⟨rfl, chain (chain (chain (chain (chain hb1 hbX) hb2) hb24) hb5) hb6⟩

set_option maxRecDepth 100000 in
set_option maxHeartbeats 2000000 in
theorem fail (n p : Int) (w : World) (hT : Tab w) (hp0 : 0 ≤ p) (hp1 : p ≤ 1000) (hn0 : 0 ≤ n) (hn1 : n ≤ 1000)  :
    Calls Tryd.prog 5 #[.int .i64 19, .int .i64 n, .int .i64 p] w fun e w' => e = .returned (.bool true) ∧ Below w.heap.size w w' := by
  have hs : wrap64 (p + 1) = p + 1 := IntWalk.wrap64_in _ (by omega)
  have hw := word_yes 19 (by omega)
  have HP : popsOf 19 n [3, 8] = 1 := by unfold popsOf; rw [if_neg (by decide)]; decide +kernel
  have HQ : (kindOf 19).pushes = 0 := by decide +kernel
  have HL : nextL 19 n (p + 1) = [] := rfl
  go_enter Tryd.func5, Tryd.ntmps5
  go_wp2_with (first
    | (go_at_call 6; go_must (refine (alive_any w hT).mono ?_; rintro e w1 ⟨rfl, hb1⟩; have hT1 := hT.below hb1; have hbA := alloc_below w1 (.cells #[.int .i64 19, .int .i64 n] 23); have hbX := hbA.trans ((alloc_below (w1.alloc (.cells #[.int .i64 19, .int .i64 n] 23)) (.cells twoF 40)).mono hbA.size); have NX := next_any 19 n p _ (hT1.below hbX); rw [hs, HL] at NX))
    | (go_at_call 9; go_must (refine NX.mono ?_; rintro e w2 ⟨v, rfl, ho⟩; clear NX; obtain ⟨la, lc, rfl, rl⟩ := own_reads ho; have hb2 := ho.2; have hT2 := (hT1.below hbX).below hb2; have fr2 := (fr_new (w1.alloc (.cells #[.int .i64 19, .int .i64 n] 23))).below hb2; rw [show (w1.alloc (.cells #[.int .i64 19, .int .i64 n] 23)).heap.size = w1.heap.size + 1 by simp] at fr2; obtain ⟨i20, i21⟩ := ins_at w1 19 n hb2; have z2 : w1.heap.size + 1 < w2.heap.size := (by have := hb2.size; simp at this; omega); have z1 : w1.heap.size < w2.heap.size := (by omega); have rw2 : Reads w2 none (iV []) := .inl rfl; obtain ⟨f20, f21⟩ := fr_cells fr2; have P3 := pops_any 19 n (some ⟨w1.heap.size + 1, 0, none⟩) 2 2 [3, 8] w2 hT2 rfl fr2; rw [HP] at P3))
    | (go_at_call 16; go_must (refine P3.mono ?_; rintro e w3 ⟨rfl, hb3⟩; clear P3; have hb23 : Below w2.heap.size w2 w3 := (Below.refl _ _).trans (hb3.mono (by simp)); have i30 := keep_cell i20 hb23; have i31 := keep_cell i21 hb23; have hT3 := hT2.below hb23; have Q4 := pushes_any 19 n w3 hT3; rw [HQ] at Q4))
    | (go_at_call 18; go_must (refine Q4.mono ?_; rintro e w4 ⟨rfl, hb4⟩; clear Q4; have hT4 := hT3.below hb4; have hb24 : Below w2.heap.size w2 w4 := hb23.trans (hb4.mono hb23.size); have f40 := keep_cell f20 hb24; have f41 := keep_cell f21 hb24; have S5 := same_any la _ lc 0 0 0 ([] : List Int) ([] : List Int) w4 rfl rfl (rl.below hb24) (rw2.below (hb3.trans (hb4.mono hb3.size))) (by simp) (by simp); rw [decide_eq_true (rfl : ([] : List Int) = ([] : List Int))] at S5))
    | (go_at_call 10; go_must (refine S5.mono ?_; rintro e w5 ⟨rfl, hb5⟩; have N6 := name_any 19 w5 (hT4.below hb5)))
    | (go_at_call 12; go_must (refine N6.mono ?_; rintro e w6 ⟨rfl, hb6⟩)))
  go_ret
  exact ⟨rfl, chain (chain (chain (chain (chain hb1 hbX) hb2) hb24) hb5) hb6⟩

set_option maxRecDepth 100000 in
set_option maxHeartbeats 2000000 in
theorem low (op n p : Int) (w : World) (hT : Tab w) (hp0 : 0 ≤ p) (hp1 : p ≤ 1000) (hn0 : 0 ≤ n) (hn1 : n ≤ 1000) (h1 : op < 1) :
    Calls Tryd.prog 5 #[.int .i64 op, .int .i64 n, .int .i64 p] w fun e w' => e = .returned (.bool true) ∧ Below w.heap.size w w' := by
  have hs : wrap64 (p + 1) = p + 1 := IntWalk.wrap64_in _ (by omega)
  have hw := word_none op (by omega)
  have HP : popsOf op n [3, 8] = 0 := by unfold popsOf; rw [if_neg (by omega), kind_no (by omega)]; rfl
  have HQ : (kindOf op).pushes = 0 := by rw [kind_no (by omega)]; rfl
  have HL : nextL op n (p + 1) = [] := if_pos (by omega)
  go_enter Tryd.func5, Tryd.ntmps5
  go_wp2_with (first
    | (go_at_call 6; go_must (refine (alive_any w hT).mono ?_; rintro e w1 ⟨rfl, hb1⟩; have hT1 := hT.below hb1; have hbA := alloc_below w1 (.cells #[.int .i64 op, .int .i64 n] 23); have hbX := hbA.trans ((alloc_below (w1.alloc (.cells #[.int .i64 op, .int .i64 n] 23)) (.cells twoF 40)).mono hbA.size); have NX := next_any op n p _ (hT1.below hbX); rw [hs, HL] at NX))
    | (go_at_call 9; go_must (refine NX.mono ?_; rintro e w2 ⟨v, rfl, ho⟩; clear NX; obtain ⟨la, lc, rfl, rl⟩ := own_reads ho; have hb2 := ho.2; have hT2 := (hT1.below hbX).below hb2; have fr2 := (fr_new (w1.alloc (.cells #[.int .i64 op, .int .i64 n] 23))).below hb2; rw [show (w1.alloc (.cells #[.int .i64 op, .int .i64 n] 23)).heap.size = w1.heap.size + 1 by simp] at fr2; obtain ⟨i20, i21⟩ := ins_at w1 op n hb2; have z2 : w1.heap.size + 1 < w2.heap.size := (by have := hb2.size; simp at this; omega); have z1 : w1.heap.size < w2.heap.size := (by omega); have rw2 : Reads w2 none (iV []) := .inl rfl; obtain ⟨f20, f21⟩ := fr_cells fr2; have P3 := pops_any op n (some ⟨w1.heap.size + 1, 0, none⟩) 2 2 [3, 8] w2 hT2 rfl fr2; rw [HP] at P3))
    | (go_at_call 16; go_must (refine P3.mono ?_; rintro e w3 ⟨rfl, hb3⟩; clear P3; have hb23 : Below w2.heap.size w2 w3 := (Below.refl _ _).trans (hb3.mono (by simp)); have i30 := keep_cell i20 hb23; have i31 := keep_cell i21 hb23; have hT3 := hT2.below hb23; have Q4 := pushes_any op n w3 hT3; rw [HQ] at Q4))
    | (go_at_call 18; go_must (refine Q4.mono ?_; rintro e w4 ⟨rfl, hb4⟩; clear Q4; have hT4 := hT3.below hb4; have hb24 : Below w2.heap.size w2 w4 := hb23.trans (hb4.mono hb23.size); have f40 := keep_cell f20 hb24; have f41 := keep_cell f21 hb24; have S5 := same_any la _ lc 0 0 0 ([] : List Int) ([] : List Int) w4 rfl rfl (rl.below hb24) (rw2.below (hb3.trans (hb4.mono hb3.size))) (by simp) (by simp); rw [decide_eq_true (rfl : ([] : List Int) = ([] : List Int))] at S5))
    | (go_at_call 10; go_must (refine S5.mono ?_; rintro e w5 ⟨rfl, hb5⟩; have N6 := name_any op w5 (hT4.below hb5)))
    | (go_at_call 12; go_must (refine N6.mono ?_; rintro e w6 ⟨rfl, hb6⟩)))
  go_ret
  exact ⟨rfl, chain (chain (chain (chain (chain hb1 hbX) hb2) hb24) hb5) hb6⟩

set_option maxRecDepth 100000 in
set_option maxHeartbeats 2000000 in
theorem high (op n p : Int) (w : World) (hT : Tab w) (hp0 : 0 ≤ p) (hp1 : p ≤ 1000) (hn0 : 0 ≤ n) (hn1 : n ≤ 1000) (h1 : 19 < op) :
    Calls Tryd.prog 5 #[.int .i64 op, .int .i64 n, .int .i64 p] w fun e w' => e = .returned (.bool true) ∧ Below w.heap.size w w' := by
  have hs : wrap64 (p + 1) = p + 1 := IntWalk.wrap64_in _ (by omega)
  have hw := word_none op (by omega)
  have HP : popsOf op n [3, 8] = 0 := by unfold popsOf; rw [if_neg (by omega), kind_no (by omega)]; rfl
  have HQ : (kindOf op).pushes = 0 := by rw [kind_no (by omega)]; rfl
  have HL : nextL op n (p + 1) = [] := if_pos (by omega)
  go_enter Tryd.func5, Tryd.ntmps5
  go_wp2_with (first
    | (go_at_call 6; go_must (refine (alive_any w hT).mono ?_; rintro e w1 ⟨rfl, hb1⟩; have hT1 := hT.below hb1; have hbA := alloc_below w1 (.cells #[.int .i64 op, .int .i64 n] 23); have hbX := hbA.trans ((alloc_below (w1.alloc (.cells #[.int .i64 op, .int .i64 n] 23)) (.cells twoF 40)).mono hbA.size); have NX := next_any op n p _ (hT1.below hbX); rw [hs, HL] at NX))
    | (go_at_call 9; go_must (refine NX.mono ?_; rintro e w2 ⟨v, rfl, ho⟩; clear NX; obtain ⟨la, lc, rfl, rl⟩ := own_reads ho; have hb2 := ho.2; have hT2 := (hT1.below hbX).below hb2; have fr2 := (fr_new (w1.alloc (.cells #[.int .i64 op, .int .i64 n] 23))).below hb2; rw [show (w1.alloc (.cells #[.int .i64 op, .int .i64 n] 23)).heap.size = w1.heap.size + 1 by simp] at fr2; obtain ⟨i20, i21⟩ := ins_at w1 op n hb2; have z2 : w1.heap.size + 1 < w2.heap.size := (by have := hb2.size; simp at this; omega); have z1 : w1.heap.size < w2.heap.size := (by omega); have rw2 : Reads w2 none (iV []) := .inl rfl; obtain ⟨f20, f21⟩ := fr_cells fr2; have P3 := pops_any op n (some ⟨w1.heap.size + 1, 0, none⟩) 2 2 [3, 8] w2 hT2 rfl fr2; rw [HP] at P3))
    | (go_at_call 16; go_must (refine P3.mono ?_; rintro e w3 ⟨rfl, hb3⟩; clear P3; have hb23 : Below w2.heap.size w2 w3 := (Below.refl _ _).trans (hb3.mono (by simp)); have i30 := keep_cell i20 hb23; have i31 := keep_cell i21 hb23; have hT3 := hT2.below hb23; have Q4 := pushes_any op n w3 hT3; rw [HQ] at Q4))
    | (go_at_call 18; go_must (refine Q4.mono ?_; rintro e w4 ⟨rfl, hb4⟩; clear Q4; have hT4 := hT3.below hb4; have hb24 : Below w2.heap.size w2 w4 := hb23.trans (hb4.mono hb23.size); have f40 := keep_cell f20 hb24; have f41 := keep_cell f21 hb24; have S5 := same_any la _ lc 0 0 0 ([] : List Int) ([] : List Int) w4 rfl rfl (rl.below hb24) (rw2.below (hb3.trans (hb4.mono hb3.size))) (by simp) (by simp); rw [decide_eq_true (rfl : ([] : List Int) = ([] : List Int))] at S5))
    | (go_at_call 10; go_must (refine S5.mono ?_; rintro e w5 ⟨rfl, hb5⟩; have N6 := name_any op w5 (hT4.below hb5)))
    | (go_at_call 12; go_must (refine N6.mono ?_; rintro e w6 ⟨rfl, hb6⟩)))
  go_ret
  exact ⟨rfl, chain (chain (chain (chain (chain hb1 hbX) hb2) hb24) hb5) hb6⟩

set_option maxRecDepth 100000 in
set_option maxHeartbeats 1000000 in
theorem early (op n p : Int) (w : World) (hT : Tab w) (h : p < 0 ∨ 1000 < p ∨ n < 0 ∨ 1000 < n) :
    Calls Tryd.prog 5 #[.int .i64 op, .int .i64 n, .int .i64 p] w fun e w' => e = .returned (.bool true) ∧ Below w.heap.size w w' := by
  obtain h | h | h | h : p < 0 ∨ (0 ≤ p ∧ 1000 < p) ∨ (0 ≤ p ∧ p ≤ 1000 ∧ n < 0) ∨ (0 ≤ p ∧ p ≤ 1000 ∧ 0 ≤ n ∧ 1000 < n) := by omega
  · go_enter Tryd.func5, Tryd.ntmps5
    go_wp2_with (go_at_call 6; go_must (refine (alive_any w hT).mono ?_; rintro e w1 ⟨rfl, hb1⟩))
    go_ret
    exact ⟨rfl, hb1⟩
  · obtain ⟨h1, h2⟩ := h
    go_enter Tryd.func5, Tryd.ntmps5
    go_wp2_with (go_at_call 6; go_must (refine (alive_any w hT).mono ?_; rintro e w1 ⟨rfl, hb1⟩))
    go_ret
    exact ⟨rfl, hb1⟩
  · obtain ⟨h1, h2, h3⟩ := h
    go_enter Tryd.func5, Tryd.ntmps5
    go_wp2_with (go_at_call 6; go_must (refine (alive_any w hT).mono ?_; rintro e w1 ⟨rfl, hb1⟩))
    go_ret
    exact ⟨rfl, hb1⟩
  · obtain ⟨h1, h2, h3, h4⟩ := h
    go_enter Tryd.func5, Tryd.ntmps5
    go_wp2_with (go_at_call 6; go_must (refine (alive_any w hT).mono ?_; rintro e w1 ⟨rfl, hb1⟩))
    go_ret
    exact ⟨rfl, hb1⟩

theorem walk (op n p : Int) (w : World) (hT : Tab w) : Calls Tryd.prog 5 #[.int .i64 op, .int .i64 n, .int .i64 p] w fun e w' => e = .returned (.bool true) ∧ Below w.heap.size w w' := by
  by_cases h : p < 0 ∨ 1000 < p ∨ n < 0 ∨ 1000 < n
  · exact early op n p w hT h
  · have hp0 : 0 ≤ p := by omega
    have hp1 : p ≤ 1000 := by omega
    have hn0 : 0 ≤ n := by omega
    have hn1 : n ≤ 1000 := by omega
    by_cases h1 : op < 1
    · exact low op n p w hT hp0 hp1 hn0 hn1 h1
    · by_cases h2 : 19 < op
      · exact high op n p w hT hp0 hp1 hn0 hn1 h2
      · by_cases h14 : op = 14
        · subst h14; exact jump n p w hT hp0 hp1 hn0 hn1
        · by_cases h15 : op = 15
          · subst h15
            cases hd : (n != p + 1) with
            | true => exact zero2 n p w hT hp0 hp1 hn0 hn1 hd
            | false => exact zero1 n p w hT hp0 hp1 hn0 hn1 hd
          · by_cases h16 : op = 16
            · subst h16
              by_cases h2 : 2 ≤ n
              · exact spawn2 n p w hT hp0 hp1 hn0 hn1 h2
              · obtain rfl | rfl : n = 0 ∨ n = 1 := by omega
                · exact spawn0 p w hT hp0 hp1
                · exact spawn1 p w hT hp0 hp1
            · by_cases h18 : op = 18
              · subst h18; exact ret n p w hT hp0 hp1 hn0 hn1
              · by_cases h19 : op = 19
                · subst h19; exact fail n p w hT hp0 hp1 hn0 hn1
                · exact other op n p w hT hp0 hp1 hn0 hn1 (by omega) (by omega) h14 h15 h16
end codeWays
end Go.Proofs.YthimbiigjdmhnaaDoor
