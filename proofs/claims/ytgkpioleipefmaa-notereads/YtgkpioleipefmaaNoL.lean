/- Members, results and views by a cursor; rows of things. -/
import Derived.Test.YtgkpioleipefmaaNoT
namespace Go.Proofs.Ytgkpioleipefmaa
open Go.RowKit Go.ChangeShapes Go.WideShapes Go.ChangeAt Go.Deep
attribute [local go_sem ↓] Go.wp_at_zero Go.wp_at_succ
set_option linter.unusedSimpArgs false

set_option maxRecDepth 100000 in
set_option maxHeartbeats 8000000 in
/-- Bad. -/
theorem bad_any (c : Nat) (b : Bool) (w : World) (h1 : w.cell? ⟨c, 1, none⟩ = some (.bool b)) : Calls Try.prog 60 #[.pointer (some ⟨c, 0, none⟩)] w fun e w' => e = .returned (.bool b) ∧ w' = w := by
  go_enter Try.func60, Try.ntmps60
  go_wp2
  go_ret
  exact ⟨rfl, rfl⟩

theorem BoxL.c2 {w : World} {g : Nat} {x0 x1 : Value} (h : BoxL w g [x0, x1]) : (w.cell? ⟨g, 0, none⟩ = some x0 ∧ w.frozen? ⟨g, 0, none⟩ = false) ∧ (w.cell? ⟨g, 1, none⟩ = some x1 ∧ w.frozen? ⟨g, 1, none⟩ = false) := ⟨h.2 0 (by simp), h.2 1 (by simp)⟩
theorem BoxL.c1 {w : World} {g : Nat} {x0 : Value} (h : BoxL w g [x0]) : w.cell? ⟨g, 0, none⟩ = some x0 := (h.2 0 (by simp)).1
theorem Cur.hi {w : World} {B T c : Nat} {bs : List Nat} {bad : Bool} (h : Cur w B T c bs bad) : T ≤ w.heap.size ∧ c < T := by
  obtain ⟨a, cap, _, _, _, _, _, _, _, _, _, h10, h11⟩ := h
  exact ⟨h11, h10⟩
theorem Cur.long {w : World} {B T c : Nat} {bs : List Nat} {bad : Bool} (h : Cur w B T c bs bad) : bs.length ≤ 140737488355328 := by
  obtain ⟨a, cap, _, _, _, _, h5, h6, _⟩ := h
  omega
theorem grown_below {w W X : World} {r : Option Nat} (h : w.grownBy W r) (hb : Below W.heap.size W X) : w.grownBy X r :=
  grown_trans h ⟨hb.os, hb.tape, hb.output, hb.size, fun k hk _ => hb.block k hk⟩
theorem grown_of {w X : World} {r : Option Nat} (hb : Below w.heap.size w X) : w.grownBy X r := ⟨hb.os, hb.tape, hb.output, hb.size, fun k hk _ => hb.block k hk⟩
theorem grown_drew {w X : World} {r : Option Nat} (h : w.drew.grownBy X r) : w.grownBy X r := ⟨h.os, h.tape, h.output, h.size, h.block⟩
def MemPost (B T c : Nat) (bs : List Nat) (bad : Bool) (w : World) (e : Ending) (w' : World) : Prop :=
  e = .returned (.agg #[.int .i64 (rdInt bs bad).1, .int .i64 (rdInt (rdInt bs bad).2.1 (rdInt bs bad).2.2).1]) ∧ Cur w' B T c (rdInt (rdInt bs bad).2.1 (rdInt bs bad).2.2).2.1 (rdInt (rdInt bs bad).2.1 (rdInt bs bad).2.2).2.2 ∧ w.grownBy w' (some c)

set_option maxRecDepth 100000 in
set_option maxHeartbeats 8000000 in
/-- reader.result. -/
theorem rresult_any (B T c : Nat) (bs : List Nat) (bad : Bool) (w : World) (h : Cur w B T c bs bad) :
    Calls Try.prog 51 #[.agg #[.pointer (some ⟨c, 0, none⟩)]] w (MemPost B T c bs bad w) := by
  have hT := h.hi
  have K1 := hide (fun W hW => curInt_any B T c bs bad W hW)
  obtain ⟨⟨n1, r1, b1⟩, e1⟩ : ∃ z, rdInt bs bad = z := ⟨_, rfl⟩
  rw [e1] at K1
  have K2 := hide (fun W hW => curInt_any B T c r1 b1 W hW)
  obtain ⟨⟨n2, r2, b2⟩, e2⟩ : ∃ z, rdInt r1 b1 = z := ⟨_, rfl⟩
  rw [e2] at K2
  unfold MemPost
  simp only [e1, e2]
  clear e1 e2
  simp only at K1 K2
  have hgc0 : w.heap.size ≠ c := by omega
  have hgc1 : w.heap.size + 1 ≠ c := by omega
  obtain ⟨hx1, hx2, hx3, hx4⟩ := box2 w [.pointer (some ⟨c, 0, none⟩)] [.int .i64 0, .int .i64 0] 65 26
  obtain ⟨V, hV⟩ : ∃ V, V = (w.alloc (.cells #[.pointer (some ⟨c, 0, none⟩)] 65)).alloc (.cells #[.int .i64 0, .int .i64 0] 26) := ⟨_, rfl⟩
  have HX0 := hide (show BoxL V w.heap.size [.pointer (some ⟨c, 0, none⟩)] by rw [hV]; exact hx1)
  have HY0 := hide (show BoxL V (w.heap.size + 1) [.int .i64 0, .int .i64 0] by rw [hV]; exact hx2)
  have HB0 := hide (show Below w.heap.size w V by rw [hV]; exact hx3)
  have HC0 := hide (h.below HB0.out)
  have HTs := hide (show T ≤ w.heap.size + 1 by omega)
  have HV := hide hV
  clear hx1 hx2 hx3 hx4 hV hT
  go_enter Try.func51, Try.ntmps51
  go_wp2_with (go_at_call 48; first
    | (rw [← HV.out]; (with_reducible refine (K1.out V HC0.out).mono ?_); rintro e w1 ⟨rfl, hC1, hg1⟩; have HX1 := hide (HX0.out.grown hg1 hgc0); have HY1 := hide (HY0.out.grown hg1 hgc1); have HG1 := hide (grown_trans (grown_of HB0.out) hg1); have q1 := HX1.out.c1; obtain ⟨⟨c0, d0⟩, ⟨c1, d1⟩⟩ := HY1.out.c2)
    | ((with_reducible refine (K2.out _ (hC1.put (o := 0) (v := .int .i64 n1) HTs.out)).mono ?_); rintro e w2 ⟨rfl, hC2, hg2⟩; have HY2 := hide ((HY1.out.put 0 (.int .i64 n1)).grown hg2 hgc1); have HG2 := hide (grown_trans (grown_put (g := w.heap.size + 1) (o := 0) (v := .int .i64 n1) HG1.out (Nat.le_succ _)) hg2); obtain ⟨⟨s0, t0⟩, ⟨s1, t1⟩⟩ := (show BoxL w2 (w.heap.size + 1) [.int .i64 n1, .int .i64 0] from HY2.out).c2))
  have HY3 := hide (show BoxL (((w2.setCell ⟨w.heap.size + 1, 1, none⟩ (.int .i64 n2)).setCell ⟨w.heap.size + 1, 0, none⟩ (.int .i64 n1)).setCell ⟨w.heap.size + 1, 1, none⟩ (.int .i64 n2)) (w.heap.size + 1) [.int .i64 n1, .int .i64 n2] from ((((show BoxL w2 (w.heap.size + 1) [.int .i64 n1, .int .i64 0] from HY2.out).put 1 (.int .i64 n2)).put 0 (.int .i64 n1)).put 1 (.int .i64 n2)))
  have HG3 := hide (grown_put (g := w.heap.size + 1) (o := 1) (v := .int .i64 n2) (grown_put (g := w.heap.size + 1) (o := 0) (v := .int .i64 n1) (grown_put (g := w.heap.size + 1) (o := 1) (v := .int .i64 n2) HG2.out (Nat.le_succ _)) (Nat.le_succ _)) (Nat.le_succ _))
  have HC3 := hide (Cur.put (o := 1) (v := .int .i64 n2) (Cur.put (o := 0) (v := .int .i64 n1) (Cur.put (o := 1) (v := .int .i64 n2) hC2 HTs.out) HTs.out) HTs.out)
  obtain ⟨X, hX⟩ : ∃ X, X = (((w2.setCell ⟨w.heap.size + 1, 1, none⟩ (.int .i64 n2)).setCell ⟨w.heap.size + 1, 0, none⟩ (.int .i64 n1)).setCell ⟨w.heap.size + 1, 1, none⟩ (.int .i64 n2)) := ⟨_, rfl⟩
  rw [← hX] at HY3 HG3 HC3
  rw [← hX]
  clear hX
  obtain ⟨⟨x0, -⟩, ⟨x1, -⟩⟩ := HY3.out.c2
  refine bodyPost_ret (v := .agg #[.int .i64 n1, .int .i64 n2]) (by simp [results, Try.results51, go_sem, x0, x1]) rfl ?_
  exact ⟨rfl, HC3.out, HG3.out⟩

set_option maxRecDepth 100000 in
set_option maxHeartbeats 8000000 in
/-- reader.member. -/
theorem member_any (B T c : Nat) (bs : List Nat) (bad : Bool) (w : World) (h : Cur w B T c bs bad) :
    Calls Try.prog 62 #[.agg #[.pointer (some ⟨c, 0, none⟩)]] w (MemPost B T c bs bad w) := by
  have hT := h.hi
  have K1 := hide (fun W hW => curInt_any B T c bs bad W hW)
  obtain ⟨⟨n1, r1, b1⟩, e1⟩ : ∃ z, rdInt bs bad = z := ⟨_, rfl⟩
  rw [e1] at K1
  have K2 := hide (fun W hW => curInt_any B T c r1 b1 W hW)
  obtain ⟨⟨n2, r2, b2⟩, e2⟩ : ∃ z, rdInt r1 b1 = z := ⟨_, rfl⟩
  rw [e2] at K2
  unfold MemPost
  simp only [e1, e2]
  clear e1 e2
  simp only at K1 K2
  have hgc0 : w.heap.size ≠ c := by omega
  have hgc1 : w.heap.size + 1 ≠ c := by omega
  obtain ⟨hx1, hx2, hx3, hx4⟩ := box2 w [.pointer (some ⟨c, 0, none⟩)] [.int .i64 0, .int .i64 0] 65 50
  obtain ⟨V, hV⟩ : ∃ V, V = (w.alloc (.cells #[.pointer (some ⟨c, 0, none⟩)] 65)).alloc (.cells #[.int .i64 0, .int .i64 0] 50) := ⟨_, rfl⟩
  have HX0 := hide (show BoxL V w.heap.size [.pointer (some ⟨c, 0, none⟩)] by rw [hV]; exact hx1)
  have HY0 := hide (show BoxL V (w.heap.size + 1) [.int .i64 0, .int .i64 0] by rw [hV]; exact hx2)
  have HB0 := hide (show Below w.heap.size w V by rw [hV]; exact hx3)
  have HC0 := hide (h.below HB0.out)
  have HTs := hide (show T ≤ w.heap.size + 1 by omega)
  have HV := hide hV
  clear hx1 hx2 hx3 hx4 hV hT
  have HCd := hide HC0.out.drew
  have q0 := HX0.out.c1
  go_enter Try.func62, Try.ntmps62
  go_wp2_with fail
  rw [← HV.out]
  refine wp_region_noPanic ?_
  have hN : Below V.heap.size V V.drew := (Below.refl _ _).drew
  refine wp_region_held_drew (S := fun W => W.cell? ⟨w.heap.size, 0, none⟩ = some (.pointer (some ⟨c, 0, none⟩))) (by kernel_rfl) (keep_cell q0 hN) (fun hHeld => ?_)
  refine takeD (i := 0) (d := some 3) (v := ?_) rfl rfl (by kernel_rfl) (by kernel_rfl) (by kernel_rfl) (fun _ _ _ h => h) (Or.inl ⟨by rfl, ?_⟩) (by assumption) ?_
  rotate_left
  · intro w hSw
    go_simp
    try (with_reducible rfl)
  try simp only [Act.put, List.setIfInBounds_toArray, List.set_cons_zero, List.set_cons_succ]
  refine takeD (i := 1) (d := some 4) (v := ?_) rfl rfl (by kernel_rfl) (by kernel_rfl) (by kernel_rfl) (fun _ _ _ h => h) (Or.inl ⟨by rfl, ?_⟩) (by assumption) ?_
  rotate_left
  · intro w hSw
    go_simp
    try (with_reducible rfl)
  try simp only [Act.put, List.setIfInBounds_toArray, List.set_cons_zero, List.set_cons_succ]
  refine takeD (i := 3) (d := some 6) (v := ?_) rfl rfl (by kernel_rfl) (by kernel_rfl) (by kernel_rfl) (fun _ _ _ h => h) (Or.inl ⟨by rfl, ?_⟩) (by assumption) ?_
  rotate_left
  · intro w hSw
    go_simp
    try (with_reducible rfl)
  try simp only [Act.put, List.setIfInBounds_toArray, List.set_cons_zero, List.set_cons_succ]
  refine takeD (i := 4) (d := some 7) (v := ?_) rfl rfl (by kernel_rfl) (by kernel_rfl) (by kernel_rfl) (fun _ _ _ h => h) (Or.inl ⟨by rfl, ?_⟩) (by assumption) ?_
  rotate_left
  · intro w hSw
    go_simp
    try (with_reducible rfl)
  try simp only [Act.put, List.setIfInBounds_toArray, List.set_cons_zero, List.set_cons_succ]
  refine wpAnyH_ready (rs := [2]) (by kernel_rfl) (by simp) ?_
  refine AllReadyH.cons rfl (fun K hK => ?_) AllReadyH.nil
  go_simp
  refine (K1.out V.drew HCd.out).mono ?_
  rintro e w1 ⟨rfl, hC1, hg1⟩
  have hg1 := grown_drew hg1
  have HX1 := hide (HX0.out.grown hg1 hgc0)
  have HY1 := hide (HY0.out.grown hg1 hgc1)
  have HG1 := hide (grown_trans (grown_of HB0.out) hg1)
  go_wp2_with fail
  clear hHeld
  refine hK.out _ _ (HX1.out.c1) (fun hHeld => ?_)
  clear hK K
  try simp only [Act.put, List.setIfInBounds_toArray, List.set_cons_zero, List.set_cons_succ]
  refine takeD (i := 6) (d := some 9) (v := ?_) rfl rfl (by kernel_rfl) (by kernel_rfl) (by kernel_rfl) (fun _ _ _ h => h) (Or.inl ⟨by rfl, ?_⟩) (by assumption) ?_
  rotate_left
  · intro w hSw
    go_simp
    try (with_reducible rfl)
  try simp only [Act.put, List.setIfInBounds_toArray, List.set_cons_zero, List.set_cons_succ]
  refine wpAnyH_ready (rs := [5]) (by kernel_rfl) (by simp) ?_
  refine AllReadyH.cons rfl (fun K hK => ?_) AllReadyH.nil
  go_simp
  refine (K2.out w1 hC1).mono ?_
  rintro e w2 ⟨rfl, hC2, hg2⟩
  have HX2 := hide (HX1.out.grown hg2 hgc0)
  have HY2 := hide (HY1.out.grown hg2 hgc1)
  have HG2 := hide (grown_trans HG1.out hg2)
  obtain ⟨⟨c0, d0⟩, ⟨c1, d1⟩⟩ := HY2.out.c2
  go_wp2_with fail
  clear hHeld
  refine hK.out _ _ (HX2.out.c1) (fun hHeld => ?_)
  clear hK K
  try simp only [Act.put, List.setIfInBounds_toArray, List.set_cons_zero, List.set_cons_succ]
  refine wpAnyH_ready (rs := [7]) (by kernel_rfl) (by simp) ?_
  refine AllReadyH.cons rfl (fun K hK => ?_) AllReadyH.nil
  go_simp
  go_wp2_with fail
  clear hHeld
  refine hK.out _ _ ((box_other (o := 0) (v := .int .i64 n1) HX2.out (by omega)).c1) (fun hHeld => ?_)
  clear hK K
  try simp only [Act.put, List.setIfInBounds_toArray, List.set_cons_zero, List.set_cons_succ]
  refine takeD (i := 8) (d := some 10) (v := ?_) rfl rfl (by kernel_rfl) (by kernel_rfl) (by kernel_rfl) (fun _ _ _ h => h) (Or.inl ⟨by rfl, ?_⟩) (by assumption) ?_
  rotate_left
  · intro w hSw
    go_simp
    try (with_reducible rfl)
  try simp only [Act.put, List.setIfInBounds_toArray, List.set_cons_zero, List.set_cons_succ]
  refine wpAnyH_ready (rs := [9]) (by kernel_rfl) (by simp) ?_
  refine AllReadyH.cons rfl (fun K hK => ?_) AllReadyH.nil
  go_simp
  go_wp2_with fail
  clear hHeld
  refine hK.out _ _ ((box_other (o := 1) (v := .int .i64 n2) (box_other (g := w.heap.size + 1) (o := 0) (v := .int .i64 n1) HX2.out (by omega)) (by omega)).c1) (fun hHeld => ?_)
  clear hK K
  try simp only [Act.put, List.setIfInBounds_toArray, List.set_cons_zero, List.set_cons_succ]
  refine wpAnyH_done (by kernel_rfl) ?_ _
  refine NoPanic.normal ?_
  go_wp2
  have HY3 := hide (show BoxL ((((w2.setCell ⟨w.heap.size + 1, 0, none⟩ (.int .i64 n1)).setCell ⟨w.heap.size + 1, 1, none⟩ (.int .i64 n2)).setCell ⟨w.heap.size + 1, 0, none⟩ (.int .i64 n1)).setCell ⟨w.heap.size + 1, 1, none⟩ (.int .i64 n2)) (w.heap.size + 1) [.int .i64 n1, .int .i64 n2] from (((HY2.out.put 0 (.int .i64 n1)).put 1 (.int .i64 n2)).put 0 (.int .i64 n1)).put 1 (.int .i64 n2))
  have HG3 := hide (grown_put (g := w.heap.size + 1) (o := 1) (v := .int .i64 n2) (grown_put (g := w.heap.size + 1) (o := 0) (v := .int .i64 n1) (grown_put (g := w.heap.size + 1) (o := 1) (v := .int .i64 n2) (grown_put (g := w.heap.size + 1) (o := 0) (v := .int .i64 n1) HG2.out (Nat.le_succ _)) (Nat.le_succ _)) (Nat.le_succ _)) (Nat.le_succ _))
  have HC3 := hide (Cur.put (o := 1) (v := .int .i64 n2) (Cur.put (o := 0) (v := .int .i64 n1) (Cur.put (o := 1) (v := .int .i64 n2) (Cur.put (o := 0) (v := .int .i64 n1) hC2 HTs.out) HTs.out) HTs.out) HTs.out)
  obtain ⟨X, hX⟩ : ∃ X, X = ((((w2.setCell ⟨w.heap.size + 1, 0, none⟩ (.int .i64 n1)).setCell ⟨w.heap.size + 1, 1, none⟩ (.int .i64 n2)).setCell ⟨w.heap.size + 1, 0, none⟩ (.int .i64 n1)).setCell ⟨w.heap.size + 1, 1, none⟩ (.int .i64 n2)) := ⟨_, rfl⟩
  rw [← hX] at HY3 HG3 HC3
  rw [← hX]
  clear hX
  obtain ⟨⟨x0, -⟩, ⟨x1, -⟩⟩ := HY3.out.c2
  refine bodyPost_ret (v := .agg #[.int .i64 n1, .int .i64 n2]) (by simp [results, Try.results62, go_sem, x0, x1]) rfl ?_
  exact ⟨rfl, HC3.out, HG3.out⟩

end Go.Proofs.Ytgkpioleipefmaa
