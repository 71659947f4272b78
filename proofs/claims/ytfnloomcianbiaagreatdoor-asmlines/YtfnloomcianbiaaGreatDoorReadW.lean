/- Read. -/
import Derived.Test.YtfnloomcianbiaaGreatDoorReadA
namespace Go.Proofs.YtfnloomcianbiaaGreatDoor
open Go.RowKit Go.ChangeShapes Go.WideShapes Go.ChangeAt Go.Deep

def noJob : Value := .agg #[.slice none 0 0, .int .i64 0, .slice none 0 0, .int .i64 0, .int .i64 0]
/-- Read's answer. -/
def ReadPost (s : ByteArray) (w : World) (e : Ending) (w' : World) : Prop :=
  Below w.heap.size w w' ∧
  if 131072 < s.size then e = .returned (.tuple #[noJob, .int .i64 0, .int .i64 3])
  else match readL s with
    | .error l => e = .returned (.tuple #[noJob, .int .i64 l, .int .i64 2])
    | .ok st => ∃ b fv av uv cs, Rd (w.heap.size + 1) w' b fv av uv cs st ∧ e = .returned (.tuple #[.agg #[fv, .int .i64 st.main, av, .int .i64 st.fuel, .int .i64 st.tasks], .int .i64 0, .int .i64 0])

/-- The result's own cells. -/
def Box5 (w : World) (b : Nat) : Prop := w.heap[b]? = some (.cells [.slice none 0 0, .int .i64 0, .slice none 0 0, .int .i64 0, .int .i64 0].toArray 25 (0, 0))
theorem Box5.facts {w : World} {b : Nat} (h : Box5 w b) : w.cell? ⟨b, 0, none⟩ = some (.slice none 0 0) ∧ w.cell? ⟨b, 1, none⟩ = some (.int .i64 0) ∧ w.cell? ⟨b, 2, none⟩ = some (.slice none 0 0) ∧ w.cell? ⟨b, 3, none⟩ = some (.int .i64 0) ∧ w.cell? ⟨b, 4, none⟩ = some (.int .i64 0) ∧ w.frozen? ⟨b, 0, none⟩ = false ∧ w.frozen? ⟨b, 1, none⟩ = false ∧ w.frozen? ⟨b, 2, none⟩ = false ∧ w.frozen? ⟨b, 3, none⟩ = false ∧ w.frozen? ⟨b, 4, none⟩ = false :=
  ⟨cell_row h rfl, cell_row h rfl, cell_row h rfl, cell_row h rfl, cell_row h rfl, frozen_row h, frozen_row h, frozen_row h, frozen_row h, frozen_row h⟩

theorem Box5.set {w : World} {b : Nat} (h : Box5 w b) (v0 v1 v2 v3 v4 : Value) : (((((w.setCell ⟨b, 0, none⟩ v0).setCell ⟨b, 1, none⟩ v1).setCell ⟨b, 2, none⟩ v2).setCell ⟨b, 3, none⟩ v3).setCell ⟨b, 4, none⟩ v4).heap[b]? = some (.cells [v0, v1, v2, v3, v4].toArray 25 (0, 0)) ∧ w.grownBy (((((w.setCell ⟨b, 0, none⟩ v0).setCell ⟨b, 1, none⟩ v1).setCell ⟨b, 2, none⟩ v2).setCell ⟨b, 3, none⟩ v3).setCell ⟨b, 4, none⟩ v4) (some b) := by
  refine ⟨set_row (i := 4) (set_row (i := 3) (set_row (i := 2) (set_row (i := 1) (set_row (i := 0) h v0) v1) v2) v3) v4, ?_⟩
  exact grown_trans (grown_setCell _ _ _ _) (grown_trans (grown_setCell _ _ _ _) (grown_trans (grown_setCell _ _ _ _) (grown_trans (grown_setCell _ _ _ _) (grown_setCell _ _ _ _))))
theorem Rd.result {B : Nat} {w w' : World} {b q : Nat} {fv av uv : Value} {cs : List Value} {st : St} (h : Rd B w b fv av uv cs st) (hg : w.grownBy w' (some q)) (hq : q < B) (h5 : Box5 w q) : Rd B w' b fv av uv cs st := by
  have f : ∀ {e k n : Nat} {v : Value} {xs : List Value}, w.ownsRow B e k v n xs → e ≠ 25 → w'.ownsRow B e k v n xs := fun ho he => own_far ho hg (fun cur => tag_ne h5 (Ne.symm he))
  refine ⟨h.nine, h.le, ?_, h.len, f h.fns (by decide), fun i hi hi' => f (h.codes i hi hi') (by decide), h.apart, f h.args (by decide), f h.uses (by decide)⟩
  rw [hg.block b (lt_row h.self) (fun e => by have := h.le; cases e; omega)]
  exact h.self
theorem Box5.on {w w' : World} {b B : Nat} (h : Box5 w b) (hb : Below B w w') (hlt : b < B) : Box5 w' b := by
  unfold Box5 at *
  rw [hb.block b hlt]; exact h

set_option maxRecDepth 100000 in
set_option maxHeartbeats 4000000 in
theorem read_any (s : ByteArray) (w : World) (hE : Env w) : Calls Tryz.prog 9 #[.string s] w (ReadPost s w) := by
  by_cases hl : 131072 < s.size
  · have hl' : (131072 : Int) < (s.size : Int) := by omega
    have H := hide hl
    clear hl
    go_enter Tryz.func9, Tryz.ntmps9
    go_wp2
    refine bodyPost_ret (v := .tuple #[noJob, .int .i64 0, .int .i64 3]) (by simp [results, Tryz.results9, go_sem, noJob]) rfl ⟨?_, by rw [if_pos H.out]⟩
    exact alloc_below w _
  · have hl' : ¬ (131072 : Int) < (s.size : Int) := by omega
    have H := hide hl
    have hsz : s.size ≤ 131072 := by omega
    clear hl
    have hbA := alloc_below w (.cells #[.slice none 0 0, .int .i64 0, .slice none 0 0, .int .i64 0, .int .i64 0] 25)
    have h5A : Box5 (w.alloc (.cells #[.slice none 0 0, .int .i64 0, .slice none 0 0, .int .i64 0, .int .i64 0] 25)) w.heap.size := heap_alloc_new w _
    have hsA : (w.alloc (.cells #[.slice none 0 0, .int .i64 0, .slice none 0 0, .int .i64 0, .int .i64 0] 25)).heap.size = w.heap.size + 1 := by simp
    have hEA := hE.below hbA
    go_enter Tryz.func9, Tryz.ntmps9
    go_wp2_with (go_at_call 20; refine Hid.out ?_)
    refine Lib.hid ?_
    have hbB := (alloc_below (w.alloc (.cells #[.slice none 0 0, .int .i64 0, .slice none 0 0, .int .i64 0, .int .i64 0] 25)) (.cells #[.string s, .int .i64 0, .slice none 0 0, .int .i64 0, .slice none 0 0, .int .i64 0, .int .i64 0, .slice none 0 0] 54))
    have hself : ((w.alloc (.cells #[.slice none 0 0, .int .i64 0, .slice none 0 0, .int .i64 0, .int .i64 0] 25)).alloc (.cells #[.string s, .int .i64 0, .slice none 0 0, .int .i64 0, .slice none 0 0, .int .i64 0, .int .i64 0, .slice none 0 0] 54)).heap[w.heap.size + 1]? = some (.cells [.string s, .int .i64 0, .slice none 0 0, .int .i64 0, .slice none 0 0, .int .i64 0, .int .i64 0, .slice none 0 0].toArray 54 (0, 0)) := by
      have := heap_alloc_new (w.alloc (.cells #[.slice none 0 0, .int .i64 0, .slice none 0 0, .int .i64 0, .int .i64 0] 25)) (.cells #[.string s, .int .i64 0, .slice none 0 0, .int .i64 0, .slice none 0 0, .int .i64 0, .int .i64 0, .slice none 0 0] 54)
      rw [hsA] at this
      exact this
    generalize (w.alloc (.cells #[.slice none 0 0, .int .i64 0, .slice none 0 0, .int .i64 0, .int .i64 0] 25)) = wA at hbA h5A hsA hEA hbB hself ⊢
    generalize wA.alloc (.cells #[.string s, .int .i64 0, .slice none 0 0, .int .i64 0, .slice none 0 0, .int .i64 0, .int .i64 0, .slice none 0 0] 54) = w0 at hbB hself ⊢
    have h50 : Box5 w0 w.heap.size := h5A.on hbB (by omega)
    have hE0 := hEA.below hbB
    have hb0 : Below w.heap.size w w0 := hbA.trans (hbB.mono (by omega))
    have hB0 : w.heap.size + 1 ≤ w0.heap.size := by have := hbB.size; omega
    have hR0 : Rd (w.heap.size + 1) w0 (w.heap.size + 1) (.slice none 0 0) (.slice none 0 0) (.slice none 0 0) [] (St.begin s) :=
      ⟨by have := hE.size; omega, Nat.le_refl _, hself, rfl, World.ownsRow_nil _ _ _ _, fun i hi _ => absurd hi (Nat.not_lt_zero _), List.Pairwise.nil, World.ownsRow_nil _ _ _ _, World.ownsRow_nil _ _ _ _⟩
    have h9 := hR0.nine
    have C1 := head_any _ _ _ _ _ _ (St.begin s) w0 (by show s.size ≤ _; omega) (by show (0 : Int) ≤ 0 ∧ (0 : Int) ≤ _; omega) (by show 0 ≤ _; omega) hE0 hB0 hR0
    have HRD := hide (show readL s = match headL (St.begin s) with | .error l => .error l | .ok st => (match bodyL (st.rest.size + 1) st with | .error l => .error l | .ok st2 => tieL st2.uses st2) from rfl)
    have HSM := hide (fun st (h : headL (St.begin s) = .ok st) => head_small hsz h)
    clear hR0 hself hbB hbA h5A hEA hsA
    refine C1.mono ?_
    rintro e w1 ⟨hb1, hst⟩
    have h51 := h50.on hb1 (by omega)
    cases hh : headL (St.begin s) with
    | error l =>
      rw [hh] at hst HRD
      obtain ⟨rfl, yx⟩ := hst
      have hbx := hb0.trans (hb1.mono (by omega : w.heap.size ≤ w.heap.size + 1))
      have h5x := h51
      have HRL := hide (show readL s = .error l from HRD.out)
      clear HRD HSM C1 h51 h50
      obtain ⟨a0, a1, a2, a3, a4, b0, b1, b2, b3, b4⟩ := h5x.facts
      go_upto_region 5 with fail
      refine wp_region_noPanic ?_
      refine wp_region_held_drew (S := fun w' => w'.cell? ⟨w.heap.size + 1, 1, none⟩ = some (.int .i64 l)) (by kernel_rfl) (by simpa using yx) (fun hHeld => ?_)
      refine takeD (i := 0) (d := some 23) (v := ?_) rfl rfl (by kernel_rfl) (by kernel_rfl) (by kernel_rfl) (fun _ _ _ h => h) (Or.inl ⟨by rfl, ?_⟩) (by assumption) ?_
      rotate_left
      · intro w hSw
        go_simp
        try (with_reducible rfl)
      try simp only [Act.put, List.setIfInBounds_toArray, List.set_cons_zero, List.set_cons_succ]
      refine takeD (i := 1) (d := some 24) (v := ?_) rfl rfl (by kernel_rfl) (by kernel_rfl) (by kernel_rfl) (fun _ _ _ h => h) (Or.inl ⟨by rfl, ?_⟩) (by assumption) ?_
      rotate_left
      · intro w hSw
        go_simp
        try (with_reducible rfl)
      try simp only [Act.put, List.setIfInBounds_toArray, List.set_cons_zero, List.set_cons_succ]
      refine takeD (i := 2) (d := some 25) (v := ?_) rfl rfl (by kernel_rfl) (by kernel_rfl) (by kernel_rfl) (fun _ _ _ h => h) (Or.inl ⟨by rfl, ?_⟩) (by assumption) ?_
      rotate_left
      · intro w hSw
        go_simp
        try (with_reducible rfl)
      try simp only [Act.put, List.setIfInBounds_toArray, List.set_cons_zero, List.set_cons_succ]
      refine takeD (i := 3) (d := some 26) (v := ?_) rfl rfl (by kernel_rfl) (by kernel_rfl) (by kernel_rfl) (fun _ _ _ h => h) (Or.inl ⟨by rfl, ?_⟩) (by assumption) ?_
      rotate_left
      · intro w hSw
        go_simp
        try (with_reducible rfl)
      try simp only [Act.put, List.setIfInBounds_toArray, List.set_cons_zero, List.set_cons_succ]
      refine wpAnyH_ready (rs := [4]) (by kernel_rfl) (by simp) ?_
      refine AllReadyH.cons rfl (fun K hK => ?_) AllReadyH.nil
      go_simp
      clear hHeld
      obtain ⟨hr5, hg5⟩ := h5x.set (.slice none 0 0) (.int .i64 0) (.slice none 0 0) (.int .i64 0) (.int .i64 0)
      generalize (((((w1.setCell ⟨w.heap.size, 0, none⟩ (.slice none 0 0)).setCell ⟨w.heap.size, 1, none⟩ (.int .i64 0)).setCell ⟨w.heap.size, 2, none⟩ (.slice none 0 0)).setCell ⟨w.heap.size, 3, none⟩ (.int .i64 0)).setCell ⟨w.heap.size, 4, none⟩ (.int .i64 0)) = w5 at hr5 hg5 ⊢
      refine hK.out _ _ (hg5.cell yx (by simp)) (fun hHeld => ?_)
      clear hK K
      try simp only [Act.put, List.setIfInBounds_toArray, List.set_cons_zero, List.set_cons_succ]
      refine takeD (i := 5) (d := some 3) (v := ?_) rfl rfl (by kernel_rfl) (by kernel_rfl) (by kernel_rfl) (fun _ _ _ h => h) (Or.inl ⟨by rfl, ?_⟩) (by assumption) ?_
      rotate_left
      · intro w hSw
        go_simp
        try (with_reducible rfl)
      try simp only [Act.put, List.setIfInBounds_toArray, List.set_cons_zero, List.set_cons_succ]
      refine takeD (i := 6) (d := some 4) (v := ?_) rfl rfl (by kernel_rfl) (by kernel_rfl) (by kernel_rfl) (fun _ _ _ h => h) (Or.inl ⟨by rfl, ?_⟩) (by assumption) ?_
      rotate_left
      · intro w hSw
        go_simp
        try (with_reducible rfl)
      try simp only [Act.put, List.setIfInBounds_toArray, List.set_cons_zero, List.set_cons_succ]
      refine wpAnyH_done (by kernel_rfl) ?_ _
      refine NoPanic.normal ?_
      have d0 := cell_row (i := 0) hr5 rfl
      have d1 := cell_row (i := 1) hr5 rfl
      have d2 := cell_row (i := 2) hr5 rfl
      have d3 := cell_row (i := 3) hr5 rfl
      have d4 := cell_row (i := 4) hr5 rfl
      clear a0 a1 a2 a3 a4 b0 b1 b2 b3 b4 h5x
      go_wp2
      refine bodyPost_ret (v := .tuple #[noJob, .int .i64 l, .int .i64 2]) (by simp [results, Tryz.results9, go_sem, noJob, d0, d1, d2, d3, d4]) rfl ⟨?_, by rw [if_neg H.out, HRL.out]⟩
      exact (hbx.grown hg5 hbx.size (fun k hk => by cases hk; exact Nat.le_refl _)).drew
    | ok st =>
      rw [hh] at hst HRD
      obtain ⟨rfl, fv1, av1, uv1, cs1, hR1⟩ := hst
      have HRD := hide (show readL s = (match bodyL (st.rest.size + 1) st with | .error l => .error l | .ok st2 => tieL st2.uses st2) from HRD.out)
      obtain ⟨hS1, hU1⟩ := HSM.out st hh
      have hE1 := hE0.on hb1 h9
      have hB1 : w.heap.size + 1 ≤ w1.heap.size := Nat.le_trans hB0 hb1.size
      have C2 := body_any _ _ _ _ _ _ st w1 hS1 hE1 hB1 hR1
      clear C1 HSM hR1
      have hBS := fun st2 (h : bodyL (st.rest.size + 1) st = .ok st2) => body_small _ h hS1 hU1
      cases hh2 : bodyL (st.rest.size + 1) st with
      | error l =>
        rw [hh2] at C2 HRD
        go_wp2_with (go_at_call 21; go_must (refine C2.mono ?_; rintro e w2 ⟨hb2, rfl, yx⟩; refine Hid.out ?_))
        refine Lib.hid ?_
        have h52 := h51.on hb2 (by omega)
        have hb02 := hb1.trans hb2
        clear C2
        have hbx := hb0.trans (hb02.mono (by omega : w.heap.size ≤ w.heap.size + 1))
        have h5x := h52
        have HRL := hide (show readL s = .error l from HRD.out)
        clear HRD h51 h50 h52 hBS
        obtain ⟨a0, a1, a2, a3, a4, b0, b1, b2, b3, b4⟩ := h5x.facts
        go_upto_region 5 with fail
        refine wp_region_noPanic ?_
        refine wp_region_held_drew (S := fun w' => w'.cell? ⟨w.heap.size + 1, 1, none⟩ = some (.int .i64 l)) (by kernel_rfl) (by simpa using yx) (fun hHeld => ?_)
        refine takeD (i := 0) (d := some 23) (v := ?_) rfl rfl (by kernel_rfl) (by kernel_rfl) (by kernel_rfl) (fun _ _ _ h => h) (Or.inl ⟨by rfl, ?_⟩) (by assumption) ?_
        rotate_left
        · intro w hSw
          go_simp
          try (with_reducible rfl)
        try simp only [Act.put, List.setIfInBounds_toArray, List.set_cons_zero, List.set_cons_succ]
        refine takeD (i := 1) (d := some 24) (v := ?_) rfl rfl (by kernel_rfl) (by kernel_rfl) (by kernel_rfl) (fun _ _ _ h => h) (Or.inl ⟨by rfl, ?_⟩) (by assumption) ?_
        rotate_left
        · intro w hSw
          go_simp
          try (with_reducible rfl)
        try simp only [Act.put, List.setIfInBounds_toArray, List.set_cons_zero, List.set_cons_succ]
        refine takeD (i := 2) (d := some 25) (v := ?_) rfl rfl (by kernel_rfl) (by kernel_rfl) (by kernel_rfl) (fun _ _ _ h => h) (Or.inl ⟨by rfl, ?_⟩) (by assumption) ?_
        rotate_left
        · intro w hSw
          go_simp
          try (with_reducible rfl)
        try simp only [Act.put, List.setIfInBounds_toArray, List.set_cons_zero, List.set_cons_succ]
        refine takeD (i := 3) (d := some 26) (v := ?_) rfl rfl (by kernel_rfl) (by kernel_rfl) (by kernel_rfl) (fun _ _ _ h => h) (Or.inl ⟨by rfl, ?_⟩) (by assumption) ?_
        rotate_left
        · intro w hSw
          go_simp
          try (with_reducible rfl)
        try simp only [Act.put, List.setIfInBounds_toArray, List.set_cons_zero, List.set_cons_succ]
        refine wpAnyH_ready (rs := [4]) (by kernel_rfl) (by simp) ?_
        refine AllReadyH.cons rfl (fun K hK => ?_) AllReadyH.nil
        go_simp
        clear hHeld
        obtain ⟨hr5, hg5⟩ := h5x.set (.slice none 0 0) (.int .i64 0) (.slice none 0 0) (.int .i64 0) (.int .i64 0)
        generalize (((((w2.setCell ⟨w.heap.size, 0, none⟩ (.slice none 0 0)).setCell ⟨w.heap.size, 1, none⟩ (.int .i64 0)).setCell ⟨w.heap.size, 2, none⟩ (.slice none 0 0)).setCell ⟨w.heap.size, 3, none⟩ (.int .i64 0)).setCell ⟨w.heap.size, 4, none⟩ (.int .i64 0)) = w5 at hr5 hg5 ⊢
        refine hK.out _ _ (hg5.cell yx (by simp)) (fun hHeld => ?_)
        clear hK K
        try simp only [Act.put, List.setIfInBounds_toArray, List.set_cons_zero, List.set_cons_succ]
        refine takeD (i := 5) (d := some 3) (v := ?_) rfl rfl (by kernel_rfl) (by kernel_rfl) (by kernel_rfl) (fun _ _ _ h => h) (Or.inl ⟨by rfl, ?_⟩) (by assumption) ?_
        rotate_left
        · intro w hSw
          go_simp
          try (with_reducible rfl)
        try simp only [Act.put, List.setIfInBounds_toArray, List.set_cons_zero, List.set_cons_succ]
        refine takeD (i := 6) (d := some 4) (v := ?_) rfl rfl (by kernel_rfl) (by kernel_rfl) (by kernel_rfl) (fun _ _ _ h => h) (Or.inl ⟨by rfl, ?_⟩) (by assumption) ?_
        rotate_left
        · intro w hSw
          go_simp
          try (with_reducible rfl)
        try simp only [Act.put, List.setIfInBounds_toArray, List.set_cons_zero, List.set_cons_succ]
        refine wpAnyH_done (by kernel_rfl) ?_ _
        refine NoPanic.normal ?_
        have d0 := cell_row (i := 0) hr5 rfl
        have d1 := cell_row (i := 1) hr5 rfl
        have d2 := cell_row (i := 2) hr5 rfl
        have d3 := cell_row (i := 3) hr5 rfl
        have d4 := cell_row (i := 4) hr5 rfl
        clear a0 a1 a2 a3 a4 b0 b1 b2 b3 b4 h5x
        go_wp2
        refine bodyPost_ret (v := .tuple #[noJob, .int .i64 l, .int .i64 2]) (by simp [results, Tryz.results9, go_sem, noJob, d0, d1, d2, d3, d4]) rfl ⟨?_, by rw [if_neg H.out, HRL.out]⟩
        exact (hbx.grown hg5 hbx.size (fun k hk => by cases hk; exact Nat.le_refl _)).drew
      | ok st2 =>
        rw [hh2] at C2 HRD
        go_wp2_with (go_at_call 21; go_must (refine C2.mono ?_; rintro e w2 ⟨hb2, rfl, fv2, av2, uv2, cs2, hR2⟩; refine Hid.out ?_))
        refine Lib.hid ?_
        have h52 := h51.on hb2 (by omega)
        have hb02 := hb1.trans hb2
        clear C2
        have HRD := hide (show readL s = tieL st2.uses st2 from HRD.out)
        obtain ⟨hS2, hU2⟩ := hBS st2 hh2
        have hB2 : w.heap.size + 1 ≤ w2.heap.size := Nat.le_trans hB1 hb2.size
        have q1 := hS2.uses
        have q2 := hS2.funcs
        have C3 := tie_any _ _ _ _ _ _ st2 w2 (by omega) (by omega) (fun f hf => by have := hS2.code f hf; omega) hU2 hB2 hR2
        clear hR2 hBS
        cases hh3 : tieL st2.uses st2 with
        | error l =>
          rw [hh3] at C3 HRD
          go_wp2_with (go_at_call 22; go_must (refine C3.mono ?_; rintro e w3 ⟨hb3, rfl, yx⟩; refine Hid.out ?_))
          refine Lib.hid ?_
          have h53 := h52.on hb3 (by omega)
          have hbx := hb0.trans ((hb02.trans hb3).mono (by omega : w.heap.size ≤ w.heap.size + 1))
          clear C3
          have h5x := h53
          have HRL := hide (show readL s = .error l from HRD.out)
          clear HRD h51 h50 h52 h53
          obtain ⟨a0, a1, a2, a3, a4, b0, b1, b2, b3, b4⟩ := h5x.facts
          go_upto_region 5 with fail
          refine wp_region_noPanic ?_
          refine wp_region_held_drew (S := fun w' => w'.cell? ⟨w.heap.size + 1, 1, none⟩ = some (.int .i64 l)) (by kernel_rfl) (by simpa using yx) (fun hHeld => ?_)
          refine takeD (i := 0) (d := some 23) (v := ?_) rfl rfl (by kernel_rfl) (by kernel_rfl) (by kernel_rfl) (fun _ _ _ h => h) (Or.inl ⟨by rfl, ?_⟩) (by assumption) ?_
          rotate_left
          · intro w hSw
            go_simp
            try (with_reducible rfl)
          try simp only [Act.put, List.setIfInBounds_toArray, List.set_cons_zero, List.set_cons_succ]
          refine takeD (i := 1) (d := some 24) (v := ?_) rfl rfl (by kernel_rfl) (by kernel_rfl) (by kernel_rfl) (fun _ _ _ h => h) (Or.inl ⟨by rfl, ?_⟩) (by assumption) ?_
          rotate_left
          · intro w hSw
            go_simp
            try (with_reducible rfl)
          try simp only [Act.put, List.setIfInBounds_toArray, List.set_cons_zero, List.set_cons_succ]
          refine takeD (i := 2) (d := some 25) (v := ?_) rfl rfl (by kernel_rfl) (by kernel_rfl) (by kernel_rfl) (fun _ _ _ h => h) (Or.inl ⟨by rfl, ?_⟩) (by assumption) ?_
          rotate_left
          · intro w hSw
            go_simp
            try (with_reducible rfl)
          try simp only [Act.put, List.setIfInBounds_toArray, List.set_cons_zero, List.set_cons_succ]
          refine takeD (i := 3) (d := some 26) (v := ?_) rfl rfl (by kernel_rfl) (by kernel_rfl) (by kernel_rfl) (fun _ _ _ h => h) (Or.inl ⟨by rfl, ?_⟩) (by assumption) ?_
          rotate_left
          · intro w hSw
            go_simp
            try (with_reducible rfl)
          try simp only [Act.put, List.setIfInBounds_toArray, List.set_cons_zero, List.set_cons_succ]
          refine wpAnyH_ready (rs := [4]) (by kernel_rfl) (by simp) ?_
          refine AllReadyH.cons rfl (fun K hK => ?_) AllReadyH.nil
          go_simp
          clear hHeld
          obtain ⟨hr5, hg5⟩ := h5x.set (.slice none 0 0) (.int .i64 0) (.slice none 0 0) (.int .i64 0) (.int .i64 0)
          generalize (((((w3.setCell ⟨w.heap.size, 0, none⟩ (.slice none 0 0)).setCell ⟨w.heap.size, 1, none⟩ (.int .i64 0)).setCell ⟨w.heap.size, 2, none⟩ (.slice none 0 0)).setCell ⟨w.heap.size, 3, none⟩ (.int .i64 0)).setCell ⟨w.heap.size, 4, none⟩ (.int .i64 0)) = w5 at hr5 hg5 ⊢
          refine hK.out _ _ (hg5.cell yx (by simp)) (fun hHeld => ?_)
          clear hK K
          try simp only [Act.put, List.setIfInBounds_toArray, List.set_cons_zero, List.set_cons_succ]
          refine takeD (i := 5) (d := some 3) (v := ?_) rfl rfl (by kernel_rfl) (by kernel_rfl) (by kernel_rfl) (fun _ _ _ h => h) (Or.inl ⟨by rfl, ?_⟩) (by assumption) ?_
          rotate_left
          · intro w hSw
            go_simp
            try (with_reducible rfl)
          try simp only [Act.put, List.setIfInBounds_toArray, List.set_cons_zero, List.set_cons_succ]
          refine takeD (i := 6) (d := some 4) (v := ?_) rfl rfl (by kernel_rfl) (by kernel_rfl) (by kernel_rfl) (fun _ _ _ h => h) (Or.inl ⟨by rfl, ?_⟩) (by assumption) ?_
          rotate_left
          · intro w hSw
            go_simp
            try (with_reducible rfl)
          try simp only [Act.put, List.setIfInBounds_toArray, List.set_cons_zero, List.set_cons_succ]
          refine wpAnyH_done (by kernel_rfl) ?_ _
          refine NoPanic.normal ?_
          have d0 := cell_row (i := 0) hr5 rfl
          have d1 := cell_row (i := 1) hr5 rfl
          have d2 := cell_row (i := 2) hr5 rfl
          have d3 := cell_row (i := 3) hr5 rfl
          have d4 := cell_row (i := 4) hr5 rfl
          clear a0 a1 a2 a3 a4 b0 b1 b2 b3 b4 h5x
          go_wp2
          refine bodyPost_ret (v := .tuple #[noJob, .int .i64 l, .int .i64 2]) (by simp [results, Tryz.results9, go_sem, noJob, d0, d1, d2, d3, d4]) rfl ⟨?_, by rw [if_neg H.out, HRL.out]⟩
          exact (hbx.grown hg5 hbx.size (fun k hk => by cases hk; exact Nat.le_refl _)).drew
        | ok st3 =>
          rw [hh3] at C3 HRD
          go_wp2_with (go_at_call 22; go_must (refine C3.mono ?_; rintro e w3 ⟨hb3, rfl, fv3, av3, uv3, cs3, hR3⟩; refine Hid.out ?_))
          refine Lib.hid ?_
          have h53 := h52.on hb3 (by omega)
          have hbx := hb0.trans ((hb02.trans hb3).mono (by omega : w.heap.size ≤ w.heap.size + 1))
          clear C3
          have HRL := hide (show readL s = .ok st3 from HRD.out)
          obtain ⟨a0, a1, a2, a3, a4, b0, b1, b2, b3, b4⟩ := h53.facts
          obtain ⟨_, _, y2, y3, y4, y5, y6, _⟩ := hR3.cells
          obtain ⟨fa, fc, rfl⟩ := own_any hR3.fns
          obtain ⟨aa, ac, rfl⟩ := own_any hR3.args
          have HR3 := hide hR3
          obtain ⟨hr5, hg5⟩ := h53.set (.slice fa st3.funcs.length fc) (.int .i64 st3.main) (.slice aa st3.args.length ac) (.int .i64 st3.fuel) (.int .i64 st3.tasks)
          have hR5 := hide (hR3.result hg5 (Nat.lt_succ_self _) h53)
          clear hR3 HRD h51 h50 h52
          go_wp2
          generalize (((((w3.setCell ⟨w.heap.size, 0, none⟩ (.slice fa st3.funcs.length fc)).setCell ⟨w.heap.size, 1, none⟩ (.int .i64 st3.main)).setCell ⟨w.heap.size, 2, none⟩ (.slice aa st3.args.length ac)).setCell ⟨w.heap.size, 3, none⟩ (.int .i64 st3.fuel)).setCell ⟨w.heap.size, 4, none⟩ (.int .i64 st3.tasks)) = w5 at hr5 hg5 hR5 ⊢
          have d0 := cell_row (i := 0) hr5 rfl
          have d1 := cell_row (i := 1) hr5 rfl
          have d2 := cell_row (i := 2) hr5 rfl
          have d3 := cell_row (i := 3) hr5 rfl
          have d4 := cell_row (i := 4) hr5 rfl
          refine bodyPost_ret (v := .tuple #[.agg #[.slice fa st3.funcs.length fc, .int .i64 st3.main, .slice aa st3.args.length ac, .int .i64 st3.fuel, .int .i64 st3.tasks], .int .i64 0, .int .i64 0]) (by simp [results, Tryz.results9, go_sem, d0, d1, d2, d3, d4]) rfl ⟨?_, ?_⟩
          · exact hbx.grown hg5 hbx.size (fun k hk => by cases hk; exact Nat.le_refl _)
          · rw [if_neg H.out, HRL.out]
            exact ⟨_, _, _, _, _, hR5.out, rfl⟩
end Go.Proofs.YtfnloomcianbiaaGreatDoor
