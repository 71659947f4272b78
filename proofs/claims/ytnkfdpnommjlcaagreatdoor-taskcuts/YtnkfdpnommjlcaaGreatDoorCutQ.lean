/- Running in small runs comes to what one great run comes to: the chain of small runs. -/
import Derived.Test.YtnkfdpnommjlcaaGreatDoorFit
namespace Go.Proofs.YtnkfdpnommjlcaaGreatDoor
open Go.RowKit Go.ChangeShapes Go.WideShapes Go.ChangeAt Go.Deep

theorem step_fits {fs : List Fun} {f : Fun} {d : List Int} (hc : Code fs f d) {jf : Int} (hjf : jf ≤ 5000) {s : PM} (hs : Fit fs f d s) (hes : s.es ≤ 100000) (deep : Int) :
    ∃ q, stepM fs jf deep s = some q ∧ Leaves fs f d s (s.fu + 1) (s.es + 1) q ∧ ∀ t, q = (t, none) → (s.fu : Int) < jf := by
  obtain ⟨h1, h2, h3⟩ := hs.pcl hc
  by_cases hfu : (s.fu : Int) < jf
  · have hsm : s.small := by
      have := hs.kd; have := hs.lo; have := hc.lo; have := hc.n1
      unfold PM.small
      omega
    have hi := List.getElem?_eq_getElem h1
    generalize f.code[s.pc] = x at hi
    obtain ⟨op, n⟩ := x
    have hs' : Fit fs f d { s with fu := s.fu + 1, es := s.es + 1 } := ⟨hs.fn, hs.pc, hs.lo, hs.kd⟩
    obtain ⟨q, hq, hl⟩ := doM_fits hc hs' deep op n hi
    refine ⟨q, ?_, hl, fun _ _ => hfu⟩
    unfold stepM
    rw [if_pos hfu, if_pos hsm, hs.fn]
    dsimp only
    rw [hi]
    exact hq
  · refine ⟨(s, some (21, 0)), ?_, fun t ht => by simp at ht, fun t ht => by simp at ht⟩
    unfold stepM
    rw [if_neg hfu]

theorem runM_stop {fs : List Fun} {jf deep steps : Int} {s : PM} (h : s.ek ≠ 0 ∨ ¬ (s.es : Int) < steps) : ∀ N, runM fs jf deep steps N s = some (s, none)
  | 0 => by rw [runM, if_neg (by omega)]
  | N + 1 => by rw [runM, if_neg (by omega)]
theorem runM_go {fs : List Fun} {jf deep steps : Int} {s t : PM} (h : s.ek = 0 ∧ (s.es : Int) < steps) (hs : stepM fs jf deep s = some (t, none)) (N : Nat) : runM fs jf deep steps (N + 1) s = runM fs jf deep steps N t := by
  rw [runM, if_pos h, hs]
theorem runM_up {fs : List Fun} {jf deep steps : Int} {s t : PM} {u : Int × Int} (h : s.ek = 0 ∧ (s.es : Int) < steps) (hs : stepM fs jf deep s = some (t, some u)) (N : Nat) : runM fs jf deep steps (N + 1) s = some (t, some u) := by
  rw [runM, if_pos h, hs]

/-- With steps enough a run comes to its end. -/
theorem run_fits {fs : List Fun} {f : Fun} {d : List Int} (hc : Code fs f d) {jf : Int} (hjf : jf ≤ 5000) (deep steps : Int) : ∀ (N : Nat) (s : PM), Fit fs f d s → (s.fu : Int) ≤ jf → s.es + N ≤ 100000 → jf < s.fu + N →
    ∃ q, runM fs jf deep steps N s = some q ∧ ∀ t, q = (t, none) → s.ek = 0 → t.ek = 0 → Fit fs f d t ∧ t.wt = s.wt ∧ t.ef = s.ef ∧ t.ei = s.ei ∧ t.ar = s.ar ∧ t.er = s.er ∧ t.ev = s.ev ∧ (t.fu : Int) ≤ jf ∧ steps ≤ t.es ∧ t.fu + s.es = s.fu + t.es
  | 0, s, _, h1, _, h2 => by omega
  | N + 1, s, hs, h1, h3, h2 => by
    by_cases hg : s.ek = 0 ∧ (s.es : Int) < steps
    · obtain ⟨⟨t, u⟩, hq, hl, hlt⟩ := step_fits hc hjf hs (by omega) deep
      cases u with
      | some u => exact ⟨_, runM_up hg hq N, fun t' ht => by simp at ht⟩
      | none =>
        obtain ⟨e1, e2, e3⟩ := hl t rfl
        have hlt' := hlt t rfl
        by_cases hk : t.ek = 0
        · obtain ⟨f1, f2, f3, f4, f5, f6, f7⟩ := e3 hk
          obtain ⟨q, r1, r2⟩ := run_fits hc hjf deep steps N t f1 (by omega) (by omega) (by omega)
          refine ⟨q, by rw [runM_go hg hq]; exact r1, fun t' ht _ hk' => ?_⟩
          obtain ⟨g1, g2, g3, g4, g5, g6, g7, g8, g9, g10⟩ := r2 t' ht hk hk'
          exact ⟨g1, g2.trans f2, g3.trans f3, g4.trans f4, g5.trans f5, g6.trans f6, g7.trans f7, g8, g9, by omega⟩
        · refine ⟨(t, none), by rw [runM_go hg hq]; exact runM_stop (.inl hk) N, fun t' ht _ hk' => ?_⟩
          obtain rfl := (Prod.mk.inj ht).1
          exact absurd hk' hk
    · refine ⟨(s, none), runM_stop (by omega) _, fun t' ht hk _ => ?_⟩
      obtain rfl := (Prod.mk.inj ht).1
      exact ⟨hs, rfl, rfl, rfl, rfl, rfl, rfl, h1, by omega, rfl⟩

theorem runM_same {fs : List Fun} {jf deep steps : Int} : ∀ (N M : Nat) (s : PM) (q r : PM × Option (Int × Int)), runM fs jf deep steps N s = some q → runM fs jf deep steps M s = some r → q = r
  | 0, M, s, q, r, h1, h2 => by
    rw [runM] at h1
    split at h1
    · cases h1
    · rename_i hg
      rw [runM_stop (by omega)] at h2
      cases h1; cases h2; rfl
  | N + 1, 0, s, q, r, h1, h2 => by
    rw [runM] at h2
    split at h2
    · cases h2
    · rename_i hg
      rw [runM_stop (by omega)] at h1
      cases h1; cases h2; rfl
  | N + 1, M + 1, s, q, r, h1, h2 => by
    rw [runM] at h1 h2
    split at h1
    · rename_i hg
      rw [if_pos hg] at h2
      cases hst : stepM fs jf deep s with
      | none => rw [hst] at h1; cases h1
      | some p =>
        obtain ⟨t, u⟩ := p
        rw [hst] at h1 h2
        cases u with
        | none => exact runM_same N M t q r h1 h2
        | some u =>
          dsimp only at h1 h2
          cases h1; cases h2; rfl
    · rename_i hg
      rw [if_neg hg] at h2
      cases h1; cases h2; rfl

/-- A run that came to no event goes on. -/
theorem runM_on {fs : List Fun} {jf deep n1 n2 : Int} (hn : n1 ≤ n2) : ∀ (N : Nat) (s t : PM), runM fs jf deep n1 N s = some (t, none) → t.ek = 0 → ∀ (M : Nat) (q : PM × Option (Int × Int)), runM fs jf deep n2 M t = some q → ∃ K, runM fs jf deep n2 K s = some q
  | 0, s, t, h, hk, M, q, hq => by
    rw [runM] at h
    split at h
    · cases h
    · cases h; exact ⟨M, hq⟩
  | N + 1, s, t, h, hk, M, q, hq => by
    rw [runM] at h
    split at h
    · rename_i hg
      cases hst : stepM fs jf deep s with
      | none => rw [hst] at h; cases h
      | some p =>
        obtain ⟨t1, u⟩ := p
        rw [hst] at h
        cases u with
        | none =>
          obtain ⟨K, hK⟩ := runM_on hn N t1 t h hk M q hq
          exact ⟨K + 1, by rw [runM_go ⟨hg.1, by omega⟩ hst]; exact hK⟩
        | some u => dsimp only at h; cases h
    · cases h; exact ⟨M, hq⟩
/-- A run that came to an event comes to it also where more steps are given. -/
theorem runM_end {fs : List Fun} {jf deep n1 n2 : Int} (hn : n1 ≤ n2) : ∀ (N : Nat) (s t : PM) (u : Option (Int × Int)), runM fs jf deep n1 N s = some (t, u) → (t.ek ≠ 0 ∨ u ≠ none) → runM fs jf deep n2 N s = some (t, u)
  | 0, s, t, u, h, he => by
    rw [runM] at h
    split at h
    · cases h
    · cases h
      rcases he with he | he
      · exact runM_stop (.inl he) 0
      · exact absurd rfl he
  | N + 1, s, t, u, h, he => by
    rw [runM] at h
    split at h
    · rename_i hg
      cases hst : stepM fs jf deep s with
      | none => rw [hst] at h; cases h
      | some p =>
        obtain ⟨t1, v⟩ := p
        rw [hst] at h
        cases v with
        | none => rw [runM_go ⟨hg.1, by omega⟩ hst]; exact runM_end hn N t1 t u h he
        | some v =>
          dsimp only at h
          cases h
          exact runM_up ⟨hg.1, by omega⟩ hst N
    · cases h
      rcases he with he | he
      · exact runM_stop (.inl he) _
      · exact absurd rfl he

/-- The steps so far count more. -/
def PM.off (s : PM) (E : Nat) : PM := { s with es := s.es + E }
theorem doM_off {fs : List Fun} {deep : Int} {s : PM} {op n : Int} (E : Nat) {q : PM × Option (Int × Int)} (h : doM fs deep s op n = some q) : doM fs deep (s.off E) op n = some (q.1.off E, q.2) := by
  unfold doM at h ⊢
  simp only [PM.off] at h ⊢
  repeat' split at h
  all_goals first
    | (cases h; done)
    | (simp only [Option.some.injEq] at h; subst h; simp_all; done)
    | (simp only [Option.some.injEq] at h; subst h; simp_all; intro; omega)
theorem stepM_off {fs : List Fun} {jf deep : Int} {s : PM} (E : Nat) (hE : s.es + E ≤ 100000) {q : PM × Option (Int × Int)} (h : stepM fs jf deep s = some q) : stepM fs jf deep (s.off E) = some (q.1.off E, q.2) := by
  unfold stepM at h ⊢
  by_cases hf : (s.fu : Int) < jf
  · rw [if_pos hf] at h
    rw [if_pos (show ((s.off E).fu : Int) < jf from hf)]
    split at h
    · rename_i hsm
      have hsm' : (s.off E).small := by
        unfold PM.small at hsm ⊢
        simp only [PM.off]
        omega
      rw [if_pos hsm']
      cases hfn : fs[s.fn]? with
      | none => rw [hfn] at h; cases h
      | some f =>
        rw [hfn] at h
        rw [show fs[(s.off E).fn]? = some f from hfn]
        dsimp only at h ⊢
        cases hi : f.code[s.pc]? with
        | none => rw [hi] at h; cases h
        | some x =>
          obtain ⟨op, n⟩ := x
          rw [hi] at h
          rw [show f.code[(s.off E).pc]? = some (op, n) from hi]
          dsimp only at h ⊢
          have := doM_off E h
          rw [show ({ s.off E with fu := (s.off E).fu + 1, es := (s.off E).es + 1 } : PM) = PM.off { s with fu := s.fu + 1, es := s.es + 1 } E from by simp [PM.off]; omega]
          exact this
    · cases h
  · rw [if_neg hf] at h
    rw [if_neg (show ¬ ((s.off E).fu : Int) < jf from hf)]
    cases h
    rfl
end Go.Proofs.YtnkfdpnommjlcaaGreatDoor
namespace Go.Proofs.YtnkfdpnommjlcaaGreatDoor
open Go.RowKit Go.ChangeShapes Go.WideShapes Go.ChangeAt Go.Deep

theorem doM_es {fs : List Fun} {deep : Int} {s : PM} {op n : Int} {q : PM × Option (Int × Int)} (h : doM fs deep s op n = some q) : q.1.es = s.es := by
  unfold doM at h
  repeat' split at h
  all_goals first
    | (cases h; done)
    | (simp only [Option.some.injEq] at h; subst h; rfl)
theorem stepM_es {fs : List Fun} {jf deep : Int} {s : PM} {q : PM × Option (Int × Int)} (h : stepM fs jf deep s = some q) : q.1.es ≤ s.es + 1 := by
  unfold stepM at h
  repeat' split at h
  · have := doM_es h
    simp only at this
    omega
  all_goals first
    | (cases h; done)
    | (cases h; simp)
theorem runM_off {fs : List Fun} {jf deep steps : Int} (E : Nat) : ∀ (N : Nat) (s : PM) (q : PM × Option (Int × Int)), runM fs jf deep steps N s = some q → s.es + N + E ≤ 100000 → runM fs jf deep (steps + E) N (s.off E) = some (q.1.off E, q.2)
  | 0, s, q, h, hE => by
    rw [runM] at h
    split at h
    · cases h
    · rename_i hg
      cases h
      exact runM_stop (by simp only [PM.off]; omega) 0
  | N + 1, s, q, h, hE => by
    by_cases hg : s.ek = 0 ∧ (s.es : Int) < steps
    · have hg' : (s.off E).ek = 0 ∧ ((s.off E).es : Int) < steps + E := ⟨hg.1, by simp only [PM.off]; omega⟩
      cases hst : stepM fs jf deep s with
      | none => rw [runM, if_pos hg, hst] at h; cases h
      | some p =>
        obtain ⟨t, u⟩ := p
        have ho := stepM_off E (by omega) hst
        have hes := stepM_es hst
        cases u with
        | none =>
          rw [runM_go hg hst] at h
          rw [runM_go hg' ho]
          exact runM_off E N t q h (by simp only at hes; omega)
        | some u =>
          rw [runM_up hg hst] at h
          cases h
          exact runM_up hg' ho N
    · rw [runM_stop (by omega)] at h
      cases h
      exact runM_stop (by simp only [PM.off]; omega) _

/-- After T steps in small runs the machine stands at P (its steps counted anew); the great run from there comes to Q. -/
structure Chain (fs : List Fun) (f : Fun) (d : List Int) (jf : Int) (Q : PM × Option (Int × Int)) (P : PM) (T : Nat) : Prop where
  fit : Fit fs f d P
  wt : P.wt = false
  ek : P.ek = 0
  es : P.es = 0
  ev : P.ef = 0 ∧ P.ei = 0 ∧ P.ar = [] ∧ P.er = 0 ∧ P.ev = 0
  fu : P.fu = T
  le : (P.fu : Int) ≤ jf
  run : ∃ N, runM fs jf 0 6000 N (P.off T) = some Q

theorem chain_step {fs : List Fun} {f : Fun} {d : List Int} (hc : Code fs f d) {jf : Int} (hjf : jf ≤ 5000) {Q : PM × Option (Int × Int)} {P : PM} {T : Nat} (h : Chain fs f d jf Q P T) (n : Nat) (hn : n ≤ 63) :
    ∃ q, runW fs jf 0 n 6001 P = some q ∧
      ((q.2 = none ∧ q.1.ek = 0 ∧ n ≤ q.1.es ∧ q.1.es ≤ 63 ∧ Chain fs f d jf Q { q.1 with es := 0 } (T + q.1.es)) ∨ ((finM q).ek ≠ 0 ∧ finM Q = { finM q with es := T + (finM q).es })) := by
  have hT : (T : Int) ≤ jf := by have := h.le; rw [h.fu] at this; exact this
  have hes0 := h.es
  obtain ⟨q, hq, hx⟩ := run_fits hc hjf 0 n 6001 P h.fit h.le (by omega) (by omega)
  have hw : runW fs jf 0 n 6001 P = some q := by
    unfold runW begM
    rw [if_neg (by rw [h.wt]; decide)]
    exact hq
  have hoff := runM_off T 6001 P q hq (by omega)
  obtain ⟨K, hK⟩ := h.run
  refine ⟨q, hw, ?_⟩
  obtain ⟨t, u⟩ := q
  by_cases he : t.ek ≠ 0 ∨ u ≠ none
  · right
    have e1 := runM_end (n2 := 6000) (by omega) 6001 (P.off T) (t.off T) u hoff he
    obtain rfl := runM_same _ _ _ _ _ hK e1
    cases u with
    | none =>
      rcases he with he | he
      · exact ⟨he, by simp only [finM, PM.off, PM.mk.injEq, true_and, and_true]; omega⟩
      · exact absurd rfl he
    | some u =>
      obtain ⟨e, v⟩ := u
      exact ⟨by simp [finM], by simp only [finM, PM.off, PM.mk.injEq, true_and, and_true]; omega⟩
  · have hk : t.ek = 0 := by
      by_cases hk : t.ek = 0
      · exact hk
      · exact absurd (.inl hk) he
    have hu : u = none := by
      cases u with
      | none => rfl
      | some u => exact absurd (.inr (by simp)) he
    subst hu
    left
    obtain ⟨x1, x2, x3, x4, x5, x6, x7, x8, x9, x10⟩ := hx t rfl h.ek hk
    obtain ⟨v1, v2, v3, v4, v5⟩ := h.ev
    have hes : t.es ≤ 63 := by
      rcases Nat.lt_or_ge 63 t.es with hl | hl
      · have : ∀ (N : Nat) (s : PM), runM fs jf 0 n N s = some (t, none) → s.es ≤ 63 → t.es ≤ 63 := by
          intro N
          induction N with
          | zero =>
            intro s hs h63
            rw [runM] at hs
            split at hs
            · cases hs
            · cases hs; exact h63
          | succ N ih =>
            intro s hs h63
            by_cases hg : s.ek = 0 ∧ (s.es : Int) < n
            · cases hst : stepM fs jf 0 s with
              | none => rw [runM, if_pos hg, hst] at hs; cases hs
              | some p =>
                obtain ⟨t1, u1⟩ := p
                have h1 := stepM_es hst
                cases u1 with
                | none => rw [runM_go hg hst] at hs; exact ih t1 hs (by simp only at h1; omega)
                | some u1 => rw [runM_up hg hst] at hs; cases hs
            · rw [runM_stop (by omega)] at hs
              cases hs; exact h63
        exact this 6001 P hq (by omega)
      · exact hl
    have hfu := h.fu
    refine ⟨rfl, hk, by simp only; omega, hes, ⟨⟨x1.fn, x1.pc, x1.lo, x1.kd⟩, x2.trans h.wt, hk, rfl, ⟨x3.trans v1, x4.trans v2, x5.trans v3, x6.trans v4, x7.trans v5⟩, ?_, x8, ?_⟩⟩
    · show t.fu = T + t.es
      omega
    · have e : PM.off { t with es := 0 } (T + t.es) = t.off T := by simp only [PM.off, PM.mk.injEq, true_and, and_true]; omega
      rw [e]
      have hfo : Fit fs f d (t.off T) := ⟨x1.fn, x1.pc, x1.lo, x1.kd⟩
      obtain ⟨q2, hq2, -⟩ := run_fits hc hjf 0 6000 6001 (t.off T) hfo x8 (by simp only [PM.off]; omega) (by simp only [PM.off]; omega)
      obtain ⟨K2, hK2⟩ := runM_on (n2 := 6000) (by omega) 6001 (P.off T) (t.off T) hoff hk 6001 q2 hq2
      obtain rfl := runM_same _ _ _ _ _ hK hK2
      exact ⟨6001, hq2⟩

/-- Where a task begins. -/
theorem chain_start {fs : List Fun} {f : Fun} {d : List Int} (hc : Code fs f d) {jf : Int} (hjf : jf ≤ 5000) (h0 : 0 ≤ jf) {P : PM} (h : Fit fs f d P) (hw : P.wt = false) (hk : P.ek = 0) (hs : P.es = 0) (hf : P.fu = 0) (hv : P.ef = 0 ∧ P.ei = 0 ∧ P.ar = [] ∧ P.er = 0 ∧ P.ev = 0) :
    ∃ Q, runW fs jf 0 6000 6001 P = some Q ∧ Chain fs f d jf Q P 0 ∧ (finM Q).ek ≠ 0 := by
  obtain ⟨Q, hq, hx⟩ := run_fits hc hjf 0 6000 6001 P h (by omega) (by omega) (by omega)
  have e : P.off 0 = P := rfl
  refine ⟨Q, ?_, ⟨h, hw, hk, hs, hv, hf, by omega, 6001, by rw [e]; exact hq⟩, ?_⟩
  · unfold runW begM
    rw [if_neg (by rw [hw]; decide)]
    exact hq
  · obtain ⟨t, u⟩ := Q
    cases u with
    | none =>
      intro hk'
      obtain ⟨-, -, -, -, -, -, -, x8, x9, x10⟩ := hx t rfl hk hk'
      omega
    | some u =>
      obtain ⟨a, b⟩ := u
      simp [finM]
end Go.Proofs.YtnkfdpnommjlcaaGreatDoor
