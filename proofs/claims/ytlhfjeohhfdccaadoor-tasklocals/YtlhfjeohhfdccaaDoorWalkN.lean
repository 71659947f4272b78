/- Many steps in a row; out of fuel on the way. A job of one function, with arguments and locals. -/
import Derived.Test.YtlhfjeohhfdccaaDoorPlyG
namespace Go.Proofs.YtlhfjeohhfdccaaDoor
open Go.RowKit Go.ChangeShapes Go.WideShapes Go.ChangeAt Go.Deep

theorem doM_keeps {fs : List Fun} {deep : Int} {s t : PM} {op n : Int} {u : Option (Int × Int)} (h : doM fs deep s op n = some (t, u)) : t.fu = s.fu ∧ t.es = s.es ∧ t.fn = s.fn := by
  unfold doM at h
  repeat' split at h
  all_goals first
    | (cases h; done)
    | (cases h; exact ⟨rfl, rfl, rfl⟩)
theorem stepM_of {fs : List Fun} {jf deep : Int} {s : PM} {f : Fun} {op n : Int} (hj : (s.fu : Int) < jf) (hs : s.small) (hf : fs[s.fn]? = some f) (hi : f.code[s.pc]? = some (op, n)) : stepM fs jf deep s = doM fs deep { s with fu := s.fu + 1, es := s.es + 1 } op n := by
  unfold stepM
  rw [if_pos hj, if_pos hs]
  simp only [hf, hi]
/-- So many steps, none of which comes to an event but the last one. -/
def walkN (fs : List Fun) (J deep : Int) : Nat → PM → Option PM
  | 0, s => some s
  | n + 1, s => if s.ek = 0 then (match stepM fs J deep s with | some (t, none) => walkN fs J deep n t | _ => none) else none
theorem stepM_big {fs : List Fun} {J deep : Int} {s : PM} (jf : Int) (hJ : 100000 < J) (hs : s.small) (hj : (s.fu : Int) < jf) : stepM fs jf deep s = stepM fs J deep s := by
  have : (s.fu : Int) < J := by have := hs.1; omega
  unfold stepM
  rw [if_pos hj, if_pos this]
theorem stepM_keeps {fs : List Fun} {jf deep : Int} {s t : PM} (h : stepM fs jf deep s = some (t, none)) : t.fu = s.fu + 1 ∧ t.es = s.es + 1 ∧ t.fn = s.fn := by
  unfold stepM at h
  split at h
  · split at h
    · split at h
      · split at h
        · have := doM_keeps h
          exact this
        · cases h
      · cases h
    · cases h
  · simp at h
theorem stepM_small {fs : List Fun} {jf deep : Int} {s t : PM} (h : stepM fs jf deep s = some (t, none)) : s.small := by
  unfold stepM at h
  split at h
  · split at h
    · rename_i hs
      exact hs
    · cases h
  · simp at h
theorem walkN_add {fs : List Fun} {J deep : Int} : ∀ (a b : Nat) (s t u : PM), walkN fs J deep a s = some t → walkN fs J deep b t = some u → walkN fs J deep (a + b) s = some u
  | 0, b, s, t, u, h1, h2 => by
    simp only [walkN, Option.some.injEq] at h1
    subst h1
    rw [Nat.zero_add]; exact h2
  | a + 1, b, s, t, u, h1, h2 => by
    rw [show a + 1 + b = a + b + 1 by omega]
    unfold walkN at h1 ⊢
    split at h1
    · rename_i hc
      rw [if_pos hc]
      split at h1
      · rename_i t' ht
        exact walkN_add a b t' t u h1 h2
      · cases h1
    · cases h1
theorem walkN_one {fs : List Fun} {J deep : Int} (hJ : 100000 < J) {s t : PM} {f : Fun} {op n : Int} (he : s.ek = 0) (hs : s.small) (hf : fs[s.fn]? = some f) (hi : f.code[s.pc]? = some (op, n)) (hd : doM fs deep { s with fu := s.fu + 1, es := s.es + 1 } op n = some (t, none)) : walkN fs J deep 1 s = some t := by
  unfold walkN
  rw [if_pos he, stepM_of (by have := hs.1; omega) hs hf hi, hd]
  rfl
theorem walkN_keeps {fs : List Fun} {J deep : Int} : ∀ (a : Nat) (s t : PM), walkN fs J deep a s = some t → t.fu = s.fu + a ∧ t.es = s.es + a ∧ t.fn = s.fn
  | 0, s, t, h => by
    simp only [walkN, Option.some.injEq] at h
    subst h
    exact ⟨rfl, rfl, rfl⟩
  | a + 1, s, t, h => by
    unfold walkN at h
    split at h
    · split at h
      · rename_i t' ht
        obtain ⟨e1, e2, e3⟩ := stepM_keeps ht
        obtain ⟨f1, f2, f3⟩ := walkN_keeps a t' t h
        exact ⟨by omega, by omega, by omega⟩
      · cases h
    · cases h
/-- There is fuel enough. -/
theorem run_walk {fs : List Fun} {J deep steps jf : Int} (hJ : 100000 < J) {k : Nat} : ∀ (a : Nat) (s t : PM), walkN fs J deep a s = some t → ((s.es + a : Nat) : Int) ≤ steps → ((s.fu + a : Nat) : Int) ≤ jf → runM fs jf deep steps (a + k) s = runM fs jf deep steps k t
  | 0, s, t, h, _, _ => by
    simp only [walkN, Option.some.injEq] at h
    subst h
    rw [Nat.zero_add]
  | a + 1, s, t, h, h1, h2 => by
    unfold walkN at h
    split at h
    · rename_i hc
      split at h
      · rename_i t' ht
        obtain ⟨e1, e2, _⟩ := stepM_keeps ht
        rw [show a + 1 + k = a + k + 1 by omega]
        rw [runM, if_pos ⟨hc, by omega⟩, stepM_big jf hJ (stepM_small ht) (by omega), ht]
        exact run_walk hJ a t' t h (by omega) (by omega)
      · cases h
    · cases h
/-- The fuel does not reach. -/
theorem run_short {fs : List Fun} {J deep steps jf : Int} (hJ : 100000 < J) {k : Nat} : ∀ (a : Nat) (s t : PM), walkN fs J deep a s = some t → ((s.es + a : Nat) : Int) ≤ steps → (s.fu : Int) ≤ jf → jf < ((s.fu + a : Nat) : Int) → ∃ u, runM fs jf deep steps (a + k) s = some (u, some (21, 0)) ∧ (u.es : Int) = s.es + (jf - s.fu)
  | 0, s, t, h, _, h2, h3 => by omega
  | a + 1, s, t, h, h1, h2, h3 => by
    unfold walkN at h
    split at h
    · rename_i hc
      rw [show a + 1 + k = a + k + 1 by omega]
      by_cases hj : (s.fu : Int) < jf
      · split at h
        · rename_i t' ht
          obtain ⟨e1, e2, _⟩ := stepM_keeps ht
          obtain ⟨u, q1, q2⟩ := run_short (steps := steps) (jf := jf) hJ (k := k) a t' t h (by omega) (by omega) (by omega)
          refine ⟨u, ?_, by omega⟩
          rw [runM, if_pos ⟨hc, by omega⟩, stepM_big jf hJ (stepM_small ht) hj, ht]
          exact q1
        · cases h
      · refine ⟨s, ?_, by omega⟩
        rw [runM, if_pos ⟨hc, by omega⟩]
        unfold stepM
        rw [if_neg hj]
    · cases h
theorem run_done {fs : List Fun} {jf deep steps : Int} {k : Nat} {s : PM} (h : s.ek ≠ 0) : runM fs jf deep steps k s = some (s, none) := by
  cases k with
  | zero => unfold runM; rw [if_neg (fun q => h q.1)]
  | succ k => unfold runM; rw [if_neg (fun q => h q.1)]

set_option maxRecDepth 100000 in
set_option maxHeartbeats 400000 in
theorem one_new (a : Option Addr) (n cap : Nat) (w : World) : Calls Tryd.prog 10 #[.slice a n cap] w fun r w' => ∃ h, r = .returned (.agg (oneJ h).cells) ∧ w'.heap[h]? = some (.cells [.string fnm, .int .i64 0, .int .i64 0, .slice a n cap].toArray 32 (0, 0)) ∧ w.heap.size ≤ h ∧ Below w.heap.size w w' := by
  go_enter Tryd.func10, Tryd.ntmps10
  go_wp2
  refine bodyPost_ret (v := .agg #[.slice (some ⟨w.heap.size + 1, 0, none⟩) 1 1, .int .i64 0, .slice none 0 0, .int .i64 100, .int .i64 50]) (by simp [results, Tryd.results10, go_sem]) rfl ?_
  refine ⟨w.heap.size + 1, rfl, ?_, by omega, ?_⟩
  · have := heap_alloc_new (w.alloc (.cells #[.slice (some ⟨w.heap.size + 1, 0, none⟩) 1 1, .int .i64 0, .slice none 0 0, .int .i64 100, .int .i64 50] 29)) (.cells #[.string ⟨#[102]⟩, .int .i64 0, .int .i64 0, .slice a n cap] 32)
    rwa [show (w.alloc (.cells #[.slice (some ⟨w.heap.size + 1, 0, none⟩) 1 1, .int .i64 0, .slice none 0 0, .int .i64 100, .int .i64 50] 29)).heap.size = w.heap.size + 1 by simp] at this
  · exact ((Below.refl _ _).alloc (Nat.le_refl _) _).alloc (by simp) _

/-- The job of one function, whatever its numbers. -/
theorem job_gen {w : World} {h : Nat} {a : Option Addr} {n cap : Nat} {code : List (Int × Int)} (ar lo fuel tasks : Int) (aa : Option Addr) (na ac : Nat) (args : List Int) (hrow : w.heap[h]? = some (.cells [.string fnm, .int .i64 ar, .int .i64 lo, .slice a n cap].toArray 32 (0, 0))) (hn : code.length = n) (hr : Reads w a (insV code)) (hna : args.length = na) (hra : Reads w aa (iV args)) :
    JobR w ⟨some ⟨h, 0, none⟩, 1, 1, 0, aa, na, ac, fuel, tasks⟩ [.slice a n cap] [⟨fnm, ar, lo, code⟩] args :=
  ⟨rfl, Nat.le_refl _, rfl, .inr ⟨h, 0, rfl, lt_row hrow, fun j hj i v hv => by
      have hj0 : j = 0 := by simp [frs] at hj; omega
      subst hj0
      rw [show 0 + 0 * 4 + i = i by omega]
      exact cell_row hrow hv⟩, fun i h h' => by
        have hi : i = 0 := by simp at h; omega
        subst hi
        exact ⟨a, cap, by simp [hn], by simpa using hr⟩, hna.symm, hra⟩
theorem check_gen {f : Fun} {na : Nat} {fuel tasks : Int} (h1 : 1 ≤ fuel ∧ fuel ≤ 5000) (h2 : 1 ≤ tasks ∧ tasks ≤ 500) (h3 : (na : Int) = f.args) (h4 : (funcErr [f] 0 f).2 = 0) : (checkL [f] 0 na fuel tasks).2.2 = 0 := by
  have hj : jobErr [f] 0 na fuel tasks = 0 := by
    unfold jobErr
    simp [hasB, inB, h3]
    omega
  unfold checkL
  rw [if_pos hj]
  unfold checkFrom
  rw [if_pos h4]
  rfl
theorem deps_gen {f : Fun} {na : Nat} {fuel tasks : Int} {D : List Int} (hc : (checkL [f] 0 na fuel tasks).2.2 = 0) (hd : depthsL [f.args] f.code = .ok D) : depsOf [f] 0 na fuel tasks 0 = D := by
  unfold depsOf
  rw [if_pos ⟨hc, by simp [hasB, inB]⟩]
  simp [hd]
end Go.Proofs.YtlhfjeohhfdccaaDoor
