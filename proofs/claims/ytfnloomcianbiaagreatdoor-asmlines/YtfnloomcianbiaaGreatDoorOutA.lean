/- What both readers answer, in one form. -/
import Derived.Test.YtfnloomcianbiaaGreatDoorEqL
import Derived.Test.YtfnloomcianbiaaGreatDoorRefD
import Derived.Test.YtfnloomcianbiaaGreatDoorAlive
namespace Go.Proofs.YtfnloomcianbiaaGreatDoor
open Go.RowKit Go.ChangeShapes Go.WideShapes Go.ChangeAt Go.Deep

/-- A reader's answer: the job, the line, the error. -/
structure Out where
  fs : List Fun
  main : Int
  args : List Int
  fuel : Int
  tasks : Int
  line : Int
  err : Int
def outL : Except Int St → Out
  | .ok st => ⟨st.funcs, st.main, st.args, st.fuel, st.tasks, 0, 0⟩
  | .error k => ⟨[], 0, [], 0, 0, k, 2⟩
theorem sim_out {A B : Except Int St} (h : Sim A B) : outL B = outL A := by
  cases A with
  | error k => have : B = .error k := h; rw [this]
  | ok s => obtain ⟨r, l, h⟩ := h; rw [h]; rfl

theorem tie_small : ∀ (us : List Use) (st st' : St), tieL us st = .ok st' → (∀ f ∈ st.funcs, f.code.length ≤ 1000000) → st'.funcs.length = st.funcs.length ∧ st'.args = st.args ∧ ∀ f ∈ st'.funcs, f.code.length ≤ 1000000
  | [], st, st', h, hc => by
    injection h with h
    subst h
    exact ⟨rfl, rfl, hc⟩
  | u :: us, st, st', h, hc => by
    unfold tieL at h
    split at h
    · cases h
    · split at h
      · exact tie_small us { st with main := findF u.name st.funcs } st' h hc
      · obtain ⟨h1, h2, h3⟩ := tie_small us _ st' h (fun g hg => setN_code hc hg)
        exact ⟨by rw [h1]; simp [St.setN], h2, h3⟩

theorem main_small {ws : List ByteArray} {nm : ByteArray} {vs : List Int} (h : mainL ws = some (nm, vs)) : vs.length ≤ 8 := by
  unfold mainL at h
  split at h
  · split at h
    · split at h
      · split at h
        · rename_i h8
          injection h with h
          injection h with _ h
          rw [← h]; exact h8
        · cases h
      · cases h
    · cases h
  · cases h
theorem line_args {k : Int} {l : ByteArray} {st st' : St} (h : lineL k l st = some st') (ha : st.args.length ≤ 8) : st'.args.length ≤ 8 := by
  unfold lineL at h
  split at h
  · obtain ⟨p, _, rfl⟩ := Option.map_eq_some_iff.1 h; exact ha
  · split at h
    · obtain ⟨p, hp, rfl⟩ := Option.map_eq_some_iff.1 h; exact main_small (nm := p.1) hp
    · split at h
      · split at h
        · split at h
          · have h := Option.some.inj h
            subst h
            exact ha
          · cases h
        · cases h
      · obtain ⟨p, hp, rfl⟩ := Option.map_eq_some_iff.1 h; exact ha
theorem go_small (wh : Bool) : ∀ (ls : List ByteArray) (i : Nat) (e : Bool) (st st' : St), Good i st → st.args.length ≤ 8 → goL wh ls i e st = .ok st' → ∃ j, Good j st' ∧ st'.args.length ≤ 8
  | [], i, e, st, st', hg, ha, h => by
    unfold goL at h
    split at h
    · injection h with h; subst h; exact ⟨i, hg, ha⟩
    · cases h
  | l :: r, i, e, st, st', hg, ha, h => by
    unfold goL at h
    split at h
    · cases h
    · split at h
      · exact go_small wh r (i + 1) true st st' ⟨hg.funcs, by have := hg.uses; omega, hg.code, fun h => hg.args (by omega), hg.ok⟩ ha h
      · split at h
        · cases h
        · rename_i st1 hl
          exact go_small wh r (i + 1) false st1 st' (hg.line hl) (line_args hl ha) h
theorem out_small (s : ByteArray) : (outL (refReadL s)).fs.length ≤ 32 ∧ (outL (refReadL s)).args.length ≤ 8 ∧ ∀ f ∈ (outL (refReadL s)).fs, f.code.length ≤ 1000000 := by
  unfold refReadL
  cases hG : goL (linesOf s.data.toList).2 (linesOf s.data.toList).1 0 false st0 with
  | error n => exact ⟨by simp [outL], by simp [outL], fun f hf => by cases hf⟩
  | ok st =>
    obtain ⟨j, hg, ha⟩ := go_small _ _ 0 false st0 st good0 (by decide) hG
    simp only
    cases hT : tieL st.uses st with
    | error n => exact ⟨by simp [outL], by simp [outL], fun f hf => by cases hf⟩
    | ok st' =>
      obtain ⟨h1, h2, h3⟩ := tie_small _ _ _ hT (fun f hf => by have := hg.code f hf; omega)
      exact ⟨by show st'.funcs.length ≤ 32; rw [h1]; exact hg.funcs, by show st'.args.length ≤ 8; rw [h2]; exact ha, h3⟩

/-- A job of one's own: its functions lie in memory that was not there before. -/
def Fresh (B : Nat) (w : World) (fa : Option Addr) (n : Nat) : Prop := (fa = none ∧ n = 0) ∨ ∃ (g : Nat) (cs : List Value), fa = some ⟨g, 0, none⟩ ∧ B ≤ g ∧ w.heap[g]? = some (.cells cs.toArray 45 (0, 0)) ∧ n * 4 ≤ cs.length
def OutPost (o : Out) (w : World) (e : Ending) (w' : World) : Prop :=
  ∃ fa fc aa ac cs, e = .returned (.tuple #[.agg #[.slice fa o.fs.length fc, .int .i64 o.main, .slice aa o.args.length ac, .int .i64 o.fuel, .int .i64 o.tasks], .int .i64 o.line, .int .i64 o.err]) ∧ JobR w' ⟨fa, o.fs.length, fc, o.main, aa, o.args.length, ac, o.fuel, o.tasks⟩ cs o.fs o.args ∧ Below w.heap.size w w' ∧ Fresh w.heap.size w' fa o.fs.length

theorem job_none (w : World) : JobR w ⟨none, 0, 0, 0, none, 0, 0, 0, 0⟩ [] [] [] :=
  ⟨rfl, Nat.le_refl _, rfl, .inl ⟨rfl, rfl⟩, fun i h => by simp at h, rfl, .inl rfl⟩

theorem readOut_any (s : ByteArray) (hs : s.size ≤ 131072) (w : World) (hE : Env w) : Calls Tryz.prog 9 #[.string s] w (OutPost (outL (refReadL s)) w) := by
  rw [← sim_out (reads_eq s)]
  refine (read_any s w hE).mono ?_
  rintro e w' ⟨hb, hh⟩
  rw [if_neg (by omega)] at hh
  cases hR : readL s with
  | error l =>
    rw [hR] at hh
    exact ⟨none, 0, none, 0, [], hh, job_none _, hb, .inl ⟨rfl, rfl⟩⟩
  | ok st =>
    rw [hR] at hh
    obtain ⟨b, fv, av, uv, cs, hR, he⟩ := hh
    obtain ⟨fa, fc, aa, ac, rfl, rfl, hj⟩ := hR.job
    refine ⟨fa, fc, aa, ac, cs, he, hj, hb, ?_⟩
    rcases hR.fns.2 with ⟨h, h0⟩ | ⟨g, cap, cur, h, hg, hh, hn, _, hc, _⟩
    · injection h with h _ _
      exact .inl ⟨h, h0⟩
    · injection h with h1 _ h2
      refine .inr ⟨g, cur.toList, h1, by omega, by simpa using hh, ?_⟩
      show st.funcs.length * 4 ≤ cur.toList.length
      rw [Array.length_toList]
      omega
theorem refOut_any (s : ByteArray) (hs : s.size ≤ 131072) (w : World) (h9 : 9 ≤ w.heap.size) : Calls Tryz.prog 10 #[.string s] w fun e w' => ∃ fa fc aa ac cs, e = .returned (.tuple #[.agg #[.slice fa (outL (refReadL s)).fs.length fc, .int .i64 (outL (refReadL s)).main, .slice aa (outL (refReadL s)).args.length ac, .int .i64 (outL (refReadL s)).fuel, .int .i64 (outL (refReadL s)).tasks], .int .i64 (outL (refReadL s)).line, .int .i64 (outL (refReadL s)).err]) ∧ JobR w' ⟨fa, (outL (refReadL s)).fs.length, fc, (outL (refReadL s)).main, aa, (outL (refReadL s)).args.length, ac, (outL (refReadL s)).fuel, (outL (refReadL s)).tasks⟩ cs (outL (refReadL s)).fs (outL (refReadL s)).args ∧ Below w.heap.size w w' := by
  refine (refRead_any s hs w h9).mono ?_
  rintro e w' ⟨hb, hh⟩
  cases hR : refReadL s with
  | error l =>
    rw [hR] at hh
    exact ⟨none, 0, none, 0, [], hh, job_none _, hb⟩
  | ok st =>
    rw [hR] at hh
    obtain ⟨fa, fc, aa, ac, cs, he, hj⟩ := hh
    exact ⟨fa, fc, aa, ac, cs, he, hj, hb⟩
end Go.Proofs.YtfnloomcianbiaaGreatDoor
/- Both readers' answers at a text of any size. -/

namespace Go.Proofs.YtfnloomcianbiaaGreatDoor
open Go.RowKit Go.ChangeShapes Go.WideShapes Go.ChangeAt Go.Deep

def outA (s : ByteArray) : Out := if 131072 < s.size then ⟨[], 0, [], 0, 0, 0, 3⟩ else outL (refReadL s)
theorem outA_small (s : ByteArray) : (outA s).fs.length ≤ 32 ∧ (outA s).args.length ≤ 8 ∧ ∀ f ∈ (outA s).fs, f.code.length ≤ 1000000 := by
  unfold outA
  split
  · exact ⟨by simp, by simp, fun f hf => by cases hf⟩
  · exact out_small s

theorem readA_any (s : ByteArray) (w : World) (hE : Env w) : Calls Tryz.prog 9 #[.string s] w (OutPost (outA s) w) := by
  by_cases h : 131072 < s.size
  · have e : outA s = ⟨[], 0, [], 0, 0, 0, 3⟩ := by unfold outA; rw [if_pos h]
    rw [e]
    refine (read_any s w hE).mono ?_
    rintro e w' ⟨hb, hh⟩
    rw [if_pos h] at hh
    exact ⟨none, 0, none, 0, [], hh, job_none _, hb, .inl ⟨rfl, rfl⟩⟩
  · have e : outA s = outL (refReadL s) := by unfold outA; rw [if_neg h]
    rw [e]
    exact readOut_any s (by omega) w hE

/-- What the reference's reader answers, in the same form. -/
def RefOut (o : Out) (w : World) (e : Ending) (w' : World) : Prop :=
  ∃ fa fc aa ac cs, e = .returned (.tuple #[.agg #[.slice fa o.fs.length fc, .int .i64 o.main, .slice aa o.args.length ac, .int .i64 o.fuel, .int .i64 o.tasks], .int .i64 o.line, .int .i64 o.err]) ∧ JobR w' ⟨fa, o.fs.length, fc, o.main, aa, o.args.length, ac, o.fuel, o.tasks⟩ cs o.fs o.args ∧ Below w.heap.size w w'

set_option maxRecDepth 100000 in
set_option maxHeartbeats 2000000 in
theorem refRead_big (s : ByteArray) (hs : 131072 < s.size) (w : World) : Calls Tryz.prog 10 #[.string s] w fun e w' => e = .returned (.tuple #[noJob, .int .i64 0, .int .i64 3]) ∧ Below w.heap.size w w' := by
  have hbA := alloc_below w (.cells #[.slice none 0 0, .int .i64 0, .slice none 0 0, .int .i64 0, .int .i64 0] 25)
  have hA : Box5 (w.alloc (.cells #[.slice none 0 0, .int .i64 0, .slice none 0 0, .int .i64 0, .int .i64 0] 25)) w.heap.size := heap_alloc_new w _
  have hs' : (131072 : Int) < (s.size : Int) := by omega
  clear hs
  go_enter Tryz.func10, Tryz.ntmps10
  go_wp2
  obtain ⟨d0, d1, d2, d3, d4, _⟩ := hA.facts
  generalize w.alloc (.cells #[.slice none 0 0, .int .i64 0, .slice none 0 0, .int .i64 0, .int .i64 0] 25) = w5 at *
  exact bodyPost_ret (v := .tuple #[.agg #[.slice none 0 0, .int .i64 0, .slice none 0 0, .int .i64 0, .int .i64 0], .int .i64 0, .int .i64 3]) (by simp [results, Tryz.results10, go_sem, d0, d1, d2, d3, d4]) rfl ⟨rfl, hbA⟩

theorem refA_any (s : ByteArray) (w : World) (h9 : 9 ≤ w.heap.size) : Calls Tryz.prog 10 #[.string s] w (RefOut (outA s) w) := by
  by_cases h : 131072 < s.size
  · have e : outA s = ⟨[], 0, [], 0, 0, 0, 3⟩ := by unfold outA; rw [if_pos h]
    rw [e]
    refine (refRead_big s h w).mono ?_
    rintro e w' ⟨he, hb⟩
    exact ⟨none, 0, none, 0, [], he, job_none _, hb⟩
  · have e : outA s = outL (refReadL s) := by unfold outA; rw [if_neg h]
    rw [e]
    exact refOut_any s (by omega) w h9
end Go.Proofs.YtfnloomcianbiaaGreatDoor
