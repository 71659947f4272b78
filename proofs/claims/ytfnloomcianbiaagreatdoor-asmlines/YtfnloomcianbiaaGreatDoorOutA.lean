/- Both readers' answers at a text of any size. -/
import Derived.Test.YtfnloomcianbiaaGreatDoorOutL
namespace Go.Proofs.YtfnloomcianbiaaGreatDoor
open Go.RowKit Go.ChangeShapes Go.WideShapes Go.ChangeAt Go.Deep

def outA (s : ByteArray) : Out := if 131072 < s.size then ⟨[], 0, [], 0, 0, 0, 3⟩ else outL (refReadL s)
theorem outA_small (s : ByteArray) : (outA s).fs.length ≤ 32 ∧ (outA s).args.length ≤ 8 ∧ ∀ f ∈ (outA s).fs, f.code.length ≤ 1000000 := by
  unfold outA
  split
  · exact ⟨by simp, by simp, fun f hf => by cases hf⟩
  · exact out_small s

theorem readA_any (s : ByteArray) (w : World) (hE : Env w) : Calls Tryz.prog 9 #[.string s] w (OutPost (outA s) w) := by
  by_cases h : 131072 < s.size
  · have e : outA s = ⟨[], 0, [], 0, 0, 0, 3⟩ := by unfold outA; rw [if_pos h]
    rw [e]
    refine (read_any s w hE).mono ?_
    rintro e w' ⟨hb, hh⟩
    rw [if_pos h] at hh
    exact ⟨none, 0, none, 0, [], hh, job_none _, hb, .inl ⟨rfl, rfl⟩⟩
  · have e : outA s = outL (refReadL s) := by unfold outA; rw [if_neg h]
    rw [e]
    exact readOut_any s (by omega) w hE

/-- What the reference's reader answers, in the same form. -/
def RefOut (o : Out) (w : World) (e : Ending) (w' : World) : Prop :=
  ∃ fa fc aa ac cs, e = .returned (.tuple #[.agg #[.slice fa o.fs.length fc, .int .i64 o.main, .slice aa o.args.length ac, .int .i64 o.fuel, .int .i64 o.tasks], .int .i64 o.line, .int .i64 o.err]) ∧ JobR w' ⟨fa, o.fs.length, fc, o.main, aa, o.args.length, ac, o.fuel, o.tasks⟩ cs o.fs o.args ∧ Below w.heap.size w w'

set_option maxRecDepth 100000 in
set_option maxHeartbeats 2000000 in
theorem refRead_big (s : ByteArray) (hs : 131072 < s.size) (w : World) : Calls Tryz.prog 10 #[.string s] w fun e w' => e = .returned (.tuple #[noJob, .int .i64 0, .int .i64 3]) ∧ Below w.heap.size w w' := by
  have hbA := alloc_below w (.cells #[.slice none 0 0, .int .i64 0, .slice none 0 0, .int .i64 0, .int .i64 0] 25)
  have hA : Box5 (w.alloc (.cells #[.slice none 0 0, .int .i64 0, .slice none 0 0, .int .i64 0, .int .i64 0] 25)) w.heap.size := heap_alloc_new w _
  have hs' : (131072 : Int) < (s.size : Int) := by omega
  clear hs
  go_enter Tryz.func10, Tryz.ntmps10
  go_wp2
  obtain ⟨d0, d1, d2, d3, d4, _⟩ := hA.facts
  generalize w.alloc (.cells #[.slice none 0 0, .int .i64 0, .slice none 0 0, .int .i64 0, .int .i64 0] 25) = w5 at *
  exact bodyPost_ret (v := .tuple #[.agg #[.slice none 0 0, .int .i64 0, .slice none 0 0, .int .i64 0, .int .i64 0], .int .i64 0, .int .i64 3]) (by simp [results, Tryz.results10, go_sem, d0, d1, d2, d3, d4]) rfl ⟨rfl, hbA⟩

theorem refA_any (s : ByteArray) (w : World) (h9 : 9 ≤ w.heap.size) : Calls Tryz.prog 10 #[.string s] w (RefOut (outA s) w) := by
  by_cases h : 131072 < s.size
  · have e : outA s = ⟨[], 0, [], 0, 0, 0, 3⟩ := by unfold outA; rw [if_pos h]
    rw [e]
    refine (refRead_big s h w).mono ?_
    rintro e w' ⟨he, hb⟩
    exact ⟨none, 0, none, 0, [], he, job_none _, hb⟩
  · have e : outA s = outL (refReadL s) := by unfold outA; rw [if_neg h]
    rw [e]
    exact refOut_any s (by omega) w h9
end Go.Proofs.YtfnloomcianbiaaGreatDoor
