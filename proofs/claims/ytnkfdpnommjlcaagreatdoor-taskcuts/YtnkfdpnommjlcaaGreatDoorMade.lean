/- make of numbers and of bools. -/
import Derived.Test.YtnkfdpnommjlcaaGreatDoorOver
namespace Go.Proofs.YtnkfdpnommjlcaaGreatDoor
open Go.RowKit Go.ChangeShapes Go.WideShapes Go.ChangeAt Go.Deep

theorem Tryz.info3 : (Tryz.prog.info? 3).map (fun i => (i.zero, i.size, i.bytes)) = some (some (.int .i64 0), 1, 8) := by kernel_rfl
theorem Tryz.info4 : (Tryz.prog.info? 4).map (fun i => (i.zero, i.size, i.bytes)) = some (some (.bool false), 1, 1) := by kernel_rfl
theorem made_ints (n : Nat) : (madeCells (Value.int IntKind.i64 0).cells (n * 1)) = (iV (List.replicate n 0)).toArray := by
  apply Array.ext
  · simp [madeCells, iV]
  · intro i h1 h2
    simp [madeCells, iV, Value.cells]
    rw [Nat.mod_one]; rfl
theorem made_bools (n : Nat) : (madeCells (Value.bool false).cells (n * 1)) = (tV (List.replicate n false)).toArray := by
  apply Array.ext
  · simp [madeCells, tV]
  · intro i h1 h2
    simp [madeCells, tV, Value.cells]
    rw [Nat.mod_one]; rfl
theorem mk_ints (n : Nat) (hn : n ≤ 1000000000) (w : World) : (Instr.makeSlice 23 (.int .i64 (n : Int)) (.int .i64 (n : Int))).run Tryz.prog w = .ok (.slice (some ⟨w.heap.size, 0, none⟩) n n) (w.alloc (.cells (iV (List.replicate n 0)).toArray 3)) := by
  obtain ⟨i0, hi, hz0, hz1, hz2⟩ := info_parts Tryz.info3
  have := run_make (P := Tryz.prog) w 23 3 i0 (.int .i64 0) Tryz.underlying23 hi hz0 .i64 .i64 n n (by omega) (Int.le_refl _) (by rw [hz2]; omega) (by omega)
  simp only [Int.toNat_natCast] at this
  rw [this, hz1, made_ints]
theorem mk_bools (n : Nat) (hn : n ≤ 1000000000) (w : World) : (Instr.makeSlice 108 (.int .i64 (n : Int)) (.int .i64 (n : Int))).run Tryz.prog w = .ok (.slice (some ⟨w.heap.size, 0, none⟩) n n) (w.alloc (.cells (tV (List.replicate n false)).toArray 4)) := by
  obtain ⟨i0, hi, hz0, hz1, hz2⟩ := info_parts Tryz.info4
  have := run_make (P := Tryz.prog) w 108 4 i0 (.bool false) Tryz.underlying108 hi hz0 .i64 .i64 n n (by omega) (Int.le_refl _) (by rw [hz2]; omega) (by omega)
  simp only [Int.toNat_natCast] at this
  rw [this, hz1, made_bools]
end Go.Proofs.YtnkfdpnommjlcaaGreatDoor
