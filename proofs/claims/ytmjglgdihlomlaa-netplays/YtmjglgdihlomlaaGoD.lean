/- clear of a row of parcels, and a row cut short. -/
import Derived.Test.YtmjglgdihlomlaaGoI
import Derived.Lib.SliceRun
namespace Go.Proofs.Ytmjglgdihlomlaa
open Go.RowKit Go.ChangeShapes Go.WideShapes Go.ChangeAt Go.Deep Go.Maps

theorem zero37 (w : World) : (zeroValue 37).run Try.prog w = .ok (.agg #[.int .i64 0, .int .i64 0, .slice none 0 0]) w := by kernel_rfl
def zerosP (n : Nat) : List Value := (Builtin.zeroCells #[.int .i64 0, .int .i64 0, .slice none 0 0] n).toList
theorem zerosP_len (n : Nat) : (zerosP n).length = n * 3 := by simp [zerosP, Builtin.zeroCells]
theorem zerosP_one (n : Nat) : ∀ v ∈ zerosP n, v.oneCell' = true := by
  intro v hv
  simp only [zerosP, Builtin.zeroCells, Array.toList_map, List.mem_map] at hv
  obtain ⟨i, _, rfl⟩ := hv
  have h : i % 3 = 0 ∨ i % 3 = 1 ∨ i % 3 = 2 := by omega
  show (#[Value.int .i64 0, .int .i64 0, .slice none 0 0][i % 3]!).oneCell' = true
  rcases h with e | e | e <;> rw [e] <;> rfl
theorem run_clear_p (w : World) (g off n c : Nat) (ty : TypeId) (hc : ∀ j, j < n * 3 → (w.cell? ⟨g, off + j, none⟩).isSome = true) (hf : ∀ j, j < n * 3 → w.frozen? ⟨g, off + j, none⟩ = false) :
    (Builtin.clear_ #[28] ty #[.slice (some ⟨g, off, none⟩) n c]).run Try.prog w = .ok (.tuple #[]) (w.setCells g off (zerosP n)) := by
  have hst := run_storeCells_cells (P := Try.prog) g off (zerosP n) 0 w (fun j hj => by rw [zerosP_len] at hj; exact hc j hj) (fun j hj => by rw [zerosP_len] at hj; exact hf j hj) (zerosP_one n)
  simp only [Nat.add_zero] at hst
  cases n with
  | zero =>
    have e : zerosP 0 = [] := List.eq_nil_of_length_eq_zero (by rw [zerosP_len])
    rw [e]
    simp [Builtin.clear_, run_underlying Try.underlying28, World.setCells]
  | succ m =>
    have e : (Builtin.zeroCells (Value.agg #[.int .i64 0, .int .i64 0, .slice none 0 0]).cells (m + 1)).toList = zerosP (m + 1) := rfl
    simp [Builtin.clear_, run_underlying Try.underlying28, e, hst]
theorem setCells_other (g k : Nat) (hk : k ≠ g) : ∀ (vs : List Value) (o : Nat) (w : World), (w.setCells g o vs).heap[k]? = w.heap[k]?
  | [], _, _ => rfl
  | v :: r, o, w => by
    show ((w.setCell ⟨g, o, none⟩ v).setCells g (o + 1) r).heap[k]? = _
    rw [setCells_other g k hk r (o + 1) _]
    exact Below.heap_setCell _ _ _ _ hk
theorem setCells_size (g : Nat) : ∀ (vs : List Value) (o : Nat) (w : World), (w.setCells g o vs).heap.size = w.heap.size
  | [], _, _ => rfl
  | v :: r, o, w => by
    show ((w.setCell ⟨g, o, none⟩ v).setCells g (o + 1) r).heap.size = _
    rw [setCells_size g r (o + 1) _]
    simp [World.setCell]
/-- A row that is cut to its first i, the rest of it zeroed. -/
theorem row_cut {D : Nat → Prop} {w : World} {g off n c i : Nat} {l : List Pm} (h : RowO D w (some ⟨g, off, none⟩) n c l) (hi : i ≤ n) :
    RowO D (w.setCells g (off + i * 3) (zerosP (n - i))) (some ⟨g, off, none⟩) i c (l.take i) := by
  have hl := h.1.1
  have hnc := h.1.2.1
  obtain ⟨hroom, hap⟩ := h.room
  refine h.turn (fun k hk _ => setCells_other g k hk _ _ _) (fun j hj => ⟨?_, ?_⟩) (by rw [List.length_take]; omega) (by omega) (fun j u hu => ?_) (fun y hy => ⟨h.1.2.2.2.2.2 y (List.mem_of_mem_take hy), hap y (List.mem_of_mem_take hy)⟩)
  · by_cases hin : i * 3 ≤ j ∧ j < i * 3 + (zerosP (n - i)).length
    · have := World.cell?_setCells_in g (zerosP (n - i)) (off + i * 3) w (fun q hq => by have := hroom (i * 3 + q) (by rw [zerosP_len] at hq; omega); rw [← Nat.add_assoc] at this; exact this.1) (j - i * 3) (by omega)
      rw [show off + i * 3 + (j - i * 3) = off + j by omega] at this
      rw [this]; rfl
    · rw [World.cell?_setCells_out g (zerosP (n - i)) (off + i * 3) w ⟨g, off + j, none⟩ (fun _ _ => by simp only; omega)]
      exact (hroom j hj).1
  · rw [World.frozen?_setCells]; exact (hroom j hj).2
  · rw [cV_take, List.getElem?_take] at hu
    split at hu
    · rw [World.cell?_setCells_out g (zerosP (n - i)) (off + i * 3) w ⟨g, off + j, none⟩ (fun _ _ => by simp only; omega)]
      exact h.cells j u hu
    · cases hu
end Go.Proofs.Ytmjglgdihlomlaa
