/- CheckTall's walk. -/
import Derived.Test.YtnkfdpnommjlcaaGreatDoorAlive
namespace Go.Proofs.YtnkfdpnommjlcaaGreatDoor
open Go.RowKit Go.ChangeShapes Go.WideShapes Go.ChangeAt Go.Deep

theorem Tryz.info55 : (Tryz.prog.info? 55).map (fun i => (i.zero, i.size, i.bytes)) = some (some (.agg #[.int .i64 0, .int .i64 0]), 2, 16) := by kernel_rfl
theorem cells_new (w : World) (l : List Value) (t : TypeId) : ∀ j u, l[j]? = some u → (w.alloc (.cells l.toArray t)).cell? ((⟨w.heap.size, 0, none⟩ : Addr).add j) = some u := by
  intro j u hu
  rw [add_none, Nat.zero_add]
  exact cell_row (cs := l) (heap_alloc_new w _) hu
theorem own_code {w : World} {B n : Nat} {v : Value} {code : List (Int × Int)} (h : w.ownsRow B 55 2 v n (insV code)) : ∃ a cap, v = .slice a n cap ∧ Reads w a (insV code) := by
  rcases h.2 with ⟨rfl, e⟩ | ⟨g, cap, cur, rfl, _⟩
  · refine ⟨none, 0, by rw [e], .inl ?_⟩
    have := h.1
    rw [e] at this
    exact List.eq_nil_of_length_eq_zero (by omega)
  · refine ⟨_, cap, rfl, .inr ⟨g, 0, rfl, fun j u hu => ?_⟩⟩
    have := h.cells (g := g) rfl j u hu
    rwa [add_none] at this
theorem insV_app (a b : List (Int × Int)) : insV (a ++ b) = insV a ++ insV b := by simp [insV]

def tallC (n : Nat) : List (Int × Int) := (List.range n).map fun (i : Nat) => ((1 : Int), (i : Int))
theorem tallC_succ (n : Nat) : tallC (n + 1) = tallC n ++ [(1, (n : Int))] := by simp [tallC, List.range_succ]
theorem tall_res (n : Nat) (h1 : 1 ≤ n) (h2 : n ≤ 100) : oneL (tallC n ++ [(18, 0)]) = if 32 < n then (0, 32, 12) else (0, 0, 0) := by
  have : ∀ m : Fin 101, 1 ≤ m.1 → oneL (tallC m.1 ++ [(18, 0)]) = if 32 < m.1 then (0, 32, 12) else (0, 0, 0) := by decide +kernel
  exact this ⟨n, by omega⟩ h1

end Go.Proofs.YtnkfdpnommjlcaaGreatDoor
