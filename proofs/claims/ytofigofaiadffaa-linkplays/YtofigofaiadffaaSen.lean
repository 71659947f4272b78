/- Seq, place, spot, Send. -/
import Derived.Test.YtofigofaiadffaaSnd
namespace Go.Proofs.Ytofigofaiadffaa
open Go.RowKit Go.ChangeShapes Go.WideShapes Go.ChangeAt Go.Deep

set_option maxRecDepth 100000 in
set_option maxHeartbeats 400000 in
theorem seq_any (D : Nat → Prop) (g : Nat) (s : Lk) (w : World) (h : LinkP D w g s) : Calls Try.prog 23 #[.pointer (some ⟨g, 0, none⟩)] w fun e w' => e = .returned (.int .i64 (s.used : Int)) ∧ w' = w := by
  obtain ⟨m, hc, -, hr⟩ := h
  have y1 := hc.used
  rw [hr.used] at y1
  have HU := hide (show s.used = s.acked + s.op.length from rfl)
  rw [← HU.out] at y1
  generalize s.used = u at y1
  clear hc hr HU
  go_enter Try.func23, Try.ntmps23
  go_wp2
  go_ret
  exact ⟨rfl, rfl⟩
theorem rem8 (n : Nat) : (n : Int).tmod 8 = ((n % 8 : Nat) : Int) := by rw [Int.tmod_eq_emod_of_nonneg (by omega)]; simp
set_option maxRecDepth 100000 in
set_option maxHeartbeats 400000 in
theorem place_any (g n : Nat) (w : World) : Calls Try.prog 27 #[.pointer (some ⟨g, 0, none⟩), .int .i64 (n : Int)] w fun e w' => e = .returned (.pointer (some ⟨g, 3 + (n % 8) * 3, none⟩)) ∧ w' = w := by
  have h8 := rem8 n
  have hlt : n % 8 < 8 := Nat.mod_lt _ (by omega)
  generalize n % 8 = k at h8 hlt
  go_enter Try.func27, Try.ntmps27
  go_wp2
  go_ret
  exact ⟨rfl, rfl⟩
set_option maxRecDepth 100000 in
set_option maxHeartbeats 400000 in
theorem spot_any (g n : Nat) (w : World) : Calls Try.prog 39 #[.pointer (some ⟨g, 27, none⟩), .int .i64 (n : Int)] w fun e w' => e = .returned (.pointer (some ⟨g, 28 + (n % 8) * 2, none⟩)) ∧ w' = w := by
  have h8 := rem8 n
  have hlt : n % 8 < 8 := Nat.mod_lt _ (by omega)
  generalize n % 8 = k at h8 hlt
  go_enter Try.func39, Try.ntmps39
  go_wp2
  go_ret
  exact ⟨rfl, rfl⟩
end Go.Proofs.Ytofigofaiadffaa
