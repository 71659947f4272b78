/- address. -/
import Derived.Test.YtofigofaiadffaaDuA
namespace Go.Proofs.Ytofigofaiadffaa
open Go.RowKit Go.ChangeShapes Go.WideShapes Go.ChangeAt Go.Deep

/-- Four cells of a frame are stored. -/
def putA (w : World) (b o : Nat) (x0 x1 x2 x4 : Int) : World := (((w.setCell ⟨b, o, none⟩ (.int .i64 x0)).setCell ⟨b, o + 1, none⟩ (.int .i64 x1)).setCell ⟨b, o + 2, none⟩ (.int .i64 x2)).setCell ⟨b, o + 4, none⟩ (.int .i64 x4)
set_option linter.unusedSimpArgs false in
set_option maxRecDepth 100000 in
set_option maxHeartbeats 4000000 in
theorem address_any (g b o : Nat) (se pe li ca : Int) (v0 v1 v2 v4 : Value) (w : World) (hs : w.cell? ⟨g, 45, none⟩ = some (.int .i64 se)) (hp : w.cell? ⟨g, 46, none⟩ = some (.int .i64 pe)) (hl : w.cell? ⟨g, 47, none⟩ = some (.int .i64 li)) (hc : w.cell? ⟨g, 27, none⟩ = some (.int .i64 ca))
    (y0 : w.cell? ⟨b, o, none⟩ = some v0) (y1 : w.cell? ⟨b, o + 1, none⟩ = some v1) (y2 : w.cell? ⟨b, o + 2, none⟩ = some v2) (y4 : w.cell? ⟨b, o + 4, none⟩ = some v4) (f0 : w.frozen? ⟨b, o, none⟩ = false) (f1 : w.frozen? ⟨b, o + 1, none⟩ = false) (f2 : w.frozen? ⟨b, o + 2, none⟩ = false) (f4 : w.frozen? ⟨b, o + 4, none⟩ = false) :
    Calls Try.prog 29 #[.pointer (some ⟨g, 0, none⟩), .pointer (some ⟨b, o, none⟩)] w fun e w' => e = .returned (.tuple #[]) ∧ w' = (putA w b o se pe li ca).drew := by
  go_enter Try.func29, Try.ntmps29
  go_wp2_with fail
  go_big_region
  go_end0
  exact ⟨rfl, rfl⟩
end Go.Proofs.Ytofigofaiadffaa
