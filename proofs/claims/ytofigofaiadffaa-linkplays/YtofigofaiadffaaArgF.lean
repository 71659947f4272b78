/- An argument that is a frame. -/
import Derived.Test.YtofigofaiadffaaAlv
import Derived.Deep.Fields
namespace Go.Proofs.Ytofigofaiadffaa
open Go.ChangeShapes Go.WideShapes Go.ChangeAt Go.RowKit Go.Deep

section
variable {H : Type} {enc : TypeId × Value → H} {P : Program} {w : World} {base : Nat} {spare : Nat → Bool} {held : Bool}

theorem trod_struct6 {t : TypeId} {f0 f1 f2 f3 f4 f5 : Field} {fuel : Nat} {cs : List Value} {x : DataW H × List MemPlace} (ht : P.underlying t = some (.struct #[f0, f1, f2, f3, f4, f5])) (h : DataW.trod enc P w base spare held fuel t cs = some x) :
    ∃ y0 y1 y2 y3 y4 y5 n, cs.length = P.cellsOf t ∧ DataW.trod enc P w base spare held n f0.type ((cs.drop f0.offset).take (P.cellsOf f0.type)) = some y0 ∧
      DataW.trod enc P w base spare held n f1.type ((cs.drop f1.offset).take (P.cellsOf f1.type)) = some y1 ∧ DataW.trod enc P w base spare held n f2.type ((cs.drop f2.offset).take (P.cellsOf f2.type)) = some y2 ∧
      DataW.trod enc P w base spare held n f3.type ((cs.drop f3.offset).take (P.cellsOf f3.type)) = some y3 ∧ DataW.trod enc P w base spare held n f4.type ((cs.drop f4.offset).take (P.cellsOf f4.type)) = some y4 ∧
      DataW.trod enc P w base spare held n f5.type ((cs.drop f5.offset).take (P.cellsOf f5.type)) = some y5 := by
  obtain ⟨xs, n, _, rfl, hl, hlen, hf⟩ := DataW.trod_struct ht h
  match xs, hlen with
  | [y0, y1, y2, y3, y4, y5], _ => exact ⟨y0, y1, y2, y3, y4, y5, n, hl, by simpa using hf 0 f0 rfl, by simpa using hf 1 f1 rfl, by simpa using hf 2 f2 rfl, by simpa using hf 3 f3 rfl, by simpa using hf 4 f4 rfl, by simpa using hf 5 f5 rfl⟩
end

theorem arg_frame {H : Type} {enc : TypeId × Value → H} {W : World} {cs : Array Value} {d : DataW H} {p : List MemPlace} (h : DataW.Trod enc Try.prog W 0 (fun _ => true) true 34 (.agg cs) d p) :
    ∃ (f : Fr) (a : Option Addr) (l c : Nat), cs = #[.int .i64 f.fr, .int .i64 f.tt, .int .i64 f.lf, .int .i64 f.sq, .int .i64 f.ak, .slice a l c] ∧ Txt.ok W ⟨a, l, c, f.x⟩ := by
  obtain ⟨fuel, hf⟩ := h
  have c3 : Try.prog.cellsOf 3 = 1 := by kernel_rfl
  have c32 : Try.prog.cellsOf 32 = 1 := by kernel_rfl
  have c34 : Try.prog.cellsOf 34 = 6 := by kernel_rfl
  obtain ⟨y0, y1, y2, y3, y4, y5, n, hl, e0, e1, e2, e3, e4, e5⟩ := trod_struct6 Try.underlying34 hf
  simp only [c3, c32, c34] at e0 e1 e2 e3 e4 e5 hl
  obtain ⟨x0, i0, _⟩ := DataW.trod_int Try.underlying3 e0
  obtain ⟨x1, i1, _⟩ := DataW.trod_int Try.underlying3 e1
  obtain ⟨x2, i2, _⟩ := DataW.trod_int Try.underlying3 e2
  obtain ⟨x3, i3, _⟩ := DataW.trod_int Try.underlying3 e3
  obtain ⟨x4, i4, _⟩ := DataW.trod_int Try.underlying3 e4
  obtain ⟨L⟩ := cs
  simp only [Value.cells] at i0 i1 i2 i3 i4 e5 hl
  match L, hl with
  | [b0, b1, b2, b3, b4, b5], _ =>
    simp at i0 i1 i2 i3 i4
    simp only [List.drop_succ_cons, List.drop_zero, List.take_succ_cons, List.take_zero] at e5
    have hs : ∃ a l c, b5 = Value.slice a l c := by
      rcases open_slice Try.underlying32 e5 with ⟨hcs, _⟩ | ⟨x, l, c, m, n, D, Pl, hcs, _⟩
      · exact ⟨none, 0, 0, by simpa using hcs⟩
      · exact ⟨some x, l, c, by simpa using hcs⟩
    obtain ⟨a, l, c, rfl⟩ := hs
    have ht : DataW.Trod enc Try.prog W 0 (fun _ => true) true 32 (.slice a l c) y5.1 y5.2 := ⟨n, e5⟩
    obtain ⟨ld, h1, h2, h3, h4, h5⟩ := arg_bytes Try.underlying32 Try.underlying5 (by kernel_rfl) ht
    exact ⟨⟨x0, x1, x2, x3, x4, ld⟩, a, l, c, by rw [i0, i1, i2, i3, i4], ⟨h1, h2, ⟨h3, h4.1⟩, h4.2, h5⟩⟩
end Go.Proofs.Ytofigofaiadffaa
