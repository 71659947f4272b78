/- The listed variables, as cells. -/
import Derived.Test.YtnkfdpnommjlcaaGreatDoorAlive
import Derived.Test.YtnkfdpnommjlcaaGreatDoorTie
import Derived.Test.YtnkfdpnommjlcaaGreatDoorCards
import Derived.Stop.LaidErr
import Derived.LaidMore
import Derived.LaidHandle
import Derived.Lay
import Derived.SevenTiedAt
import Derived.Stop.Joined
namespace Go.Proofs.YtnkfdpnommjlcaaGreatDoor
open Go.ChangeShapes Go.WideShapes Go.ChangeAt Go.RowKit Go.Deep

section
variable {H : Type} {enc : TypeId × Value → H} {P : Program} {w : World} {base : Nat} {spare : Nat → Bool} {held : Bool}
theorem trod_struct4 {t : TypeId} {f0 f1 f2 f3 : Field} {fuel : Nat} {cs : List Value} {x : DataW H × List MemPlace} (ht : P.underlying t = some (.struct #[f0, f1, f2, f3])) (h : DataW.trod enc P w base spare held fuel t cs = some x) :
    ∃ y0 y1 y2 y3 n, x.1 = .agg [y0.1, y1.1, y2.1, y3.1] ∧ cs.length = P.cellsOf t ∧ DataW.trod enc P w base spare held n f0.type ((cs.drop f0.offset).take (P.cellsOf f0.type)) = some y0 ∧
      DataW.trod enc P w base spare held n f1.type ((cs.drop f1.offset).take (P.cellsOf f1.type)) = some y1 ∧ DataW.trod enc P w base spare held n f2.type ((cs.drop f2.offset).take (P.cellsOf f2.type)) = some y2 ∧
      DataW.trod enc P w base spare held n f3.type ((cs.drop f3.offset).take (P.cellsOf f3.type)) = some y3 := by
  obtain ⟨xs, n, _, rfl, hl, hlen, hf⟩ := DataW.trod_struct ht h
  match xs, hlen with
  | [y0, y1, y2, y3], _ => exact ⟨y0, y1, y2, y3, n, by simp, hl, by simpa using hf 0 f0 rfl, by simpa using hf 1 f1 rfl, by simpa using hf 2 f2 rfl, by simpa using hf 3 f3 rfl⟩
end

def kindD (k : Kind) : DataW Unit := .agg [.lit (.string k.word.data.toList), .lit (.bool k.hasN), .lit (.int .i64 k.pops), .lit (.int .i64 k.pushes)]
theorem laid_is : (Rows.laid_gleaner_code_kinds : DataW Unit) = .agg (kindT.map kindD) := rfl

theorem one_of {cs : List Value} {v : Value} (a f : Nat) (hf : f < 4) (h : ((((cs.drop a).take 4).drop f).take 1) = [v]) : cs[a + f]? = some v := by
  have : ((((cs.drop a).take 4).drop f).take 1)[0]? = some v := by rw [h]; rfl
  simpa [hf] using this

theorem tab_of_laid {W : World} {rest : List (String × DataW Unit)} (h : laidMet Tryz.prog (("gleaner/code.kinds", Rows.laid_gleaner_code_kinds) :: rest) W) : Tab W := by
  obtain ⟨ps, ⟨g, t, cs, fuel, p, q, hg, ht, hv, hd, _, _⟩, _, _⟩ := h
  obtain rfl := Option.some.inj ((show Tryz.prog.globalNamed "gleaner/code.kinds" = some 1 by kernel_rfl).symm.trans hg)
  obtain rfl := Option.some.inj ((show (Tryz.prog.globals[1]?).map (·.type) = some 175 by kernel_rfl).symm.trans ht)
  obtain ⟨xs, m, _, ex, _, hl, hel⟩ := DataW.trod_array Tryz.underlying175 hd
  intro r hr
  have hr20 : r < 20 := hr
  have c43 : Tryz.prog.cellsOf 171 = 4 := by kernel_rfl
  have c9 : Tryz.prog.cellsOf 9 = 1 := by kernel_rfl
  have c4 : Tryz.prog.cellsOf 4 = 1 := by kernel_rfl
  have c3 : Tryz.prog.cellsOf 3 = 1 := by kernel_rfl
  have hE := hel r hr20
  rw [c43, List.getElem?_eq_getElem (by omega)] at hE
  obtain ⟨y0, y1, y2, y3, n, e, _, e0, e1, e2, e3⟩ := trod_struct4 Tryz.underlying171 hE
  simp only [c9, c4, c3] at e0 e1 e2 e3
  obtain ⟨s, i0, j0, _⟩ := DataW.trod_string Tryz.underlying9 e0
  obtain ⟨b, i1, j1⟩ := DataW.trod_bool Tryz.underlying4 e1
  obtain ⟨p2, i2, j2, _⟩ := DataW.trod_int Tryz.underlying3 e2
  obtain ⟨p3, i3, j3, _⟩ := DataW.trod_int Tryz.underlying3 e3
  have i0 := one_of (r * 4) 0 (by omega) i0
  have i1 := one_of (r * 4) 1 (by omega) i1
  have i2 := one_of (r * 4) 2 (by omega) i2
  have i3 := one_of (r * 4) 3 (by omega) i3
  have hx : xs.map (·.1) = kindT.map kindD := (DataW.agg.inj ((Prod.mk.inj ex).1.symm.trans laid_is))
  have hxr : (xs.map (·.1))[r]? = (kindT.map kindD)[r]? := by rw [hx]
  rw [List.getElem?_map, List.getElem?_map, List.getElem?_eq_getElem (by omega : r < xs.length), List.getElem?_eq_getElem hr] at hxr
  simp only [Option.map_some, Option.some.injEq] at hxr
  rw [e, j0, j1, j2, j3] at hxr
  simp only [kindD, DataW.agg.injEq, List.cons.injEq, DataW.lit.injEq, Lit.string.injEq, Lit.bool.injEq, Lit.int.injEq, true_and, and_true] at hxr
  obtain ⟨k0, k1, k2, k3⟩ := hxr
  have k0 : s = kindT[r].word := by
    obtain ⟨⟨l⟩⟩ := s
    generalize kindT[r].word = z at k0
    obtain ⟨⟨l'⟩⟩ := z
    simp only at k0
    rw [k0]
  rw [k0] at i0
  rw [k1] at i1
  rw [k2] at i2
  rw [k3] at i3
  refine ⟨?_, ?_, ?_, ?_⟩
  · rw [World.var?_cell hg hv (r * 4), ← Array.getElem?_toList]; exact i0
  · rw [World.var?_cell hg hv (r * 4 + 1)]; simpa using i1
  · rw [World.var?_cell hg hv (r * 4 + 2)]; simpa using i2
  · rw [World.var?_cell hg hv (r * 4 + 3)]; simpa using i3


theorem own : ownKnob Tryz.prog.godebug = none := by kernel_rfl
theorem as_et : Tryz.prog.globalNamed "errors.errorType" = some 0 := by kernel_rfl
theorem as_rt : (Tryz.prog.cutTypes.find? (·.1 == "internal/reflectlite.rtype")).map (·.2) = some 139 := by kernel_rfl
theorem as_oneRow : ((List.range 205).filter fun t => Tryz.prog.rowNamed t [101, 114, 114, 111, 114]) = [89] := by kernel_rfl
theorem as_size : Tryz.prog.types.size = 205 := by kernel_rfl
def laids : List (String × DataW Unit) := [("gleaner/code.kinds", Rows.laid_gleaner_code_kinds), ("errors.errorType", Rows.laid_errors_errorType)]

theorem env_of_laid {W : World} (h : laidMetH Tryz.prog laids W) : Env W := by
  have h' : laidMet Tryz.prog [("gleaner/code.kinds", Rows.laid_gleaner_code_kinds)] W ∧ handlesMet Tryz.prog [("errors.errorType", Rows.laid_errors_errorType)] W := h
  have hT := tab_of_laid h'.1
  obtain ⟨name, u, ty, e1, e2, e3, e4, e5⟩ := h'.2 _ (List.mem_singleton.2 rfl)
  have en : name = [101, 114, 114, 111, 114] := (Option.some.inj e1).symm
  subst en
  obtain rfl := Option.some.inj (as_rt.symm.trans e2)
  have hm : ty ∈ (List.range 205).filter fun t => Tryz.prog.rowNamed t [101, 114, 114, 111, 114] := List.mem_filter.2 ⟨List.mem_range.2 (by rw [← as_size]; exact e3), e4⟩
  rw [as_oneRow] at hm
  obtain rfl := List.mem_singleton.1 hm
  have hh : typeHandle Tryz.prog 89 = .pointer (some ⟨2, 89, none⟩) := by kernel_rfl
  rw [hh] at e5
  have hc := cell_some_lt (hT 0 (by decide)).1
  exact ⟨hc, hT, by simpa using World.var?_cell as_et e5 0⟩

/-- The door's own heap meets the condition. -/
theorem door_met (os : Os) (args : Array Value) : laidMetH Tryz.prog laids ((World.doorLaid Tryz.prog 400 os).forCall (fun _ _ => 0) ⟨#[], args, []⟩).memory :=
  laidMetH_of_parts3 (fuel := 8) (laidMet_of_run' 8 (by kernel_rfl) (by kernel_rfl)) (by kernel_rfl) (by kernel_rfl)
end Go.Proofs.YtnkfdpnommjlcaaGreatDoor
