/- The listed table, as cells. -/
import Derived.Test.YtfnloomcianbiaaGreatDoorAlive
import Derived.Stop.LaidErr
import Derived.Test.YtfnloomcianbiaaGreatDoorTie
import Derived.Test.YtfnloomcianbiaaGreatDoorCards
import Derived.LaidMore
import Derived.Lay
import Derived.SevenTiedAt
import Derived.Stop.Joined
namespace Go.Proofs.YtfnloomcianbiaaGreatDoor
open Go.ChangeShapes Go.WideShapes Go.ChangeAt Go.RowKit Go.Deep

section
variable {H : Type} {enc : TypeId × Value → H} {P : Program} {w : World} {base : Nat} {spare : Nat → Bool} {held : Bool}
theorem trod_struct4 {t : TypeId} {f0 f1 f2 f3 : Field} {fuel : Nat} {cs : List Value} {x : DataW H × List MemPlace} (ht : P.underlying t = some (.struct #[f0, f1, f2, f3])) (h : DataW.trod enc P w base spare held fuel t cs = some x) :
    ∃ y0 y1 y2 y3 n, x.1 = .agg [y0.1, y1.1, y2.1, y3.1] ∧ cs.length = P.cellsOf t ∧ DataW.trod enc P w base spare held n f0.type ((cs.drop f0.offset).take (P.cellsOf f0.type)) = some y0 ∧
      DataW.trod enc P w base spare held n f1.type ((cs.drop f1.offset).take (P.cellsOf f1.type)) = some y1 ∧ DataW.trod enc P w base spare held n f2.type ((cs.drop f2.offset).take (P.cellsOf f2.type)) = some y2 ∧
      DataW.trod enc P w base spare held n f3.type ((cs.drop f3.offset).take (P.cellsOf f3.type)) = some y3 := by
  obtain ⟨xs, n, _, rfl, hl, hlen, hf⟩ := DataW.trod_struct ht h
  match xs, hlen with
  | [y0, y1, y2, y3], _ => exact ⟨y0, y1, y2, y3, n, by simp, hl, by simpa using hf 0 f0 rfl, by simpa using hf 1 f1 rfl, by simpa using hf 2 f2 rfl, by simpa using hf 3 f3 rfl⟩
end

def kindD (k : Kind) : DataW Unit := .agg [.lit (.string k.word.data.toList), .lit (.bool k.hasN), .lit (.int .i64 k.pops), .lit (.int .i64 k.pushes)]
theorem laid_is : (Rows.laid_gleaner_code_kinds : DataW Unit) = .agg (kindT.map kindD) := rfl

theorem one_of {cs : List Value} {v : Value} (a f : Nat) (hf : f < 4) (h : ((((cs.drop a).take 4).drop f).take 1) = [v]) : cs[a + f]? = some v := by
  have : ((((cs.drop a).take 4).drop f).take 1)[0]? = some v := by rw [h]; rfl
  simpa [hf] using this

theorem tab_of_laid {W : World} {rest : List (String × DataW Unit)} (h : laidMet Tryz.prog (("gleaner/code.kinds", Rows.laid_gleaner_code_kinds) :: rest) W) : Tab W := by
  obtain ⟨ps, ⟨g, t, cs, fuel, p, q, hg, ht, hv, hd, _, _⟩, _, _⟩ := h
  obtain rfl := Option.some.inj ((show Tryz.prog.globalNamed "gleaner/code.kinds" = some 0 by kernel_rfl).symm.trans hg)
  obtain rfl := Option.some.inj ((show (Tryz.prog.globals[0]?).map (·.type) = some 110 by kernel_rfl).symm.trans ht)
  obtain ⟨xs, m, _, ex, _, hl, hel⟩ := DataW.trod_array Tryz.underlying110 hd
  intro r hr
  have hr20 : r < 20 := hr
  have c43 : Tryz.prog.cellsOf 106 = 4 := by kernel_rfl
  have c9 : Tryz.prog.cellsOf 9 = 1 := by kernel_rfl
  have c4 : Tryz.prog.cellsOf 4 = 1 := by kernel_rfl
  have c3 : Tryz.prog.cellsOf 3 = 1 := by kernel_rfl
  have hE := hel r hr20
  rw [c43, List.getElem?_eq_getElem (by omega)] at hE
  obtain ⟨y0, y1, y2, y3, n, e, _, e0, e1, e2, e3⟩ := trod_struct4 Tryz.underlying106 hE
  simp only [c9, c4, c3] at e0 e1 e2 e3
  obtain ⟨s, i0, j0, _⟩ := DataW.trod_string Tryz.underlying9 e0
  obtain ⟨b, i1, j1⟩ := DataW.trod_bool Tryz.underlying4 e1
  obtain ⟨p2, i2, j2, _⟩ := DataW.trod_int Tryz.underlying3 e2
  obtain ⟨p3, i3, j3, _⟩ := DataW.trod_int Tryz.underlying3 e3
  have i0 := one_of (r * 4) 0 (by omega) i0
  have i1 := one_of (r * 4) 1 (by omega) i1
  have i2 := one_of (r * 4) 2 (by omega) i2
  have i3 := one_of (r * 4) 3 (by omega) i3
  have hx : xs.map (·.1) = kindT.map kindD := (DataW.agg.inj ((Prod.mk.inj ex).1.symm.trans laid_is))
  have hxr : (xs.map (·.1))[r]? = (kindT.map kindD)[r]? := by rw [hx]
  rw [List.getElem?_map, List.getElem?_map, List.getElem?_eq_getElem (by omega : r < xs.length), List.getElem?_eq_getElem hr] at hxr
  simp only [Option.map_some, Option.some.injEq] at hxr
  rw [e, j0, j1, j2, j3] at hxr
  simp only [kindD, DataW.agg.injEq, List.cons.injEq, DataW.lit.injEq, Lit.string.injEq, Lit.bool.injEq, Lit.int.injEq, true_and, and_true] at hxr
  obtain ⟨k0, k1, k2, k3⟩ := hxr
  have k0 : s = kindT[r].word := by
    obtain ⟨⟨l⟩⟩ := s
    generalize kindT[r].word = z at k0
    obtain ⟨⟨l'⟩⟩ := z
    simp only at k0
    rw [k0]
  rw [k0] at i0
  rw [k1] at i1
  rw [k2] at i2
  rw [k3] at i3
  refine ⟨?_, ?_, ?_, ?_⟩
  · rw [World.var?_cell hg hv (r * 4), ← Array.getElem?_toList]; exact i0
  · rw [World.var?_cell hg hv (r * 4 + 1)]; simpa using i1
  · rw [World.var?_cell hg hv (r * 4 + 2)]; simpa using i2
  · rw [World.var?_cell hg hv (r * 4 + 3)]; simpa using i3

theorem pow_is : (Rows.laid_internal_strconv_uint64pow10 : DataW Unit) = Lib.tabData .u64 Lib.pow10Tab := rfl
theorem star : "*" ++ "errors.errorString" = "*errors.errorString" := by decide
theorem row155 : ∀ u, Tryz.prog.typeName? 3 u = some "*errors.errorString" → u = 150 := fun u h =>
  typeName_ptr_named (nm := "errors.errorString") (by rw [star]; kernel_rfl) (by kernel_rfl) (by decide) u (by rw [star]; exact h)

/-- What the row says of the listed variables, and the world's shape of MaxLen. -/
theorem env_of_laid {W : World} (h : laidMetH Tryz.prog [("gleaner/code.kinds", Rows.laid_gleaner_code_kinds), ("math/bits.deBruijn32tab", Rows.laid_math_bits_deBruijn32tab), ("math/bits.deBruijn64tab", Rows.laid_math_bits_deBruijn64tab), ("internal/strconv.uint64pow10", Rows.laid_internal_strconv_uint64pow10), ("unicode/utf8.acceptRanges", Rows.laid_unicode_utf8_acceptRanges), ("strconv.ErrRange", Rows.laid_strconv_ErrRange), ("strconv.ErrSyntax", Rows.laid_strconv_ErrSyntax), ("unicode/utf8.first", Rows.laid_unicode_utf8_first)] W) (hsz : 9 ≤ W.heap.size) (hmx : ∃ m, W.cell? ⟨1, 0, none⟩ = some (.int .i64 m)) : Env W := by
  rw [MakeChecks.laidMetH_plain _ _ _ (by kernel_rfl)] at h
  have hp := h.tail.tail.tail
  rw [pow_is] at hp
  obtain ⟨a0, s0, hv0, -, -, -⟩ := laid_sentinel h.tail.tail.tail.tail.tail (by kernel_rfl : Tryz.prog.globalNamed "strconv.ErrRange" = some 4) (by kernel_rfl : (Tryz.prog.globals[4]?).map (·.type) = some 68) Tryz.underlying68 row155 Tryz.underlying150 Tryz.underlying152 rfl rfl Tryz.underlying9 (by kernel_rfl) (by kernel_rfl)
  obtain ⟨a1, s1, hv1, -, -, -⟩ := laid_sentinel h.tail.tail.tail.tail.tail.tail (by kernel_rfl : Tryz.prog.globalNamed "strconv.ErrSyntax" = some 3) (by kernel_rfl : (Tryz.prog.globals[3]?).map (·.type) = some 68) Tryz.underlying68 row155 Tryz.underlying150 Tryz.underlying152 rfl rfl Tryz.underlying9 (by kernel_rfl) (by kernel_rfl)
  exact ⟨hsz, tab_of_laid h, Lib.tabIs_of_head (g := 2) (by kernel_rfl) (by kernel_rfl : (Tryz.prog.globals[2]?).map (·.type) = some 133) Tryz.underlying133 Tryz.underlying115 (by kernel_rfl) (by kernel_rfl) hp, ⟨_, _, hv1⟩, ⟨_, _, hv0⟩, hmx⟩

theorem own : ownKnob Tryz.prog.godebug = none := by kernel_rfl
theorem laidOut : laidOutB Tryz.prog = true := by kernel_rfl
end Go.Proofs.YtfnloomcianbiaaGreatDoor
