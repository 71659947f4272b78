/- TaskCuts answers true for every input, and leaves its arguments as they were. The listed variables are tied to the text of the program. -/
import Derived.Test.YtnkfdpnommjlcaaGreatDoorAlive
import Derived.Test.YtnkfdpnommjlcaaGreatDoorLaid
import Derived.Deep.Slices
import Derived.WalkKit
import Derived.ProofKit
import Derived.OpenShut
import Derived.Deep.Fields
import Derived.Deep.Grids
import Derived.Test.YtnkfdpnommjlcaaGreatDoorCutW
import Derived.ChangeOld
import Derived.Below
namespace Go.Proofs.YtnkfdpnommjlcaaGreatDoor
open Go.RowKit Go.ChangeShapes Go.WideShapes Go.ChangeAt Go.Deep

theorem five {α : Type} {l : List α} (h : l.length = 5) : ∃ a b c d e, l = [a, b, c, d, e] := by
  match l, h with
  | [a, b, c, d, e], _ => exact ⟨a, b, c, d, e, rfl⟩
theorem max_is : maxLen = 9223372036854775807 := by decide
theorem cell_spot {W : World} {x : Addr} {k n : Nat} {cs : List Value} (h : W.cells? 0 (x.add k) n = some cs) (hk : k = 0) (hn : 0 < n) : ∃ b off, x = ⟨b, off, none⟩ := by
  obtain ⟨_, hl, hc⟩ := World.cells?_some h
  have h0 := hc 0 hn
  rw [List.getElem?_eq_getElem (by omega)] at h0
  obtain ⟨b, off, sp⟩ := x
  subst hk
  have : sp = none := by simpa [Addr.add] using World.cell?_spot h0
  subst this
  exact ⟨b, off, rfl⟩
theorem insV_of : ∀ (c : List (Int × Int)) (i : Nat) (v : Value), (insV c)[i]? = some v → ∃ x, c[i / 2]? = some x ∧ v = (if i % 2 = 0 then .int .i64 x.1 else .int .i64 x.2)
  | [], i, v, h => by simp [insV] at h
  | a :: r, i, v, h => by
    have e : insV (a :: r) = [.int .i64 a.1, .int .i64 a.2] ++ insV r := by simp [insV]
    rw [e] at h
    match i, h with
    | 0, h => exact ⟨a, rfl, by simpa using h.symm⟩
    | 1, h => exact ⟨a, rfl, by simpa using h.symm⟩
    | i + 2, h =>
      have h' : (insV r)[i]? = some v := by simpa using h
      obtain ⟨x, h1, h2⟩ := insV_of r i v h'
      refine ⟨x, ?_, ?_⟩
      · rw [show (i + 2) / 2 = i / 2 + 1 by omega]; exact h1
      · rw [show (i + 2) % 2 = i % 2 by omega]; exact h2

theorem arg_code {H : Type} {enc : TypeId × Value → H} {W : World} {fuel : Nat} {a : Option Addr} {len cap : Nat} {x : DataW H × List MemPlace} (h : DataW.trod enc Tryz.prog W 0 (fun _ => true) true fuel 56 [.slice a len cap] = some x) :
    ∃ c : List (Int × Int), c.length = len ∧ len ≤ 9223372036854775807 ∧ (∀ x ∈ c, In64 [x.2]) ∧ (a = none → len = 0 ∧ cap = 0) ∧ Reads W a (insV c) := by
  have c3 : Tryz.prog.cellsOf 3 = 1 := by kernel_rfl
  have c43 : Tryz.prog.cellsOf 55 = 2 := by kernel_rfl
  rcases open_slice Tryz.underlying56 h with ⟨hcs, _⟩ | ⟨x, l, c, m, n, D, Pl, hcs, _, hl, hm, hmm, _, hx⟩
  · simp at hcs
    obtain ⟨rfl, rfl, rfl⟩ := hcs
    exact ⟨[], rfl, by omega, (fun x hx => by cases hx), fun _ => ⟨rfl, rfl⟩, .inl rfl⟩
  · simp at hcs
    obtain ⟨rfl, rfl, rfl⟩ := hcs
    simp only [if_true] at hmm
    subst hmm
    rw [max_is] at hm
    rw [c43] at hx
    have key : ∀ i, i < len → ∃ z : Int × Int, In64 [z.2] ∧ W.cells? 0 (x.add (i * 2)) 2 = some [.int .i64 z.1, .int .i64 z.2] := fun i hi => by
      obtain ⟨cs', hc, ht⟩ := hx i (by omega)
      obtain ⟨y0, y1, k, _, hlen, e0, e1⟩ := trod_struct2 Tryz.underlying55 ht
      simp only [c3, c43] at e0 e1 hlen
      obtain ⟨p, i0, _, w0⟩ := DataW.trod_int Tryz.underlying3 e0
      obtain ⟨q, i1, _, w1⟩ := DataW.trod_int Tryz.underlying3 e1
      refine ⟨(p, q), fun z hz => ?_, ?_⟩
      · have : z = q := by simpa using hz
        rw [this]; exact bounds_i64 w1
      · match cs', hlen with
        | [u, v], _ =>
          simp at i0 i1
          rw [hc, i0, i1]
    obtain ⟨F, hF⟩ := choose_lt (α := Int × Int) (n := len) (p := fun i z => In64 [z.2] ∧ W.cells? 0 (x.add (i * 2)) 2 = some [.int .i64 z.1, .int .i64 z.2]) key
    refine ⟨(List.range len).map F, by simp, by omega, fun z hz => ?_, fun h => (by cases h), ?_⟩
    · obtain ⟨i, hi, rfl⟩ := List.mem_map.1 hz
      exact (hF i (by simpa using hi)).1
    · by_cases h0 : len = 0
      · left
        subst h0
        simp [insV]
      · obtain ⟨b, off, rfl⟩ := cell_spot (hF 0 (by omega)).2 (by omega) (by omega)
        refine .inr ⟨b, off, rfl, fun j u hu => ?_⟩
        obtain ⟨z, hz, rfl⟩ := insV_of _ _ _ hu
        rw [List.getElem?_map] at hz
        obtain ⟨i, hi, rfl⟩ := Option.map_eq_some_iff.1 hz
        have hij : i = j / 2 ∧ j / 2 < len := by
          have := List.getElem?_eq_some_iff.1 hi
          obtain ⟨h1, h2⟩ := this
          simp at h1 h2
          omega
        obtain ⟨rfl, hlt⟩ := hij
        have hcl := (World.cells?_some (hF (j / 2) hlt).2).2.2
        by_cases hp : j % 2 = 0
        · rw [if_pos hp]
          have := hcl 0 (by omega)
          rw [add_none, add_none] at this
          rw [show off + j = off + j / 2 * 2 + 0 by omega, this]; rfl
        · rw [if_neg hp]
          have := hcl 1 (by omega)
          rw [add_none, add_none] at this
          rw [show off + j = off + j / 2 * 2 + 1 by omega, this]; rfl


theorem arg_ints {H : Type} {enc : TypeId × Value → H} {W : World} {t e : TypeId} (ht : Tryz.prog.underlying t = some (.slice e)) (he : Tryz.prog.underlying e = some (.int .i64)) (hc : Tryz.prog.cellsOf e = 1)
    {a : Option Addr} {len cap : Nat} {d : DataW H} {p : List MemPlace} (h : DataW.Trod enc Tryz.prog W 0 (fun _ => true) true t (.slice a len cap) d p) :
    ∃ ns : List Int, ns.length = len ∧ In64 ns ∧ len ≤ cap ∧ (cap ≤ maxLen ∧ (a = none → len = 0 ∧ cap = 0)) ∧ Reads W a (iV ns) := by
  obtain ⟨fuel, hf⟩ := h
  rcases open_ints ht he hc hf with ⟨hcs, _⟩ | ⟨x, l, c, zs, hcs, _, hl, hm, hz, _, hcell, hwz⟩
  · simp [Value.cells] at hcs
    obtain ⟨rfl, rfl, rfl⟩ := hcs
    exact ⟨[], rfl, (fun x hx => by cases hx), Nat.le_refl _, ⟨by unfold maxLen; omega, fun _ => ⟨rfl, rfl⟩⟩, .inl rfl⟩
  · simp [Value.cells] at hcs
    obtain ⟨rfl, rfl, rfl⟩ := hcs
    have hzl : zs.length = cap := by simpa using hz
    refine ⟨zs.take len, by simp; omega, fun n hn => bounds_i64 (hwz n (List.mem_of_mem_take hn)), hl, ⟨hm, fun h => by cases h⟩, ?_⟩
    by_cases h0 : len = 0
    · exact .inl (by simp [iV, h0])
    · obtain ⟨b, off, rfl, hcb⟩ := ints_at hcell (by omega)
      refine .inr ⟨b, off, rfl, fun j u hu => ?_⟩
      have hj : j < len := by
        rcases Nat.lt_or_ge j len with h | h
        · exact h
        · rw [List.getElem?_eq_none (by simp [iV]; omega)] at hu; cases hu
      rw [hcb j (by omega)]
      have hjz : j < zs.length := by omega
      simp [iV, hj, hjz] at hu
      subst hu
      simp [List.getD, hjz]

theorem arg_funs {H : Type} {enc : TypeId × Value → H} {W : World} {fuel : Nat} {a : Option Addr} {len cap : Nat} {x : DataW H × List MemPlace} (h : DataW.trod enc Tryz.prog W 0 (fun _ => true) true fuel 22 [.slice a len cap] = some x) :
    ∃ (fs : List Fun) (cs : List Value), fs.length = len ∧ cs.length = len ∧ len ≤ cap ∧ len ≤ 9223372036854775807 ∧ FReads W a (frs fs cs) ∧
      (∀ i (h : i < cs.length) (h' : i < fs.length), ∃ ca cc, cs[i] = .slice ca fs[i].code.length cc ∧ Reads W ca (insV fs[i].code)) ∧
      ∀ f ∈ fs, f.code.length ≤ 9223372036854775807 ∧ f.name.size ≤ 9223372036854775807 := by
  have c3 : Tryz.prog.cellsOf 3 = 1 := by kernel_rfl
  have c9 : Tryz.prog.cellsOf 9 = 1 := by kernel_rfl
  have c34 : Tryz.prog.cellsOf 56 = 1 := by kernel_rfl
  have c36 : Tryz.prog.cellsOf 58 = 4 := by kernel_rfl
  rcases open_slice Tryz.underlying22 h with ⟨hcs, _⟩ | ⟨x, l, c, m, n, D, Pl, hcs, _, hl, hm, hmm, _, hx⟩
  · simp at hcs
    obtain ⟨rfl, rfl, rfl⟩ := hcs
    exact ⟨[], [], rfl, rfl, Nat.le_refl _, by omega, .inl rfl, (fun i h => by simp at h), fun f hf => by cases hf⟩
  · simp at hcs
    obtain ⟨rfl, rfl, rfl⟩ := hcs
    simp only [if_true] at hmm
    subst hmm
    rw [max_is] at hm
    rw [c36] at hx
    have inh : Inhabited (Fun × Value) := ⟨⟨⟨⟨#[]⟩, 0, 0, []⟩, .bool false⟩⟩
    have key : ∀ i, i < len → ∃ z : Fun × Value, W.cells? 0 (x.add (i * 4)) 4 = some [.string z.1.name, .int .i64 z.1.args, .int .i64 z.1.locals, z.2] ∧ (∃ ca cc, z.2 = .slice ca z.1.code.length cc ∧ Reads W ca (insV z.1.code)) ∧ z.1.code.length ≤ 9223372036854775807 ∧ z.1.name.size ≤ 9223372036854775807 := fun i hi => by
      obtain ⟨cs', hc, ht⟩ := hx i (by omega)
      obtain ⟨y0, y1, y2, y3, k, _, hlen, e0, e1, e2, e3⟩ := trod_struct4 Tryz.underlying58 ht
      simp only [c3, c9, c34, c36] at e0 e1 e2 e3 hlen
      obtain ⟨s, i0, _, hs⟩ := DataW.trod_string Tryz.underlying9 e0
      obtain ⟨p, i1, _, w1⟩ := DataW.trod_int Tryz.underlying3 e1
      obtain ⟨q, i2, _, w2⟩ := DataW.trod_int Tryz.underlying3 e2
      rw [max_is] at hs
      match cs', hlen with
      | [u0, u1, u2, u3], _ =>
        simp at i0 i1 i2
        have e3' : DataW.trod enc Tryz.prog W 0 (fun _ => true) true k 56 [u3] = some y3 := by simpa using e3
        have hsl : ∃ ca cn cc, u3 = .slice ca cn cc := by
          rcases open_slice Tryz.underlying56 e3' with ⟨hcs, _⟩ | ⟨_, _, _, _, _, _, _, hcs, _⟩
          · exact ⟨none, 0, 0, by simpa using hcs⟩
          · exact ⟨_, _, _, by simpa using hcs⟩
        obtain ⟨ca, cn, cc, rfl⟩ := hsl
        obtain ⟨code, g1, g2, g3, g3b, g4⟩ := arg_code e3'
        refine ⟨(⟨s, p, q, code⟩, .slice ca cn cc), ?_, ⟨ca, cc, by simp only [g1], g4⟩, by simp only; omega, hs⟩
        rw [hc, i0, i1, i2]
    obtain ⟨F, hF⟩ := choose_lt (α := Fun × Value) (n := len) (p := fun i z => W.cells? 0 (x.add (i * 4)) 4 = some [.string z.1.name, .int .i64 z.1.args, .int .i64 z.1.locals, z.2] ∧ (∃ ca cc, z.2 = .slice ca z.1.code.length cc ∧ Reads W ca (insV z.1.code)) ∧ z.1.code.length ≤ 9223372036854775807 ∧ z.1.name.size ≤ 9223372036854775807) key
    refine ⟨(List.range len).map fun i => (F i).1, (List.range len).map fun i => (F i).2, by simp, by simp, hl, by omega, ?_, fun i hi hi' => ?_, fun f hf => ?_⟩
    · by_cases h0 : len = 0
      · subst h0
        exact .inl (by simp [frs])
      · obtain ⟨b, off, rfl⟩ := cell_spot (hF 0 (by omega)).1 (by omega) (by omega)
        refine .inr ⟨b, off, rfl, ?_, fun j hj i v hv => ?_⟩
        · have := (World.cells?_some (hF 0 (by omega)).1).2.2 0 (by omega)
          rw [add_none, add_none] at this
          exact cell_some_lt this
        · have hjl : j < len := by simpa [frs] using hj
          have e8 : (frs ((List.range len).map fun i => (F i).1) ((List.range len).map fun i => (F i).2))[j]! = Fun.row (F j).1 (F j).2 := by
            rw [getElem!_pos _ j hj]
            simp [frs]
          rw [e8] at hv
          have hcl := (World.cells?_some (hF j hjl).1).2.2
          have hi4 : i < 4 := by
            rcases Nat.lt_or_ge i 4 with h | h
            · exact h
            · rw [List.getElem?_eq_none (by simpa [FR.enc] using h)] at hv; cases hv
          have := hcl i hi4
          rw [add_none, add_none] at this
          rw [this]
          exact hv
    · have hil : i < len := by simpa using hi
      obtain ⟨ca, cc, g1, g2⟩ := (hF i hil).2.1
      exact ⟨ca, cc, by simpa using g1, by simpa using g2⟩
    · obtain ⟨i, hi, rfl⟩ := List.mem_map.1 hf
      exact (hF i (by simpa using hi)).2.2

theorem arg_job {H : Type} {enc : TypeId × Value → H} {W : World} {cells : Array Value} {d : DataW H} {p : List MemPlace} (h : DataW.Trod enc Tryz.prog W 0 (fun _ => true) true 25 (.agg cells) d p) :
    ∃ (j : JV) (cs : List Value) (fs : List Fun) (args : List Int), cells = j.cells ∧ JobR W j cs fs args ∧ j.nf ≤ 9223372036854775807 ∧ j.na ≤ 9223372036854775807 ∧ ∀ f ∈ fs, f.code.length ≤ 9223372036854775807 ∧ f.name.size ≤ 9223372036854775807 := by
  obtain ⟨fuel, hf⟩ := h
  have c3 : Tryz.prog.cellsOf 3 = 1 := by kernel_rfl
  have c22 : Tryz.prog.cellsOf 22 = 1 := by kernel_rfl
  have c23 : Tryz.prog.cellsOf 23 = 1 := by kernel_rfl
  have c25 : Tryz.prog.cellsOf 25 = 5 := by kernel_rfl
  obtain ⟨xs, n, _, _, hlen, hxl, hx⟩ := DataW.trod_struct Tryz.underlying25 hf
  have hx5 : xs.length = 5 := hxl
  obtain ⟨y0, y1, y2, y3, y4, rfl⟩ : ∃ y0 y1 y2 y3 y4, xs = [y0, y1, y2, y3, y4] := five hx5
  have e0 : DataW.trod enc Tryz.prog W 0 (fun _ => true) true n 22 (List.take (Tryz.prog.cellsOf 22) (List.drop 0 (Value.agg cells).cells.toList)) = some y0 := hx 0 _ rfl
  have e1 : DataW.trod enc Tryz.prog W 0 (fun _ => true) true n 3 (List.take (Tryz.prog.cellsOf 3) (List.drop 1 (Value.agg cells).cells.toList)) = some y1 := hx 1 _ rfl
  have e2 : DataW.trod enc Tryz.prog W 0 (fun _ => true) true n 23 (List.take (Tryz.prog.cellsOf 23) (List.drop 2 (Value.agg cells).cells.toList)) = some y2 := hx 2 _ rfl
  have e3 : DataW.trod enc Tryz.prog W 0 (fun _ => true) true n 3 (List.take (Tryz.prog.cellsOf 3) (List.drop 3 (Value.agg cells).cells.toList)) = some y3 := hx 3 _ rfl
  have e4 : DataW.trod enc Tryz.prog W 0 (fun _ => true) true n 3 (List.take (Tryz.prog.cellsOf 3) (List.drop 4 (Value.agg cells).cells.toList)) = some y4 := hx 4 _ rfl
  rw [c22] at e0
  rw [c3] at e1 e3 e4
  rw [c23] at e2
  rw [c25] at hlen
  obtain ⟨l⟩ := cells
  have hl : l.length = 5 := by simpa [Value.cells] using hlen
  obtain ⟨u0, u1, u2, u3, u4, rfl⟩ : ∃ u0 u1 u2 u3 u4, l = [u0, u1, u2, u3, u4] := five hl
  simp only [Value.cells, List.drop_zero, List.drop_succ_cons, List.take_succ_cons, List.take_zero] at e0 e1 e2 e3 e4
  obtain ⟨mn, i1, _, w1⟩ := DataW.trod_int Tryz.underlying3 e1
  obtain ⟨fu, i3, _, w3⟩ := DataW.trod_int Tryz.underlying3 e3
  obtain ⟨ta, i4, _, w4⟩ := DataW.trod_int Tryz.underlying3 e4
  have hs0 : ∃ fa nf fc, u0 = .slice fa nf fc := by
    rcases open_slice Tryz.underlying22 e0 with ⟨hcs, _⟩ | ⟨_, _, _, _, _, _, _, hcs, _⟩
    · exact ⟨none, 0, 0, by simpa using hcs⟩
    · exact ⟨_, _, _, by simpa using hcs⟩
  have hs2 : ∃ aa na ac, u2 = .slice aa na ac := by
    rcases open_slice Tryz.underlying23 e2 with ⟨hcs, _⟩ | ⟨_, _, _, _, _, _, _, hcs, _⟩
    · exact ⟨none, 0, 0, by simpa using hcs⟩
    · exact ⟨_, _, _, by simpa using hcs⟩
  obtain ⟨fa, nf, fc, rfl⟩ := hs0
  obtain ⟨aa, na, ac, rfl⟩ := hs2
  obtain ⟨fs, cs, f1, f2, f3, f4, f5, f6, f7⟩ := arg_funs e0
  obtain ⟨args, a1, a2, a3, a4, a5⟩ := arg_ints (enc := enc) (W := W) Tryz.underlying23 Tryz.underlying3 (by kernel_rfl) (d := y2.1) (p := y2.2) ⟨n, by simpa [Value.cells] using e2⟩
  have a4' := a4.1
  rw [max_is] at a4'
  simp only [List.cons.injEq, and_true] at i1 i3 i4
  exact ⟨⟨fa, nf, fc, mn, aa, na, ac, fu, ta⟩, cs, fs, args, by rw [i1, i3, i4]; rfl, ⟨f1.symm, f3, by omega, f5, f6, a1.symm, a5⟩, f4, by show na ≤ _; omega, f7⟩
end Go.Proofs.YtnkfdpnommjlcaaGreatDoor
namespace Go.Proofs.YtnkfdpnommjlcaaGreatDoor
namespace taskCuts
open Go.ChangeShapes Go.WideShapes Go.ChangeAt Go.RowKit Go.Deep

theorem laidOut : laidOutB Tryz.prog = true := by kernel_rfl
theorem rowLaid : Rows.taskCutsRow.laid = laids := rfl

set_option maxRecDepth 100000 in
theorem lifted (os : Os) (started : os.Started) (H : Type) (enc : TypeId × Value → H) :
    ReturnsInHanded {} Tryz.checked os 3 .any (fun w args => (Rows.taskCutsSpec.pre enc Tryz.prog Tryz.f3 Rows.taskCutsRow.domain false w args ∧ laidMetH Tryz.prog Rows.taskCutsRow.laid w) ∧ sizedMet enc Tryz.prog Tryz.f3 (OpenSpec.ofChange Rows.taskCutsSpec) false w args) (Rows.taskCutsSpec.post enc Tryz.prog Tryz.f3 false true false false) := by
  refine returnsInHanded_of_change_and (C := Tryz.checked) (X := fun w _ => laidMetH Tryz.prog Rows.taskCutsRow.laid w) (fun _ _ _ hh h => h.of_heap hh) own started (by kernel_rfl) Tryz.func3
    (ChangeSpec.witness_shaped (enc := enc) (C := Tryz.checked) (os := os) (X := fun w _ => laidMetH Tryz.prog Rows.taskCutsRow.laid w) false (World.doorLaid Tryz.prog 400 os) #[.agg #[.slice none 0 0, .int .i64 0, .slice none 0 0, .int .i64 0, .int .i64 0], .int .i64 0, .slice none 0 0, .slice none 0 0] 8 rfl
      (World.shaped_of_RefB (by kernel_rfl) (by kernel_rfl)) (by kernel_rfl) (by kernel_rfl) (by kernel_rfl) (door_met os _)) ?_
  intro W base args ds gs before hval0 hW hcnd _ hL _
  have hval : ∀ (j : Nat) t v, Tryz.f3.params[j]? = some t → args[j]? = some v → Value.okWide Tryz.prog W .any base t v := hval0
  have hW' := hW
  obtain ⟨p, q, hA0, hV, rfl, hfz, hnd⟩ := hW
  have hA : DataW.TrodAll enc Tryz.prog W 0 (fun _ => true) true Tryz.f3.params.toList args.toList ds p := hA0
  rw [Tryz.params3] at hA hval
  obtain ⟨v0, vs0, d0, ds0, p0, q0, hargs, rfl, rfl, h0, r0⟩ := trodAll_cons hA
  obtain ⟨v1, vs1, d1, ds1, p1, q1, rfl, rfl, rfl, h1, r1⟩ := trodAll_cons r0
  obtain ⟨v2, vs2, d2, ds2, p2, q2, rfl, rfl, rfl, h2, r2⟩ := trodAll_cons r1
  obtain ⟨v3, vs3, d3, ds3, p3, q3, rfl, rfl, rfl, h3, r3⟩ := trodAll_cons r2
  obtain ⟨rfl, rfl, rfl⟩ := trodAll_nil r3
  obtain rfl : args = #[v0, v1, v2, v3] := by cases args; simp_all
  obtain ⟨rfl, rfl⟩ := trodVars_none hV
  obtain ⟨cs0, rfl, _⟩ := okWide_struct Tryz.underlying25 (hval 0 25 v0 rfl rfl)
  have lt0 : ∀ x ∈ p0, x.block < W.heap.size := by obtain ⟨m, hm⟩ := h0; exact DataW.trod_lt m _ _ _ hm
  have lt2 : ∀ x ∈ p2, x.block < W.heap.size := by obtain ⟨m, hm⟩ := h2; exact DataW.trod_lt m _ _ _ hm
  have lt3 : ∀ x ∈ p3, x.block < W.heap.size := by obtain ⟨m, hm⟩ := h3; exact DataW.trod_lt m _ _ _ hm
  obtain ⟨a2, l2, c2, rfl⟩ := okWide_slice Tryz.underlying23 (hval 2 23 v2 rfl rfl)
  obtain ⟨a3, l3, c3, rfl⟩ := okWide_slice Tryz.underlying23 (hval 3 23 v3 rfl rfl)
  obtain ⟨xs, b1, b2, b3, b4, b5⟩ := arg_ints (enc := enc) (W := W) Tryz.underlying23 Tryz.underlying3 (by kernel_rfl) h2
  obtain ⟨cu, e1, e2, e3, e4, e5⟩ := arg_ints (enc := enc) (W := W) Tryz.underlying23 Tryz.underlying3 (by kernel_rfl) h3
  have b4' := b4.1
  have e4' := e4.1
  rw [max_is] at b4' e4'
  obtain ⟨x1, rfl, rfl, rfl, wx1⟩ := open_int Tryz.underlying3 (hval 1 3 v1 rfl rfl) h1
  obtain ⟨⟨fa, nf, fc, mn, aa, na, ac, fu, ta⟩, cs, fs, ags, rfl, hJ, hnf, hna, hs⟩ := arg_job h0
  clear hA0 hval0
  refine (cuts_any fa nf fc mn aa na ac fu ta cs fs ags x1 a2 l2 c2 xs a3 l3 c3 cu W hJ (env_of_laid (rowLaid ▸ hL)) hnf hna hs b1 b5 e1 e5 (by omega) (by omega)).mono fun e W' ⟨he, bel⟩ => ?_
  subst he
  exact ⟨_, rfl, _, _, _, [], _, [], hW', trodAll_mk1 (shut_bool Tryz.underlying4 _), (trodAll_cons_mk (Below.trod laidOut (by kernel_rfl) (of_decide_eq_true (by kernel_rfl)) h0 bel lt0) (trodAll_cons_mk (shut_int Tryz.underlying3 wx1) (trodAll_cons_mk (Below.trod laidOut (by kernel_rfl) (of_decide_eq_true (by kernel_rfl)) h2 bel lt2) (trodAll_cons_mk (Below.trod laidOut (by kernel_rfl) (of_decide_eq_true (by kernel_rfl)) h3 bel lt3) trodAll_mk0)))), rfl, bel.frame _, fun h => by cases h⟩

theorem over : Rows.taskCutsRow.holds Tryz.pinned (OpenSpec.ofChange Rows.taskCutsSpec) :=
  OpenClaim.holds_of_wide 3 Tryz.f3 rfl rfl rfl rfl rfl rfl rfl ⟨rfl, rfl, rfl, rfl, rfl⟩ rfl rfl rfl rfl rfl (by kernel_rfl) Tryz.func3 (by kernel_rfl)
    (of_decide_eq_true (by kernel_rfl)) (by unfold Func.isWrapper; first | (rw [if_pos (by decide +kernel)]; kernel_rfl) | (rw [if_neg (by decide +kernel)]; exact ⟨rfl, rfl⟩))
    (fun os started H enc _ => lifted os started H enc)
end taskCuts

theorem taskCuts_card : Rows.TaskCutsCardSaid :=
  Claim7.holds_tied_plain_at .later [] [.data, .handle] true (true, "74f193195eb411c4ad37b5770017ac651e46341206dc1e1e84423c15cab38a7b") true taskCuts.over (fun _ h => by cases h) (by kernel_rfl) (fun _ h => by cases h) taskCuts_row_tie rfl ⟨rfl, rfl⟩ (by kernel_rfl) rfl
    (fun f fn hf hfn => by
      obtain rfl : f = 3 := Option.some.inj ((show Tryz.prog.funcNamed "gleaner/gleanerlaw6.TaskCuts" = some 3 by kernel_rfl).symm.trans hf) |>.symm
      obtain rfl : fn = Tryz.f3 := (Option.some.inj (Tryz.func3.symm.trans hfn)).symm
      exact ⟨by kernel_rfl, fun j t ht => by
        rw [Tryz.params3] at ht
        have hm : t ∈ [25, 3, 23, 23] := by simpa using Array.mem_of_getElem? ht
        have hall : ([25, 3, 23, 23].all fun u => !Tryz.prog.wantsStandIn u) = true := by kernel_rfl
        exact (show Tryz.prog.wantsStandIn t = false by simpa using List.all_eq_true.1 hall t hm)⟩)
    (by kernel_rfl)
#print axioms taskCuts_card
end Go.Proofs.YtnkfdpnommjlcaaGreatDoor
