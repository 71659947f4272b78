/- Arguments that are views and notes. -/
import Derived.Test.YtgkpioleipefmaaNoM
import Derived.WalkKit
import Derived.ProofKit
import Derived.OpenShut
import Derived.ChangeOld
import Derived.Below
import Derived.Deep.Fields
import Derived.Deep.Grids
namespace Go.Proofs.Ytgkpioleipefmaa
open Go.ChangeShapes Go.WideShapes Go.ChangeAt Go.RowKit Go.Deep

theorem max_is : maxLen = 9223372036854775807 := by decide
theorem cell_spot {W : World} {x : Addr} {k n : Nat} {cs : List Value} (h : W.cells? 0 (x.add k) n = some cs) (hk : k = 0) (hn : 0 < n) : ∃ b off, x = ⟨b, off, none⟩ := by
  obtain ⟨_, hl, hc⟩ := World.cells?_some h
  have h0 := hc 0 hn
  rw [List.getElem?_eq_getElem (by omega)] at h0
  obtain ⟨b, off, sp⟩ := x
  subst hk
  have : sp = none := by simpa [Addr.add] using World.cell?_spot h0
  subst this
  exact ⟨b, off, rfl⟩
theorem mV_of : ∀ (c : List (Int × Int)) (i : Nat) (v : Value), (mV c)[i]? = some v → ∃ x, c[i / 2]? = some x ∧ v = (if i % 2 = 0 then .int .i64 x.1 else .int .i64 x.2)
  | [], i, v, h => by simp [mV] at h
  | a :: r, i, v, h => by
    have e : mV (a :: r) = [.int .i64 a.1, .int .i64 a.2] ++ mV r := by simp [mV]
    rw [e] at h
    match i, h with
    | 0, h => exact ⟨a, rfl, by simpa using h.symm⟩
    | 1, h => exact ⟨a, rfl, by simpa using h.symm⟩
    | i + 2, h =>
      have h' : (mV r)[i]? = some v := by simpa using h
      obtain ⟨x, h1, h2⟩ := mV_of r i v h'
      refine ⟨x, ?_, ?_⟩
      · rw [show (i + 2) / 2 = i / 2 + 1 by omega]; exact h1
      · rw [show (i + 2) % 2 = i % 2 by omega]; exact h2

theorem arg_members {H : Type} {enc : TypeId × Value → H} {W : World} {fuel : Nat} {a : Option Addr} {len cap : Nat} {x : DataW H × List MemPlace} (h : DataW.trod enc Try.prog W 0 (fun _ => true) true fuel 27 [.slice a len cap] = some x) :
    ∃ c : List (Int × Int), c.length = len ∧ len ≤ 9223372036854775807 ∧ (∀ x ∈ c, In1 x.1 ∧ In1 x.2) ∧ (len ≤ cap ∧ cap ≤ maxLen) ∧ (a = none → len = 0 ∧ cap = 0) ∧ Reads W a (mV c) := by
  have c3 : Try.prog.cellsOf 3 = 1 := by kernel_rfl
  have c43 : Try.prog.cellsOf 50 = 2 := by kernel_rfl
  rcases open_slice Try.underlying27 h with ⟨hcs, _⟩ | ⟨x, l, c, m, n, D, Pl, hcs, _, hl, hm, hmm, _, hx⟩
  · simp at hcs
    obtain ⟨rfl, rfl, rfl⟩ := hcs
    exact ⟨[], rfl, by omega, (fun x hx => by cases hx), ⟨Nat.le_refl _, Nat.zero_le _⟩, fun _ => ⟨rfl, rfl⟩, .inl rfl⟩
  · simp at hcs
    obtain ⟨rfl, rfl, rfl⟩ := hcs
    simp only [if_true] at hmm
    subst hmm
    rw [max_is] at hm
    rw [c43] at hx
    have key : ∀ i, i < len → ∃ z : Int × Int, (In1 z.1 ∧ In1 z.2) ∧ W.cells? 0 (x.add (i * 2)) 2 = some [.int .i64 z.1, .int .i64 z.2] := fun i hi => by
      obtain ⟨cs', hc, ht⟩ := hx i (by omega)
      obtain ⟨y0, y1, k, _, hlen, e0, e1⟩ := trod_struct2 Try.underlying50 ht
      simp only [c3, c43] at e0 e1 hlen
      obtain ⟨p, i0, _, w0⟩ := DataW.trod_int Try.underlying3 e0
      obtain ⟨q, i1, _, w1⟩ := DataW.trod_int Try.underlying3 e1
      refine ⟨(p, q), ⟨bounds_i64 w0, bounds_i64 w1⟩, ?_⟩
      · match cs', hlen with
        | [u, v], _ =>
          simp at i0 i1
          rw [hc, i0, i1]
    obtain ⟨F, hF⟩ := choose_lt (α := Int × Int) (n := len) (p := fun i z => (In1 z.1 ∧ In1 z.2) ∧ W.cells? 0 (x.add (i * 2)) 2 = some [.int .i64 z.1, .int .i64 z.2]) key
    refine ⟨(List.range len).map F, by simp, by omega, fun z hz => ?_, ⟨by omega, by rw [max_is]; omega⟩, fun h => (by cases h), ?_⟩
    · obtain ⟨i, hi, rfl⟩ := List.mem_map.1 hz
      exact (hF i (by simpa using hi)).1
    · by_cases h0 : len = 0
      · left
        subst h0
        simp [mV]
      · obtain ⟨b, off, rfl⟩ := cell_spot (hF 0 (by omega)).2 (by omega) (by omega)
        refine .inr ⟨b, off, rfl, fun j u hu => ?_⟩
        obtain ⟨z, hz, rfl⟩ := mV_of _ _ _ hu
        rw [List.getElem?_map] at hz
        obtain ⟨i, hi, rfl⟩ := Option.map_eq_some_iff.1 hz
        have hij : i = j / 2 ∧ j / 2 < len := by
          have := List.getElem?_eq_some_iff.1 hi
          obtain ⟨h1, h2⟩ := this
          simp at h1 h2
          omega
        obtain ⟨rfl, hlt⟩ := hij
        have hcl := (World.cells?_some (hF (j / 2) hlt).2).2.2
        by_cases hp : j % 2 = 0
        · rw [if_pos hp]
          have := hcl 0 (by omega)
          rw [add_none, add_none] at this
          rw [show off + j = off + j / 2 * 2 + 0 by omega, this]; rfl
        · rw [if_neg hp]
          have := hcl 1 (by omega)
          rw [add_none, add_none] at this
          rw [show off + j = off + j / 2 * 2 + 1 by omega, this]; rfl



section
variable {H : Type} {enc : TypeId × Value → H} {P : Program} {w : World} {base : Nat} {spare : Nat → Bool} {held : Bool}
theorem trod_struct9 {t : TypeId} {f0 f1 f2 f3 f4 f5 f6 f7 f8 : Field} {fuel : Nat} {cs : List Value} {x : DataW H × List MemPlace} (ht : P.underlying t = some (.struct #[f0, f1, f2, f3, f4, f5, f6, f7, f8])) (h : DataW.trod enc P w base spare held fuel t cs = some x) :
    ∃ y0 y1 y2 y3 y4 y5 y6 y7 y8 n, cs.length = P.cellsOf t ∧ DataW.trod enc P w base spare held n f0.type ((cs.drop f0.offset).take (P.cellsOf f0.type)) = some y0 ∧ DataW.trod enc P w base spare held n f1.type ((cs.drop f1.offset).take (P.cellsOf f1.type)) = some y1 ∧ DataW.trod enc P w base spare held n f2.type ((cs.drop f2.offset).take (P.cellsOf f2.type)) = some y2 ∧ DataW.trod enc P w base spare held n f3.type ((cs.drop f3.offset).take (P.cellsOf f3.type)) = some y3 ∧ DataW.trod enc P w base spare held n f4.type ((cs.drop f4.offset).take (P.cellsOf f4.type)) = some y4 ∧ DataW.trod enc P w base spare held n f5.type ((cs.drop f5.offset).take (P.cellsOf f5.type)) = some y5 ∧ DataW.trod enc P w base spare held n f6.type ((cs.drop f6.offset).take (P.cellsOf f6.type)) = some y6 ∧ DataW.trod enc P w base spare held n f7.type ((cs.drop f7.offset).take (P.cellsOf f7.type)) = some y7 ∧ DataW.trod enc P w base spare held n f8.type ((cs.drop f8.offset).take (P.cellsOf f8.type)) = some y8 := by
  obtain ⟨xs, n, _, rfl, hl, hlen, hf⟩ := DataW.trod_struct ht h
  match xs, hlen with
  | [y0, y1, y2, y3, y4, y5, y6, y7, y8], _ => exact ⟨y0, y1, y2, y3, y4, y5, y6, y7, y8, n, hl, by simpa using hf 0 f0 rfl, by simpa using hf 1 f1 rfl, by simpa using hf 2 f2 rfl, by simpa using hf 3 f3 rfl, by simpa using hf 4 f4 rfl, by simpa using hf 5 f5 rfl, by simpa using hf 6 f6 rfl, by simpa using hf 7 f7 rfl, by simpa using hf 8 f8 rfl⟩
end

theorem arg_view {H : Type} {enc : TypeId × Value → H} {W : World} {fuel : Nat} {cs : List Value} {x : DataW H × List MemPlace} (hf : DataW.trod enc Try.prog W 0 (fun _ => true) true fuel 29 cs = some x) :
    ∃ (ep : Int) (mem : List (Int × Int)) (a : Option Addr) (l c : Nat), cs = [.int .i64 ep, .slice a l c] ∧ mem.length = l ∧ (l ≤ c ∧ c ≤ maxLen) ∧ (a = none → l = 0 ∧ c = 0) ∧ Reads W a (mV mem) ∧ In1 ep ∧ ∀ m ∈ mem, In1 m.1 ∧ In1 m.2 := by
  have c3 : Try.prog.cellsOf 3 = 1 := by kernel_rfl
  have c27 : Try.prog.cellsOf 27 = 1 := by kernel_rfl
  have c29 : Try.prog.cellsOf 29 = 2 := by kernel_rfl
  obtain ⟨y0, y1, n, _, hl, e0, e1⟩ := trod_struct2 Try.underlying29 hf
  simp only [c3, c27, c29] at e0 e1 hl
  obtain ⟨x0, i0, _, w0⟩ := DataW.trod_int Try.underlying3 e0
  match cs, hl with
  | [b0, b1], _ =>
    simp at i0
    simp only [List.drop_succ_cons, List.drop_zero, List.take_succ_cons, List.take_zero] at e1
    have hs : ∃ a l c, b1 = Value.slice a l c := by
      rcases open_slice Try.underlying27 e1 with ⟨hcs, _⟩ | ⟨x, l, c, m, n, D, Pl, hcs, _⟩
      · exact ⟨none, 0, 0, by simpa using hcs⟩
      · exact ⟨some x, l, c, by simpa using hcs⟩
    obtain ⟨a, l, c, rfl⟩ := hs
    obtain ⟨mem, h1, _, h3, h4, h5, h6⟩ := arg_members e1
    exact ⟨x0, mem, a, l, c, by rw [i0], h1, h4, h5, h6, bounds_i64 w0, h3⟩

/-- A note as it is handed in: whatever its size. -/
structure ArgN (W : World) (n : No) (s : ByteArray) (aa : Option Addr) (al ac : Nat) (ma : Option Addr) (ml mc : Nat) : Prop where
  hid : uN s.data.toList = n.id
  hsz : s.size ≤ maxLen
  hal : n.args.length = al
  hac : al ≤ ac ∧ ac ≤ maxLen
  han : aa = none → al = 0 ∧ ac = 0
  har : Reads W aa (iV n.args)
  hml : n.mem.length = ml
  hmc : ml ≤ mc ∧ mc ≤ maxLen
  hmn : ma = none → ml = 0 ∧ mc = 0
  hmr : Reads W ma (mV n.mem)
  inn : NIn n

theorem arg_note {H : Type} {enc : TypeId × Value → H} {W : World} {cs : Array Value} {d : DataW H} {p : List MemPlace} (h : DataW.Trod enc Try.prog W 0 (fun _ => true) true 31 (.agg cs) d p) :
    ∃ (n : No) (s : ByteArray) (aa : Option Addr) (al ac : Nat) (ma : Option Addr) (ml mc : Nat), Value.agg cs = Nv n s (.slice aa al ac) (.slice ma ml mc) ∧ ArgN W n s aa al ac ma ml mc := by
  obtain ⟨fuel, hf⟩ := h
  have c3 : Try.prog.cellsOf 3 = 1 := by kernel_rfl
  have c22 : Try.prog.cellsOf 22 = 1 := by kernel_rfl
  have c23 : Try.prog.cellsOf 23 = 1 := by kernel_rfl
  have c24 : Try.prog.cellsOf 24 = 1 := by kernel_rfl
  have c26 : Try.prog.cellsOf 26 = 2 := by kernel_rfl
  have c29 : Try.prog.cellsOf 29 = 2 := by kernel_rfl
  have c31 : Try.prog.cellsOf 31 = 11 := by kernel_rfl
  obtain ⟨y0, y1, y2, y3, y4, y5, y6, y7, y8, n, hl, e0, e1, e2, e3, e4, e5, e6, e7, e8⟩ := trod_struct9 Try.underlying31 hf
  simp only [c3, c22, c23, c26, c29, c31] at e0 e1 e2 e3 e4 e5 e6 e7 e8 hl
  obtain ⟨x0, i0, _, w0⟩ := DataW.trod_int Try.underlying3 e0
  obtain ⟨x1, i1, _, w1⟩ := DataW.trod_int Try.underlying3 e1
  obtain ⟨x2, i2, _, w2⟩ := DataW.trod_int Try.underlying3 e2
  obtain ⟨x3, i3, _, w3⟩ := DataW.trod_int Try.underlying3 e3
  obtain ⟨s, i4, _, w4⟩ := DataW.trod_string Try.underlying22 e4
  obtain ⟨x5, i5, _, w5⟩ := DataW.trod_int Try.underlying3 e5
  obtain ⟨z0, z1, n7, _, hl7, r0, r1⟩ := trod_struct2 Try.underlying26 e7
  simp only [c3, c24, c26] at r0 r1 hl7
  obtain ⟨x7, i7, _, w7⟩ := DataW.trod_int Try.underlying24 r0
  obtain ⟨x8, i8, _, w8⟩ := DataW.trod_int Try.underlying3 r1
  obtain ⟨ep, mem, ma, ml, mc, i9, m1, m2, m3, m4, m5, m6⟩ := arg_view e8
  obtain ⟨L⟩ := cs
  simp only [Value.cells] at i0 i1 i2 i3 i4 i5 i7 i8 i9 e6 hl
  match L, hl with
  | [b0, b1, b2, b3, b4, b5, b6, b7, b8, b9, b10], _ =>
    simp at i0 i1 i2 i3 i4 i5 i7 i8 i9
    simp only [List.drop_succ_cons, List.drop_zero, List.take_succ_cons, List.take_zero] at e6
    have hs : ∃ a l c, b6 = Value.slice a l c := by
      rcases open_slice Try.underlying23 e6 with ⟨hcs, _⟩ | ⟨x, l, c, m, n, D, Pl, hcs, _⟩
      · exact ⟨none, 0, 0, by simpa using hcs⟩
      · exact ⟨some x, l, c, by simpa using hcs⟩
    obtain ⟨aa, al, ac, rfl⟩ := hs
    have ht : DataW.Trod enc Try.prog W 0 (fun _ => true) true 23 (.slice aa al ac) y6.1 y6.2 := ⟨n, e6⟩
    obtain ⟨args, h1, h2, h3, h4, h5⟩ := arg_ints Try.underlying23 Try.underlying3 (by kernel_rfl) ht
    refine ⟨⟨x0, x1, x2, x3, uN s.data.toList, x5, args, x7, x8, ep, mem⟩, s, aa, al, ac, ma, ml, mc, ?_, ⟨rfl, w4, h1, ⟨h3, h4.1⟩, h4.2, h5, m1, m2, m3, m4, ⟨⟨bounds_i64 w0, bounds_i64 w1, bounds_i64 w2, bounds_i64 w3⟩, ⟨bounds_i64 w5, h2⟩, ⟨bounds_i64 w7, bounds_i64 w8⟩, m5, m6⟩⟩⟩
    rw [i0, i1, i2, i3, i4, i5, i7, i8, i9.1, i9.2]
    rfl
end Go.Proofs.Ytgkpioleipefmaa
