/- Arguments that are views, and rows of views. -/
import Derived.Test.YthjkfpcbbjmclaaRow
import Derived.WalkKit
import Derived.ProofKit
import Derived.OpenShut
import Derived.ChangeOld
import Derived.Below
import Derived.Deep.Fields
import Derived.Deep.Grids
namespace Go.Proofs.Ythjkfpcbbjmclaa
open Go.ChangeShapes Go.WideShapes Go.ChangeAt Go.RowKit Go.Deep

/-- One of Go's ints. -/
def In64i (n : Int) : Prop := -9223372036854775808 ≤ n ∧ n ≤ 9223372036854775807
theorem max_is : maxLen = 9223372036854775807 := by decide
theorem cell_spot {W : World} {x : Addr} {k n : Nat} {cs : List Value} (h : W.cells? 0 (x.add k) n = some cs) (hk : k = 0) (hn : 0 < n) : ∃ b off, x = ⟨b, off, none⟩ := by
  obtain ⟨_, hl, hc⟩ := World.cells?_some h
  have h0 := hc 0 hn
  rw [List.getElem?_eq_getElem (by omega)] at h0
  obtain ⟨b, off, sp⟩ := x
  subst hk
  have : sp = none := by simpa [Addr.add] using World.cell?_spot h0
  subst this
  exact ⟨b, off, rfl⟩
theorem mV_of : ∀ (c : List Mb) (i : Nat) (v : Value), (mV c)[i]? = some v → ∃ x, c[i / 2]? = some x ∧ v = (if i % 2 = 0 then .int .i64 x.1 else .int .i64 x.2)
  | [], i, v, h => by simp [mV] at h
  | a :: r, i, v, h => by
    have e : mV (a :: r) = [.int .i64 a.1, .int .i64 a.2] ++ mV r := by simp [mV]
    rw [e] at h
    match i, h with
    | 0, h => exact ⟨a, rfl, by simpa using h.symm⟩
    | 1, h => exact ⟨a, rfl, by simpa using h.symm⟩
    | i + 2, h =>
      have h' : (mV r)[i]? = some v := by simpa using h
      obtain ⟨x, h1, h2⟩ := mV_of r i v h'
      refine ⟨x, ?_, ?_⟩
      · rw [show (i + 2) / 2 = i / 2 + 1 by omega]; exact h1
      · rw [show (i + 2) % 2 = i % 2 by omega]; exact h2

theorem arg_members {H : Type} {enc : TypeId × Value → H} {W : World} {fuel : Nat} {a : Option Addr} {len cap : Nat} {x : DataW H × List MemPlace} (h : DataW.trod enc Try.prog W 0 (fun _ => true) true fuel 22 [.slice a len cap] = some x) :
    ∃ c : List Mb, c.length = len ∧ len ≤ 9223372036854775807 ∧ (∀ x ∈ c, In64i x.1 ∧ In64i x.2) ∧ (len ≤ cap ∧ cap ≤ maxLen) ∧ (a = none → len = 0 ∧ cap = 0) ∧ Reads W a (mV c) := by
  have c3 : Try.prog.cellsOf 3 = 1 := by kernel_rfl
  have c43 : Try.prog.cellsOf 41 = 2 := by kernel_rfl
  rcases open_slice Try.underlying22 h with ⟨hcs, _⟩ | ⟨x, l, c, m, n, D, Pl, hcs, _, hl, hm, hmm, _, hx⟩
  · simp at hcs
    obtain ⟨rfl, rfl, rfl⟩ := hcs
    exact ⟨[], rfl, by omega, (fun x hx => by cases hx), ⟨Nat.le_refl _, Nat.zero_le _⟩, fun _ => ⟨rfl, rfl⟩, .inl rfl⟩
  · simp at hcs
    obtain ⟨rfl, rfl, rfl⟩ := hcs
    simp only [if_true] at hmm
    subst hmm
    rw [max_is] at hm
    rw [c43] at hx
    have key : ∀ i, i < len → ∃ z : Int × Int, (In64i z.1 ∧ In64i z.2) ∧ W.cells? 0 (x.add (i * 2)) 2 = some [.int .i64 z.1, .int .i64 z.2] := fun i hi => by
      obtain ⟨cs', hc, ht⟩ := hx i (by omega)
      obtain ⟨y0, y1, k, _, hlen, e0, e1⟩ := trod_struct2 Try.underlying41 ht
      simp only [c3, c43] at e0 e1 hlen
      obtain ⟨p, i0, _, w0⟩ := DataW.trod_int Try.underlying3 e0
      obtain ⟨q, i1, _, w1⟩ := DataW.trod_int Try.underlying3 e1
      refine ⟨(p, q), ⟨bounds_i64 w0, bounds_i64 w1⟩, ?_⟩
      · match cs', hlen with
        | [u, v], _ =>
          simp at i0 i1
          rw [hc, i0, i1]
    obtain ⟨F, hF⟩ := choose_lt (α := Int × Int) (n := len) (p := fun i z => (In64i z.1 ∧ In64i z.2) ∧ W.cells? 0 (x.add (i * 2)) 2 = some [.int .i64 z.1, .int .i64 z.2]) key
    refine ⟨(List.range len).map F, by simp, by omega, fun z hz => ?_, ⟨by omega, by rw [max_is]; omega⟩, fun h => (by cases h), ?_⟩
    · obtain ⟨i, hi, rfl⟩ := List.mem_map.1 hz
      exact (hF i (by simpa using hi)).1
    · by_cases h0 : len = 0
      · left
        subst h0
        simp [mV]
      · obtain ⟨b, off, rfl⟩ := cell_spot (hF 0 (by omega)).2 (by omega) (by omega)
        refine .inr ⟨b, off, rfl, fun j u hu => ?_⟩
        obtain ⟨z, hz, rfl⟩ := mV_of _ _ _ hu
        rw [List.getElem?_map] at hz
        obtain ⟨i, hi, rfl⟩ := Option.map_eq_some_iff.1 hz
        have hij : i = j / 2 ∧ j / 2 < len := by
          have := List.getElem?_eq_some_iff.1 hi
          obtain ⟨h1, h2⟩ := this
          simp at h1 h2
          omega
        obtain ⟨rfl, hlt⟩ := hij
        have hcl := (World.cells?_some (hF (j / 2) hlt).2).2.2
        by_cases hp : j % 2 = 0
        · rw [if_pos hp]
          have := hcl 0 (by omega)
          rw [add_none, add_none] at this
          rw [show off + j = off + j / 2 * 2 + 0 by omega, this]; rfl
        · rw [if_neg hp]
          have := hcl 1 (by omega)
          rw [add_none, add_none] at this
          rw [show off + j = off + j / 2 * 2 + 1 by omega, this]; rfl



theorem arg_view {H : Type} {enc : TypeId × Value → H} {W : World} {fuel : Nat} {cs : List Value} {x : DataW H × List MemPlace} (hf : DataW.trod enc Try.prog W 0 (fun _ => true) true fuel 24 cs = some x) :
    ∃ (ep : Int) (mem : List Mb) (a : Option Addr) (l c : Nat), cs = [.int .i64 ep, .slice a l c] ∧ mem.length = l ∧ (l ≤ c ∧ c ≤ maxLen) ∧ (a = none → l = 0 ∧ c = 0) ∧ Reads W a (mV mem) ∧ In64i ep ∧ ∀ m ∈ mem, In64i m.1 ∧ In64i m.2 := by
  have c3 : Try.prog.cellsOf 3 = 1 := by kernel_rfl
  have c27 : Try.prog.cellsOf 22 = 1 := by kernel_rfl
  have c29 : Try.prog.cellsOf 24 = 2 := by kernel_rfl
  obtain ⟨y0, y1, n, _, hl, e0, e1⟩ := trod_struct2 Try.underlying24 hf
  simp only [c3, c27, c29] at e0 e1 hl
  obtain ⟨x0, i0, _, w0⟩ := DataW.trod_int Try.underlying3 e0
  match cs, hl with
  | [b0, b1], _ =>
    simp at i0
    simp only [List.drop_succ_cons, List.drop_zero, List.take_succ_cons, List.take_zero] at e1
    have hs : ∃ a l c, b1 = Value.slice a l c := by
      rcases open_slice Try.underlying22 e1 with ⟨hcs, _⟩ | ⟨x, l, c, m, n, D, Pl, hcs, _⟩
      · exact ⟨none, 0, 0, by simpa using hcs⟩
      · exact ⟨some x, l, c, by simpa using hcs⟩
    obtain ⟨a, l, c, rfl⟩ := hs
    obtain ⟨mem, h1, _, h3, h4, h5, h6⟩ := arg_members e1
    exact ⟨x0, mem, a, l, c, by rw [i0], h1, h4, h5, h6, bounds_i64 w0, h3⟩


/-- A view as it lies in memory: its slice, and what that holds. -/
structure Vm where
  ep : Int
  a : Option Addr
  n : Nat
  c : Nat
  l : List Mb
deriving Inhabited
def Vm.sl (x : Vm) : Value := .slice x.a x.n x.c
/-- The row of a view's slice. -/
structure VmR (w : World) (x : Vm) : Prop where
  len : x.l.length = x.n
  cap : x.n ≤ x.c ∧ x.c ≤ maxLen
  nil : x.a = none → x.n = 0 ∧ x.c = 0
  rd : Reads w x.a (mV x.l)
theorem VmR.below {w w' : World} {x : Vm} (h : VmR w x) (hb : Below w.heap.size w w') : VmR w' x := ⟨h.len, h.cap, h.nil, h.rd.below hb⟩
def vV (l : List Vm) : List Value := l.flatMap fun x => [.int .i64 x.ep, x.sl]
theorem vV_cons (a : Vm) (r : List Vm) : vV (a :: r) = .int .i64 a.ep :: a.sl :: vV r := by simp [vV]
theorem vV_at (l : List Vm) (k : Nat) (h : k < l.length) : (vV l)[2 * k]? = some (.int .i64 l[k].ep) ∧ (vV l)[2 * k + 1]? = some l[k].sl := by
  induction l generalizing k with
  | nil => simp at h
  | cons a r ih =>
    rw [vV_cons]
    cases k with
    | zero => simp
    | succ k =>
      have := ih k (by simpa using h)
      rw [show 2 * (k + 1) = 2 * k + 1 + 1 by omega]
      simpa using this
theorem vw_at {w : World} {a : Option Addr} {c : List Vm} {k : Nat} (h : Reads w a (vV c)) (hk : k < c.length) : ∃ b off, a = some ⟨b, off, none⟩ ∧ w.cell? ⟨b, off + k * 2, none⟩ = some (.int .i64 c[k].ep) ∧ w.cell? ⟨b, off + k * 2 + 1, none⟩ = some c[k].sl := by
  have hh := vV_at c k hk
  rcases h with h | ⟨b, off, rfl, h⟩
  · rw [h] at hh; simp at hh
  · exact ⟨b, off, rfl, by rw [Nat.mul_comm]; exact h _ _ hh.1, by rw [Nat.mul_comm, Nat.add_assoc]; exact h _ _ hh.2⟩
theorem vV_of : ∀ (c : List Vm) (i : Nat) (v : Value), (vV c)[i]? = some v → ∃ x, c[i / 2]? = some x ∧ v = (if i % 2 = 0 then .int .i64 x.ep else x.sl)
  | [], i, v, h => by simp [vV] at h
  | a :: r, i, v, h => by
    rw [vV_cons] at h
    match i, h with
    | 0, h => exact ⟨a, rfl, by simpa using h.symm⟩
    | 1, h => exact ⟨a, rfl, by simpa using h.symm⟩
    | i + 2, h =>
      have h' : (vV r)[i]? = some v := by simpa using h
      obtain ⟨x, h1, h2⟩ := vV_of r i v h'
      refine ⟨x, ?_, ?_⟩
      · rw [show (i + 2) / 2 = i / 2 + 1 by omega]; exact h1
      · rw [show (i + 2) % 2 = i % 2 by omega]; exact h2

theorem arg_views {H : Type} {enc : TypeId × Value → H} {W : World} {a : Option Addr} {len cap : Nat} {d : DataW H} {p : List MemPlace} (h : DataW.Trod enc Try.prog W 0 (fun _ => true) true 44 (.slice a len cap) d p) :
    ∃ c : List Vm, c.length = len ∧ (len ≤ cap ∧ cap ≤ maxLen) ∧ (∀ x ∈ c, VmR W x ∧ In64i x.ep) ∧ (a = none → len = 0 ∧ cap = 0) ∧ Reads W a (vV c) := by
  have c24 : Try.prog.cellsOf 24 = 2 := by kernel_rfl
  obtain ⟨fuel, h⟩ := h
  rcases open_slice Try.underlying44 h with ⟨hcs, _⟩ | ⟨x, l, c, m, n, D, Pl, hcs, _, hl, hm, hmm, _, hx⟩
  · simp [Value.cells] at hcs
    obtain ⟨rfl, rfl, rfl⟩ := hcs
    exact ⟨[], rfl, ⟨Nat.le_refl _, Nat.zero_le _⟩, (fun x hx => by cases hx), fun _ => ⟨rfl, rfl⟩, .inl rfl⟩
  · simp [Value.cells] at hcs
    obtain ⟨rfl, rfl, rfl⟩ := hcs
    simp only [if_true] at hmm
    subst hmm
    rw [c24] at hx
    have key : ∀ i, i < len → ∃ z : Vm, (VmR W z ∧ In64i z.ep) ∧ W.cells? 0 (x.add (i * 2)) 2 = some [.int .i64 z.ep, z.sl] := fun i hi => by
      obtain ⟨cs', hc, ht⟩ := hx i (by omega)
      obtain ⟨ep, mem, a, l, c, rfl, h1, h2, h3, h4, h5, _⟩ := arg_view ht
      exact ⟨⟨ep, a, l, c, mem⟩, ⟨⟨h1, h2, h3, h4⟩, h5⟩, hc⟩
    obtain ⟨F, hF⟩ := choose_lt (α := Vm) (n := len) (p := fun i z => (VmR W z ∧ In64i z.ep) ∧ W.cells? 0 (x.add (i * 2)) 2 = some [.int .i64 z.ep, z.sl]) key
    refine ⟨(List.range len).map F, by simp, ⟨by omega, hm⟩, fun z hz => ?_, fun h => (by cases h), ?_⟩
    · obtain ⟨i, hi, rfl⟩ := List.mem_map.1 hz
      exact (hF i (by simpa using hi)).1
    · by_cases h0 : len = 0
      · left
        subst h0
        simp [vV]
      · obtain ⟨b, off, rfl⟩ := cell_spot (hF 0 (by omega)).2 (by omega) (by omega)
        refine .inr ⟨b, off, rfl, fun j u hu => ?_⟩
        obtain ⟨z, hz, rfl⟩ := vV_of _ _ _ hu
        rw [List.getElem?_map] at hz
        obtain ⟨i, hi, rfl⟩ := Option.map_eq_some_iff.1 hz
        have hij : i = j / 2 ∧ j / 2 < len := by
          have := List.getElem?_eq_some_iff.1 hi
          obtain ⟨h1, h2⟩ := this
          simp at h1 h2
          omega
        obtain ⟨rfl, hlt⟩ := hij
        have hcl := (World.cells?_some (hF (j / 2) hlt).2).2.2
        by_cases hp : j % 2 = 0
        · rw [if_pos hp]
          have := hcl 0 (by omega)
          rw [add_none, add_none] at this
          rw [show off + j = off + j / 2 * 2 + 0 by omega, this]; rfl
        · rw [if_neg hp]
          have := hcl 1 (by omega)
          rw [add_none, add_none] at this
          rw [show off + j = off + j / 2 * 2 + 1 by omega, this]; rfl
end Go.Proofs.Ythjkfpcbbjmclaa
