/- Arguments that are rows of acts. -/
import Derived.Test.YtaooglcjcnkgnaaGro
import Derived.OpenShut
import Derived.ShutString
import Derived.ChangeOld
namespace Go.Proofs.Ytaooglcjcnkgnaa
open Go.ChangeShapes Go.WideShapes Go.ChangeAt Go.RowKit Go.Deep

theorem cell_spot {W : World} {x : Addr} {k n : Nat} {cs : List Value} (h : W.cells? 0 (x.add k) n = some cs) (hk : k = 0) (hn : 0 < n) : ∃ b off, x = ⟨b, off, none⟩ := by
  obtain ⟨_, hl, hc⟩ := World.cells?_some h
  have h0 := hc 0 hn
  rw [List.getElem?_eq_getElem (by omega)] at h0
  obtain ⟨b, off, sp⟩ := x
  subst hk
  have : sp = none := by simpa [Addr.add] using World.cell?_spot h0
  subst this
  exact ⟨b, off, rfl⟩

/-- A row of acts that is read. -/
def ActsM (w : World) (a : Option Addr) (l : List (Int × Int × Int)) : Prop := l = [] ∨ ∃ b off, a = some ⟨b, off, none⟩ ∧ ∀ k y, l[k]? = some y → w.cell? ⟨b, off + k * 3, none⟩ = some (.int .i64 y.1) ∧ w.cell? ⟨b, off + k * 3 + 1, none⟩ = some (.int .i64 y.2.1) ∧ w.cell? ⟨b, off + k * 3 + 2, none⟩ = some (.int .i64 y.2.2)

def I3 (y : Int × Int × Int) : Prop := I64 y.1 ∧ I64 y.2.1 ∧ I64 y.2.2

theorem arg_acts {H : Type} {enc : TypeId × Value → H} {W : World} {fuel : Nat} {a : Option Addr} {len cap : Nat} {x : DataW H × List MemPlace} (h : DataW.trod enc Try.prog W 0 (fun _ => true) true fuel 22 [.slice a len cap] = some x) :
    ∃ l : List (Int × Int × Int), l.length = len ∧ ActsM W a l ∧ len ≤ maxLen ∧ ∀ y ∈ l, I3 y := by
  have c3 : Try.prog.cellsOf 3 = 1 := by kernel_rfl
  have c29 : Try.prog.cellsOf 29 = 3 := by kernel_rfl
  rcases open_slice Try.underlying22 h with ⟨hcs, _⟩ | ⟨x, l, c, m, n, D, Pl, hcs, _, hl, hm, hmm, _, hx⟩
  · simp at hcs
    obtain ⟨rfl, rfl, rfl⟩ := hcs
    exact ⟨[], rfl, .inl rfl, Nat.zero_le _, fun x hx => by cases hx⟩
  · simp at hcs
    obtain ⟨rfl, rfl, rfl⟩ := hcs
    simp only [if_true] at hmm
    subst hmm
    rw [c29] at hx
    have key : ∀ i, i < len → ∃ z : Int × Int × Int, I3 z ∧ W.cells? 0 (x.add (i * 3)) 3 = some [.int .i64 z.1, .int .i64 z.2.1, .int .i64 z.2.2] := fun i hi => by
      obtain ⟨cs', hc, ht⟩ := hx i (by omega)
      obtain ⟨xs, n, _, _, hlen, hln, hf⟩ := DataW.trod_struct Try.underlying29 ht
      match xs, hln with
      | [y0, y1, y2], _ =>
        have e0 : DataW.trod enc Try.prog W 0 (fun _ => true) true n 3 ((cs'.drop 0).take 1) = some y0 := by simpa [c3] using hf 0 _ rfl
        have e1 : DataW.trod enc Try.prog W 0 (fun _ => true) true n 3 ((cs'.drop 1).take 1) = some y1 := by simpa [c3] using hf 1 _ rfl
        have e2 : DataW.trod enc Try.prog W 0 (fun _ => true) true n 3 ((cs'.drop 2).take 1) = some y2 := by simpa [c3] using hf 2 _ rfl
        obtain ⟨p, i0, _, w0⟩ := DataW.trod_int Try.underlying3 e0
        obtain ⟨q, i1, _, w1⟩ := DataW.trod_int Try.underlying3 e1
        obtain ⟨r, i2, _, w2⟩ := DataW.trod_int Try.underlying3 e2
        rw [c29] at hlen
        match cs', hlen with
        | [u, v, t], _ =>
          simp at i0 i1 i2
          refine ⟨(p, q, r), ⟨bounds_i64 w0, bounds_i64 w1, bounds_i64 w2⟩, ?_⟩
          rw [hc, i0, i1, i2]
    have inh : Inhabited (Int × Int × Int) := ⟨(0, 0, 0)⟩
    obtain ⟨F, hF⟩ := choose_lt (α := Int × Int × Int) (n := len) (p := fun i z => I3 z ∧ W.cells? 0 (x.add (i * 3)) 3 = some [.int .i64 z.1, .int .i64 z.2.1, .int .i64 z.2.2]) key
    refine ⟨(List.range len).map F, by simp, ?_, Nat.le_trans hl hm, fun y hy => ?_⟩
    · by_cases h0 : len = 0
      · left; subst h0; rfl
      · obtain ⟨b, off, rfl⟩ := cell_spot (hF 0 (by omega)).2 (by omega) (by omega)
        refine .inr ⟨b, off, rfl, fun k y hy => ?_⟩
        have hk : k < len := by
          rcases Nat.lt_or_ge k len with h | h
          · exact h
          · rw [List.getElem?_eq_none (by simp; omega)] at hy; cases hy
        have hy' : F k = y := by simpa [hk] using hy
        subst hy'
        have hcl := (World.cells?_some (hF k hk).2).2.2
        have q0 := hcl 0 (by omega)
        have q1 := hcl 1 (by omega)
        have q2 := hcl 2 (by omega)
        rw [add_none, add_none] at q0 q1 q2
        exact ⟨by simpa using q0, by simpa using q1, by simpa using q2⟩
    · obtain ⟨i, hi, rfl⟩ := List.mem_map.1 hy
      exact (hF i (by simpa using hi)).1
end Go.Proofs.Ytaooglcjcnkgnaa
