/- BeatPlays: the argument, a row of acts. -/
import Derived.Test.YtcfenakafcfjbaaRfm
import Derived.OpenShut
import Derived.ShutString
import Derived.ChangeOld
import Derived.Deep.Grids
import Derived.WalkKit
import Derived.ProofKit
namespace Go.Proofs.Ytcfenakafcfjbaa
open Go.ChangeShapes Go.WideShapes Go.ChangeAt Go.RowKit Go.Deep Go.Maps Go.Sort

/-- An act: which way, a node, a life, a time, a row of nodes. -/
structure Ac where
  wy : Int
  x : Int
  lf : Int
  now : Int
  a : Option Addr
  n : Nat
  c : Nat
  L : List Int
instance : Inhabited Ac := ⟨⟨0, 0, 0, 0, none, 0, 0, []⟩⟩
def Ac.cs (y : Ac) : List Value := [.int .i64 y.wy, .int .i64 y.x, .int .i64 y.lf, .int .i64 y.now, .slice y.a y.n y.c]
def okAc (w : World) (y : Ac) : Prop := I64 y.x ∧ I64 y.lf ∧ I64 y.now ∧ y.L.length = y.n ∧ In64 y.L ∧ Reads w y.a (iV y.L)
/-- Acts that are read. -/
def ActsM (w : World) (a : Option Addr) (l : List Ac) : Prop := l = [] ∨ ∃ b off, a = some ⟨b, off, none⟩ ∧ ∀ k y, l[k]? = some y → okAc w y ∧ w.cell? ⟨b, off + k * 5, none⟩ = some (.int .i64 y.wy) ∧ w.cell? ⟨b, off + k * 5 + 1, none⟩ = some (.int .i64 y.x) ∧ w.cell? ⟨b, off + k * 5 + 2, none⟩ = some (.int .i64 y.lf) ∧ w.cell? ⟨b, off + k * 5 + 3, none⟩ = some (.int .i64 y.now) ∧ w.cell? ⟨b, off + k * 5 + 4, none⟩ = some (.slice y.a y.n y.c)

theorem cell_spot {W : World} {x : Addr} {k n : Nat} {cs : List Value} (h : W.cells? 0 (x.add k) n = some cs) (hk : k = 0) (hn : 0 < n) : ∃ b off, x = ⟨b, off, none⟩ := by
  obtain ⟨_, hl, hc⟩ := World.cells?_some h
  have h0 := hc 0 hn
  rw [List.getElem?_eq_getElem (by omega)] at h0
  obtain ⟨b, off, sp⟩ := x
  subst hk
  have : sp = none := by simpa [Addr.add] using World.cell?_spot h0
  subst this
  exact ⟨b, off, rfl⟩

theorem trod_st5 {H : Type} {enc : TypeId × Value → H} {P : Program} {w : World} {base : Nat} {spare : Nat → Bool} {held : Bool} {t : TypeId} {f0 f1 f2 f3 f4 : Field} {fuel : Nat} {cs : List Value} {x : DataW H × List MemPlace} (ht : P.underlying t = some (.struct #[f0, f1, f2, f3, f4])) (h : DataW.trod enc P w base spare held fuel t cs = some x) :
    ∃ y0 y1 y2 y3 y4 n, cs.length = P.cellsOf t ∧ DataW.trod enc P w base spare held n f0.type ((cs.drop f0.offset).take (P.cellsOf f0.type)) = some y0 ∧ DataW.trod enc P w base spare held n f1.type ((cs.drop f1.offset).take (P.cellsOf f1.type)) = some y1 ∧ DataW.trod enc P w base spare held n f2.type ((cs.drop f2.offset).take (P.cellsOf f2.type)) = some y2 ∧ DataW.trod enc P w base spare held n f3.type ((cs.drop f3.offset).take (P.cellsOf f3.type)) = some y3 ∧ DataW.trod enc P w base spare held n f4.type ((cs.drop f4.offset).take (P.cellsOf f4.type)) = some y4 := by
  obtain ⟨xs, n, _, rfl, hl, hlen, hf⟩ := DataW.trod_struct ht h
  match xs, hlen with
  | [y0, y1, y2, y3, y4], _ => exact ⟨y0, y1, y2, y3, y4, n, hl, by simpa using hf 0 f0 rfl, by simpa using hf 1 f1 rfl, by simpa using hf 2 f2 rfl, by simpa using hf 3 f3 rfl, by simpa using hf 4 f4 rfl⟩

theorem arg_acts {H : Type} {enc : TypeId × Value → H} {W : World} {fuel : Nat} {a : Option Addr} {len cap : Nat} {x : DataW H × List MemPlace} (h : DataW.trod enc Try.prog W 0 (fun _ => true) true fuel 23 [.slice a len cap] = some x) :
    ∃ l : List Ac, l.length = len ∧ ActsM W a l ∧ len ≤ maxLen := by
  have c3 : Try.prog.cellsOf 3 = 1 := by kernel_rfl
  have c22 : Try.prog.cellsOf 22 = 1 := by kernel_rfl
  have c30 : Try.prog.cellsOf 30 = 5 := by kernel_rfl
  rcases open_slice Try.underlying23 h with ⟨hcs, _⟩ | ⟨x, l, c, m, n, D, Pl, hcs, _, hl, hm, hmm, _, hx⟩
  · simp at hcs
    obtain ⟨rfl, rfl, rfl⟩ := hcs
    exact ⟨[], rfl, .inl rfl, Nat.zero_le _⟩
  · simp at hcs
    obtain ⟨rfl, rfl, rfl⟩ := hcs
    simp only [if_true] at hmm
    subst hmm
    rw [c30] at hx
    have key : ∀ i, i < len → ∃ z : Ac, okAc W z ∧ W.cells? 0 (x.add (i * 5)) 5 = some z.cs := fun i hi => by
      obtain ⟨cs', hc, ht⟩ := hx i (by omega)
      obtain ⟨y0, y1, y2, y3, y4, k, hlen, e0, e1, e2, e3, e4⟩ := trod_st5 Try.underlying30 ht
      simp only [c3, c22, c30] at e0 e1 e2 e3 e4 hlen
      obtain ⟨p, i0, _, w0⟩ := DataW.trod_int Try.underlying3 e0
      obtain ⟨q, i1, _, w1⟩ := DataW.trod_int Try.underlying3 e1
      obtain ⟨r, i2, _, w2⟩ := DataW.trod_int Try.underlying3 e2
      obtain ⟨s, i3, _, w3⟩ := DataW.trod_int Try.underlying3 e3
      match cs', hlen with
      | [u, v, t, b, d], _ =>
        simp at i0 i1 i2 i3
        simp only [List.drop_succ_cons, List.drop_zero, List.take_succ_cons, List.take_zero] at e4
        have hs2 : ∃ a l c, d = Value.slice a l c := by
          rcases open_slice Try.underlying22 e4 with ⟨hcs, _⟩ | ⟨x, l, c, m, n, D, Pl, hcs, _⟩
          · exact ⟨none, 0, 0, by simpa using hcs⟩
          · exact ⟨some x, l, c, by simpa using hcs⟩
        obtain ⟨a3, l3, k3, rfl⟩ := hs2
        obtain ⟨ns, b1, b2, b3, b4, b5⟩ := arg_ints (d := y4.1) (p := y4.2) Try.underlying22 Try.underlying3 (by kernel_rfl) ⟨k, e4⟩
        refine ⟨⟨p, q, r, s, a3, l3, k3, ns⟩, ⟨bounds_i64 w1, bounds_i64 w2, bounds_i64 w3, b1, b2, b5⟩, ?_⟩
        rw [hc, i0, i1, i2, i3]; rfl
    obtain ⟨F, hF⟩ := choose_lt (α := Ac) (n := len) (p := fun i z => okAc W z ∧ W.cells? 0 (x.add (i * 5)) 5 = some z.cs) key
    refine ⟨(List.range len).map F, by simp, ?_, Nat.le_trans hl hm⟩
    by_cases h0 : len = 0
    · left; subst h0; rfl
    · obtain ⟨b, off, rfl⟩ := cell_spot (hF 0 (by omega)).2 (by omega) (by omega)
      refine .inr ⟨b, off, rfl, fun k y hy => ?_⟩
      have hk : k < len := by
        rcases Nat.lt_or_ge k len with h | h
        · exact h
        · rw [List.getElem?_eq_none (by simp; omega)] at hy; cases hy
      have hy' : F k = y := by simpa [hk] using hy
      subst hy'
      have hcl := (World.cells?_some (hF k hk).2).2.2
      have q0 := hcl 0 (by omega)
      have q1 := hcl 1 (by omega)
      have q2 := hcl 2 (by omega)
      have q3 := hcl 3 (by omega)
      have q4 := hcl 4 (by omega)
      rw [add_none, add_none] at q0 q1 q2 q3 q4
      exact ⟨(hF k hk).1, by simpa [Ac.cs] using q0, by simpa [Ac.cs] using q1, by simpa [Ac.cs] using q2, by simpa [Ac.cs] using q3, by simpa [Ac.cs] using q4⟩
end Go.Proofs.Ytcfenakafcfjbaa
