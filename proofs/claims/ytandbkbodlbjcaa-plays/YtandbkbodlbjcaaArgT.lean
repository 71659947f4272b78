/- TablePlays: the argument, a row of acts. -/
import Derived.Test.YtandbkbodlbjcaaRtF
import Derived.OpenShut
import Derived.ShutString
import Derived.ChangeOld
import Derived.SliceStrings
import Derived.Deep.Grids
import Derived.WalkKit
import Derived.ProofKit
namespace Go.Proofs.Ytandbkbodlbjcaa
open Go.ChangeShapes Go.WideShapes Go.ChangeAt Go.RowKit Go.Deep Go.Maps Go.Sort

/-- An act: which way, two names, a row of names. -/
structure Ac where
  wy : Int
  id : ByteArray
  on : ByteArray
  a : Option Addr
  n : Nat
  c : Nat
  L : List ByteArray
instance : Inhabited Ac := ⟨⟨0, ⟨#[]⟩, ⟨#[]⟩, none, 0, 0, []⟩⟩
def Ac.cs (y : Ac) : List Value := [.int .i64 y.wy, .string y.id, .string y.on, .slice y.a y.n y.c]
def okAc (w : World) (y : Ac) : Prop := y.L.length = y.n ∧ y.n ≤ maxLen ∧ Reads w y.a (nV y.L)
/-- Acts that are read. -/
def ActsM (w : World) (a : Option Addr) (l : List Ac) : Prop := l = [] ∨ ∃ b off, a = some ⟨b, off, none⟩ ∧ ∀ k y, l[k]? = some y → okAc w y ∧ w.cell? ⟨b, off + k * 4, none⟩ = some (.int .i64 y.wy) ∧ w.cell? ⟨b, off + k * 4 + 1, none⟩ = some (.string y.id) ∧ w.cell? ⟨b, off + k * 4 + 2, none⟩ = some (.string y.on) ∧ w.cell? ⟨b, off + k * 4 + 3, none⟩ = some (.slice y.a y.n y.c)

theorem cell_spot {W : World} {x : Addr} {k n : Nat} {cs : List Value} (h : W.cells? 0 (x.add k) n = some cs) (hk : k = 0) (hn : 0 < n) : ∃ b off, x = ⟨b, off, none⟩ := by
  obtain ⟨_, hl, hc⟩ := World.cells?_some h
  have h0 := hc 0 hn
  rw [List.getElem?_eq_getElem (by omega)] at h0
  obtain ⟨b, off, sp⟩ := x
  subst hk
  have : sp = none := by simpa [Addr.add] using World.cell?_spot h0
  subst this
  exact ⟨b, off, rfl⟩

theorem trod_st4 {H : Type} {enc : TypeId × Value → H} {P : Program} {w : World} {base : Nat} {spare : Nat → Bool} {held : Bool} {t : TypeId} {f0 f1 f2 f3 : Field} {fuel : Nat} {cs : List Value} {x : DataW H × List MemPlace} (ht : P.underlying t = some (.struct #[f0, f1, f2, f3])) (h : DataW.trod enc P w base spare held fuel t cs = some x) :
    ∃ y0 y1 y2 y3 n, cs.length = P.cellsOf t ∧ DataW.trod enc P w base spare held n f0.type ((cs.drop f0.offset).take (P.cellsOf f0.type)) = some y0 ∧ DataW.trod enc P w base spare held n f1.type ((cs.drop f1.offset).take (P.cellsOf f1.type)) = some y1 ∧ DataW.trod enc P w base spare held n f2.type ((cs.drop f2.offset).take (P.cellsOf f2.type)) = some y2 ∧ DataW.trod enc P w base spare held n f3.type ((cs.drop f3.offset).take (P.cellsOf f3.type)) = some y3 := by
  obtain ⟨xs, n, _, rfl, hl, hlen, hf⟩ := DataW.trod_struct ht h
  match xs, hlen with
  | [y0, y1, y2, y3], _ => exact ⟨y0, y1, y2, y3, n, hl, by simpa using hf 0 f0 rfl, by simpa using hf 1 f1 rfl, by simpa using hf 2 f2 rfl, by simpa using hf 3 f3 rfl⟩

theorem arg_nms {H : Type} {enc : TypeId × Value → H} {W : World} {fuel : Nat} {v : Value} {x : DataW H × List MemPlace} (h : DataW.trod enc Try.prog W 0 (fun _ => true) true fuel 27 [v] = some x) :
    ∃ a n c, v = .slice a n c ∧ ∃ L : List ByteArray, L.length = n ∧ n ≤ maxLen ∧ Reads W a (nV L) := by
  rcases open_strings Try.underlying27 Try.underlying31 (by kernel_rfl) h with ⟨hcs, _⟩ | ⟨a, len, cap, ss, hcs, _, hl, hm, hln, _, hcell, _⟩
  · simp at hcs
    subst hcs
    exact ⟨none, 0, 0, rfl, [], rfl, Nat.zero_le _, .inl rfl⟩
  · simp at hcs
    subst hcs
    simp only [if_true] at hln
    refine ⟨some a, len, cap, rfl, ss.take len, by simp; omega, Nat.le_trans hl hm, ?_⟩
    by_cases h0 : len = 0
    · exact .inl (by simp [nV, h0])
    · obtain ⟨b, off, rfl⟩ := reads_plain (hcell 0 (by omega)) ⟨_, hcell 0 (by omega)⟩
      refine .inr ⟨b, off, rfl, fun j u hu => ?_⟩
      have hj : j < len := by
        rcases Nat.lt_or_ge j len with h | h
        · exact h
        · rw [List.getElem?_eq_none (by simp [nV]; omega)] at hu; cases hu
      rw [← add_none, hcell j (by omega)]
      have hjs : j < ss.length := by omega
      simp [nV, hj, hjs] at hu
      rw [← hu]
      simp [List.getD, hjs]

theorem arg_acts {H : Type} {enc : TypeId × Value → H} {W : World} {fuel : Nat} {a : Option Addr} {len cap : Nat} {x : DataW H × List MemPlace} (h : DataW.trod enc Try.prog W 0 (fun _ => true) true fuel 22 [.slice a len cap] = some x) :
    ∃ l : List Ac, l.length = len ∧ ActsM W a l ∧ len ≤ maxLen := by
  have c3 : Try.prog.cellsOf 3 = 1 := by kernel_rfl
  have c31 : Try.prog.cellsOf 31 = 1 := by kernel_rfl
  have c27 : Try.prog.cellsOf 27 = 1 := by kernel_rfl
  have c33 : Try.prog.cellsOf 33 = 4 := by kernel_rfl
  rcases open_slice Try.underlying22 h with ⟨hcs, _⟩ | ⟨x, l, c, m, n, D, Pl, hcs, _, hl, hm, hmm, _, hx⟩
  · simp at hcs
    obtain ⟨rfl, rfl, rfl⟩ := hcs
    exact ⟨[], rfl, .inl rfl, Nat.zero_le _⟩
  · simp at hcs
    obtain ⟨rfl, rfl, rfl⟩ := hcs
    simp only [if_true] at hmm
    subst hmm
    rw [c33] at hx
    have key : ∀ i, i < len → ∃ z : Ac, okAc W z ∧ W.cells? 0 (x.add (i * 4)) 4 = some z.cs := fun i hi => by
      obtain ⟨cs', hc, ht⟩ := hx i (by omega)
      obtain ⟨y0, y1, y2, y3, k, hlen, e0, e1, e2, e3⟩ := trod_st4 Try.underlying33 ht
      simp only [c3, c31, c27, c33] at e0 e1 e2 e3 hlen
      obtain ⟨p, i0, _, w0⟩ := DataW.trod_int Try.underlying3 e0
      obtain ⟨s1, i1, _, w1⟩ := DataW.trod_string Try.underlying31 e1
      obtain ⟨s2, i2, _, w2⟩ := DataW.trod_string Try.underlying31 e2
      match cs', hlen with
      | [u, v, t, b], _ =>
        simp at i0 i1 i2
        simp only [List.drop_succ_cons, List.drop_zero, List.take_succ_cons, List.take_zero] at e3
        obtain ⟨a3, n3, k3, rfl, L, b1, b2, b3⟩ := arg_nms e3
        refine ⟨⟨p, s1, s2, a3, n3, k3, L⟩, ⟨b1, b2, b3⟩, ?_⟩
        rw [hc, i0, i1, i2]; rfl
    obtain ⟨F, hF⟩ := choose_lt (α := Ac) (n := len) (p := fun i z => okAc W z ∧ W.cells? 0 (x.add (i * 4)) 4 = some z.cs) key
    refine ⟨(List.range len).map F, by simp, ?_, Nat.le_trans hl hm⟩
    by_cases h0 : len = 0
    · left; subst h0; rfl
    · obtain ⟨b, off, rfl⟩ := cell_spot (hF 0 (by omega)).2 (by omega) (by omega)
      refine .inr ⟨b, off, rfl, fun k y hy => ?_⟩
      have hk : k < len := by
        rcases Nat.lt_or_ge k len with h | h
        · exact h
        · rw [List.getElem?_eq_none (by simp; omega)] at hy; cases hy
      have hy' : F k = y := by simpa [hk] using hy
      subst hy'
      have hcl := (World.cells?_some (hF k hk).2).2.2
      have q0 := hcl 0 (by omega)
      have q1 := hcl 1 (by omega)
      have q2 := hcl 2 (by omega)
      have q3 := hcl 3 (by omega)
      rw [add_none, add_none] at q0 q1 q2 q3
      exact ⟨(hF k hk).1, by simpa [Ac.cs] using q0, by simpa [Ac.cs] using q1, by simpa [Ac.cs] using q2, by simpa [Ac.cs] using q3⟩
end Go.Proofs.Ytandbkbodlbjcaa
