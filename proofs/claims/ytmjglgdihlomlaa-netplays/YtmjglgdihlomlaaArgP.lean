/- Arguments that are rows of parcels. -/
import Derived.Test.YtmjglgdihlomlaaGoA
import Derived.WalkKit
import Derived.ProofKit
import Derived.OpenShut
import Derived.ChangeOld
import Derived.Below
import Derived.Deep.Fields
import Derived.Deep.Grids
import Derived.Deep.Strs
namespace Go.Proofs.Ytmjglgdihlomlaa
open Go.ChangeShapes Go.WideShapes Go.ChangeAt Go.RowKit Go.Deep

theorem cell_spot {W : World} {x : Addr} {k n : Nat} {cs : List Value} (h : W.cells? 0 (x.add k) n = some cs) (hk : k = 0) (hn : 0 < n) : ∃ b off, x = ⟨b, off, none⟩ := by
  obtain ⟨_, hl, hc⟩ := World.cells?_some h
  have h0 := hc 0 hn
  rw [List.getElem?_eq_getElem (by omega)] at h0
  obtain ⟨b, off, sp⟩ := x
  subst hk
  have : sp = none := by simpa [Addr.add] using World.cell?_spot h0
  subst this
  exact ⟨b, off, rfl⟩
theorem Reads.lt {W : World} {a : Option Addr} {xs : List Value} (h : Reads W a xs) : ∀ ad, a = some ad → 0 < xs.length → ad.block < W.heap.size := by
  intro ad e h0
  rcases h with h | ⟨b, off, e1, h⟩
  · rw [h] at h0; simp at h0
  · rw [e] at e1
    simp only [Option.some.injEq] at e1
    subst e1
    exact cell_some_lt (h 0 _ (List.getElem?_eq_getElem h0))
instance : Inhabited Pm := ⟨⟨(0, 0, []), none, 0, 0⟩⟩
def OldB (W : World) (k : Nat) : Prop := k < W.heap.size
theorem arg_parcels {H : Type} {enc : TypeId × Value → H} {W : World} {fuel : Nat} {a : Option Addr} {len cap : Nat} {x : DataW H × List MemPlace} (h : DataW.trod enc Try.prog W 0 (fun _ => true) true fuel 28 [.slice a len cap] = some x) :
    ∃ l : List Pm, RowP (OldB W) W a len cap l ∧ ∀ y ∈ l, wfP y.p := by
  have c3 : Try.prog.cellsOf 3 = 1 := by kernel_rfl
  have c35 : Try.prog.cellsOf 35 = 1 := by kernel_rfl
  have c37 : Try.prog.cellsOf 37 = 3 := by kernel_rfl
  rcases open_slice Try.underlying28 h with ⟨hcs, _⟩ | ⟨x, l, c, m, n, D, Pl, hcs, _, hl, hm, hmm, _, hx⟩
  · simp at hcs
    obtain ⟨rfl, rfl, rfl⟩ := hcs
    exact ⟨[], ⟨rfl, ⟨Nat.le_refl _, Nat.zero_le _⟩, fun _ => ⟨rfl, rfl⟩, .inl rfl, (fun ad e => by cases e), (fun x hx => by cases hx)⟩, fun x hx => by cases hx⟩
  · simp at hcs
    obtain ⟨rfl, rfl, rfl⟩ := hcs
    simp only [if_true] at hmm
    subst hmm
    rw [c37] at hx
    have key : ∀ i, i < len → ∃ z : Pm, (z.okA (OldB W) W ∧ wfP z.p) ∧ W.cells? 0 (x.add (i * 3)) 3 = some z.cs := fun i hi => by
      obtain ⟨cs', hc, ht⟩ := hx i (by omega)
      obtain ⟨y0, y1, y2, k, _, hlen, e0, e1, e2⟩ := trod_struct3 Try.underlying37 ht
      simp only [c3, c35, c37] at e0 e1 e2 hlen
      obtain ⟨p, i0, _, w0⟩ := DataW.trod_int Try.underlying3 e0
      obtain ⟨q, i1, _, w1⟩ := DataW.trod_int Try.underlying3 e1
      match cs', hlen with
      | [u, v, b], _ =>
        simp at i0 i1
        simp only [List.drop_succ_cons, List.drop_zero, List.take_succ_cons, List.take_zero] at e2
        have hs : ∃ a l c, b = Value.slice a l c := by
          rcases open_slice Try.underlying35 e2 with ⟨hcs, _⟩ | ⟨x, l, c, m, n, D, Pl, hcs, _⟩
          · exact ⟨none, 0, 0, by simpa using hcs⟩
          · exact ⟨some x, l, c, by simpa using hcs⟩
        obtain ⟨a2, l2, k2, rfl⟩ := hs
        obtain ⟨bs, b1, b2, b3, b4, b5⟩ := arg_bytes (d := y2.1) (p := y2.2) Try.underlying35 Try.underlying5 (by kernel_rfl) ⟨k, e2⟩
        refine ⟨⟨(p, q, bs), a2, l2, k2⟩, ⟨⟨b1, b2, ⟨b3, b4.1⟩, b4.2, b5, fun ad e h0 => b5.lt ad e (by rw [bV_length]; simp only at h0 ⊢; omega)⟩, w0, w1⟩, ?_⟩
        rw [hc, i0, i1]; rfl
    obtain ⟨F, hF⟩ := choose_lt (α := Pm) (n := len) (p := fun i z => (z.okA (OldB W) W ∧ wfP z.p) ∧ W.cells? 0 (x.add (i * 3)) 3 = some z.cs) key
    have hrd : Reads W (some x) (cV ((List.range len).map F)) := by
      by_cases h0 : len = 0
      · left; subst h0; simp [cV]
      · obtain ⟨b, off, rfl⟩ := cell_spot (hF 0 (by omega)).2 (by omega) (by omega)
        refine .inr ⟨b, off, rfl, cV_of (f := fun j => W.cell? ⟨b, off + j, none⟩) (fun k hk => ?_)⟩
        simp only [List.length_map, List.length_range] at hk
        have hcl := (World.cells?_some (hF k hk).2).2.2
        have q0 := hcl 0 (by omega)
        have q1 := hcl 1 (by omega)
        have q2 := hcl 2 (by omega)
        rw [add_none, add_none] at q0 q1 q2
        simp only [List.getElem_map, List.getElem_range]
        refine ⟨?_, ?_, ?_⟩
        · rw [show off + 3 * k = off + k * 3 + 0 by omega, q0]; rfl
        · rw [show off + (3 * k + 1) = off + k * 3 + 1 by omega, q1]; rfl
        · rw [show off + (3 * k + 2) = off + k * 3 + 2 by omega, q2]; rfl
    refine ⟨(List.range len).map F, ⟨by simp, ⟨hl, hm⟩, (fun h => by cases h), hrd, fun ad e h0 => hrd.lt ad e (by rw [cV_len]; simp; omega), fun z hz => ?_⟩, fun z hz => ?_⟩
    · obtain ⟨i, hi, rfl⟩ := List.mem_map.1 hz
      exact (hF i (by simpa using hi)).1.1
    · obtain ⟨i, hi, rfl⟩ := List.mem_map.1 hz
      exact (hF i (by simpa using hi)).1.2
end Go.Proofs.Ytmjglgdihlomlaa
