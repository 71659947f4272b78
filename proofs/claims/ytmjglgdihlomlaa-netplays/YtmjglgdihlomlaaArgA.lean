/- Arguments that are rows of acts. -/
import Derived.Test.YtmjglgdihlomlaaArgP
namespace Go.Proofs.Ytmjglgdihlomlaa
open Go.ChangeShapes Go.WideShapes Go.ChangeAt Go.RowKit Go.Deep

section
variable {H : Type} {enc : TypeId × Value → H} {P : Program} {w : World} {base : Nat} {spare : Nat → Bool} {held : Bool}
theorem trod_struct5 {t : TypeId} {f0 f1 f2 f3 f4 : Field} {fuel : Nat} {cs : List Value} {x : DataW H × List MemPlace} (ht : P.underlying t = some (.struct #[f0, f1, f2, f3, f4])) (h : DataW.trod enc P w base spare held fuel t cs = some x) :
    ∃ y0 y1 y2 y3 y4 n, cs.length = P.cellsOf t ∧ DataW.trod enc P w base spare held n f0.type ((cs.drop f0.offset).take (P.cellsOf f0.type)) = some y0 ∧ DataW.trod enc P w base spare held n f1.type ((cs.drop f1.offset).take (P.cellsOf f1.type)) = some y1 ∧ DataW.trod enc P w base spare held n f2.type ((cs.drop f2.offset).take (P.cellsOf f2.type)) = some y2 ∧ DataW.trod enc P w base spare held n f3.type ((cs.drop f3.offset).take (P.cellsOf f3.type)) = some y3 ∧ DataW.trod enc P w base spare held n f4.type ((cs.drop f4.offset).take (P.cellsOf f4.type)) = some y4 := by
  obtain ⟨xs, n, _, rfl, hl, hlen, hf⟩ := DataW.trod_struct ht h
  match xs, hlen with
  | [y0, y1, y2, y3, y4], _ => exact ⟨y0, y1, y2, y3, y4, n, hl, by simpa using hf 0 f0 rfl, by simpa using hf 1 f1 rfl, by simpa using hf 2 f2 rfl, by simpa using hf 3 f3 rfl, by simpa using hf 4 f4 rfl⟩
end
instance : Inhabited Am := ⟨⟨0, 0, 0, none, 0, 0, [], none, 0, 0, []⟩⟩
/-- What is known of an act's numbers. -/
def wfA (x : Am) : Prop := (Lit.int .i64 x.wy).wf = true ∧ (Lit.int .i64 x.k).wf = true ∧ (Lit.int .i64 x.b).wf = true ∧ (∀ y ∈ x.l, wfP y.p) ∧ In64 x.ns
def okAct (W : World) (x : Am) : Prop := RowP (OldB W) W x.a x.n x.c x.l ∧ x.ns.length = x.m ∧ (x.d = none → x.m = 0 ∧ x.e = 0) ∧ Reads W x.d (iV x.ns) ∧ ∀ ad, x.d = some ad → 0 < x.m → OldB W ad.block
theorem aV_of {f : Nat → Option Value} {l : List Am} (h : ∀ k (hk : k < l.length), f (5 * k) = some (.int .i64 l[k].wy) ∧ f (5 * k + 1) = some (.int .i64 l[k].k) ∧ f (5 * k + 2) = some (.int .i64 l[k].b) ∧ f (5 * k + 3) = some (.slice l[k].a l[k].n l[k].c) ∧ f (5 * k + 4) = some (.slice l[k].d l[k].m l[k].e)) : ∀ j u, (aV l)[j]? = some u → f j = some u := by
  intro j u hu
  have hlen : (aV l).length = l.length * 5 := by
    clear h hu
    induction l with
    | nil => rfl
    | cons a r ih => show (Am.cs a ++ aV r).length = _; simp [ih, Am.cs]; omega
  have hj : j < l.length * 5 := by
    have := (List.getElem?_eq_some_iff.1 hu).1
    rw [hlen] at this; exact this
  have hk : j / 5 < l.length := by omega
  have h1 := h _ hk
  have h2 := aV_at l _ hk
  have hd : j = 5 * (j / 5) ∨ j = 5 * (j / 5) + 1 ∨ j = 5 * (j / 5) + 2 ∨ j = 5 * (j / 5) + 3 ∨ j = 5 * (j / 5) + 4 := by omega
  rcases hd with e | e | e | e | e
  · rw [e] at hu ⊢; rw [h2.1] at hu; rw [h1.1]; exact hu
  · rw [e] at hu ⊢; rw [h2.2.1] at hu; rw [h1.2.1]; exact hu
  · rw [e] at hu ⊢; rw [h2.2.2.1] at hu; rw [h1.2.2.1]; exact hu
  · rw [e] at hu ⊢; rw [h2.2.2.2.1] at hu; rw [h1.2.2.2.1]; exact hu
  · rw [e] at hu ⊢; rw [h2.2.2.2.2] at hu; rw [h1.2.2.2.2]; exact hu
theorem arg_acts {H : Type} {enc : TypeId × Value → H} {W : World} {fuel : Nat} {a : Option Addr} {len cap : Nat} {x : DataW H × List MemPlace} (h : DataW.trod enc Try.prog W 0 (fun _ => true) true fuel 22 [.slice a len cap] = some x) :
    ∃ l : List Am, RowA (OldB W) W a len l ∧ (len ≤ cap ∧ cap ≤ maxLen) ∧ ∀ y ∈ l, wfA y := by
  have c3 : Try.prog.cellsOf 3 = 1 := by kernel_rfl
  have c28 : Try.prog.cellsOf 28 = 1 := by kernel_rfl
  have c31 : Try.prog.cellsOf 31 = 1 := by kernel_rfl
  have c33 : Try.prog.cellsOf 33 = 5 := by kernel_rfl
  rcases open_slice Try.underlying22 h with ⟨hcs, _⟩ | ⟨x, l, c, m, n, D, Pl, hcs, _, hl, hm, hmm, _, hx⟩
  · simp at hcs
    obtain ⟨rfl, rfl, rfl⟩ := hcs
    exact ⟨[], ⟨rfl, .inl rfl, (fun ad e => by cases e), (fun x hx => by cases hx)⟩, ⟨Nat.le_refl _, Nat.zero_le _⟩, fun x hx => by cases hx⟩
  · simp at hcs
    obtain ⟨rfl, rfl, rfl⟩ := hcs
    simp only [if_true] at hmm
    subst hmm
    rw [c33] at hx
    have key : ∀ i, i < len → ∃ z : Am, (okAct W z ∧ wfA z) ∧ W.cells? 0 (x.add (i * 5)) 5 = some z.cs := fun i hi => by
      obtain ⟨cs', hc, ht⟩ := hx i (by omega)
      obtain ⟨y0, y1, y2, y3, y4, k, hlen, e0, e1, e2, e3, e4⟩ := trod_struct5 Try.underlying33 ht
      simp only [c3, c28, c31, c33] at e0 e1 e2 e3 e4 hlen
      obtain ⟨p, i0, _, w0⟩ := DataW.trod_int Try.underlying3 e0
      obtain ⟨q, i1, _, w1⟩ := DataW.trod_int Try.underlying3 e1
      obtain ⟨r, i2, _, w2⟩ := DataW.trod_int Try.underlying3 e2
      match cs', hlen with
      | [u, v, t, b, d], _ =>
        simp at i0 i1 i2
        simp only [List.drop_succ_cons, List.drop_zero, List.take_succ_cons, List.take_zero] at e3 e4
        have hs : ∃ a l c, b = Value.slice a l c := by
          rcases open_slice Try.underlying28 e3 with ⟨hcs, _⟩ | ⟨x, l, c, m, n, D, Pl, hcs, _⟩
          · exact ⟨none, 0, 0, by simpa using hcs⟩
          · exact ⟨some x, l, c, by simpa using hcs⟩
        have hs2 : ∃ a l c, d = Value.slice a l c := by
          rcases open_slice Try.underlying31 e4 with ⟨hcs, _⟩ | ⟨x, l, c, m, n, D, Pl, hcs, _⟩
          · exact ⟨none, 0, 0, by simpa using hcs⟩
          · exact ⟨some x, l, c, by simpa using hcs⟩
        obtain ⟨a2, l2, k2, rfl⟩ := hs
        obtain ⟨a3, l3, k3, rfl⟩ := hs2
        obtain ⟨pl, hp1, hp2⟩ := arg_parcels e3
        obtain ⟨ns, b1, b2, b3, b4, b5⟩ := arg_ints (d := y4.1) (p := y4.2) Try.underlying31 Try.underlying3 (by kernel_rfl) ⟨k, e4⟩
        refine ⟨⟨p, q, r, a2, l2, k2, pl, a3, l3, k3, ns⟩, ⟨⟨hp1, b1, b4.2, b5, fun ad e h0 => b5.lt ad e (by rw [iV_len]; simp only at h0 ⊢; omega)⟩, w0, w1, w2, hp2, b2⟩, ?_⟩
        rw [hc, i0, i1, i2]; rfl
    obtain ⟨F, hF⟩ := choose_lt (α := Am) (n := len) (p := fun i z => (okAct W z ∧ wfA z) ∧ W.cells? 0 (x.add (i * 5)) 5 = some z.cs) key
    have hrd : Reads W (some x) (aV ((List.range len).map F)) := by
      by_cases h0 : len = 0
      · left; subst h0; simp [aV]
      · obtain ⟨b, off, rfl⟩ := cell_spot (hF 0 (by omega)).2 (by omega) (by omega)
        refine .inr ⟨b, off, rfl, aV_of (f := fun j => W.cell? ⟨b, off + j, none⟩) (fun k hk => ?_)⟩
        simp only [List.length_map, List.length_range] at hk
        have hcl := (World.cells?_some (hF k hk).2).2.2
        have q0 := hcl 0 (by omega)
        have q1 := hcl 1 (by omega)
        have q2 := hcl 2 (by omega)
        have q3 := hcl 3 (by omega)
        have q4 := hcl 4 (by omega)
        rw [add_none, add_none] at q0 q1 q2 q3 q4
        simp only [List.getElem_map, List.getElem_range]
        refine ⟨?_, ?_, ?_, ?_, ?_⟩
        · rw [show off + 5 * k = off + k * 5 + 0 by omega, q0]; rfl
        · rw [show off + (5 * k + 1) = off + k * 5 + 1 by omega, q1]; rfl
        · rw [show off + (5 * k + 2) = off + k * 5 + 2 by omega, q2]; rfl
        · rw [show off + (5 * k + 3) = off + k * 5 + 3 by omega, q3]; rfl
        · rw [show off + (5 * k + 4) = off + k * 5 + 4 by omega, q4]; rfl
    refine ⟨(List.range len).map F, ⟨by simp, hrd, fun ad e h0 => hrd.lt ad e ?_, fun z hz => ?_⟩, ⟨hl, hm⟩, fun z hz => ?_⟩
    · obtain ⟨m, rfl⟩ : ∃ m, len = m + 1 := ⟨len - 1, by omega⟩
      simp [aV, Am.cs, List.range_succ]
    · obtain ⟨i, hi, rfl⟩ := List.mem_map.1 hz
      exact (hF i (by simpa using hi)).1.1
    · obtain ⟨i, hi, rfl⟩ := List.mem_map.1 hz
      exact (hF i (by simpa using hi)).1.2
end Go.Proofs.Ytmjglgdihlomlaa
