/- The document's link: In: what is owed, what is kept. -/
import Derived.Test.YtofigofaiadffaaRic
namespace Go.Proofs.Ytofigofaiadffaa
open Go.RowKit Go.ChangeShapes Go.WideShapes Go.ChangeAt Go.Deep

/-- In's memory behind the closing. -/
def RI2 (E : Nat → Prop) (V W : World) (g : Nat) (k : Kc) (r : Rl) (fb : Nat) (fc : List Value) : Prop := RLk (Ex E V W) W g k r ∧ Kp E V W ∧ BoxL W fb fc ∧ E g ∧ g ≠ fb
theorem ri2_owed {E : Nat → Prop} {V W : World} {g : Nat} {k : Kc} {r : Rl} {fb : Nat} {fc : List Value} (h : RI2 E V W g k r fb fc) (x : Bool) : RI2 E V (W.setCell ⟨g, 9, none⟩ (.bool x)) g k { r with ow := x } fb fc := by
  have hs : (W.setCell ⟨g, 9, none⟩ (.bool x)).heap.size = W.heap.size := by simp [World.setCell]
  have h1 := h.1.owed x
  have hlt : ∀ j, Ex E V W j → j < W.heap.size := by
    obtain ⟨_, _, _, _, _, _, _, _, -, -, -, -, -, -, h7⟩ := h.1
    exact h7
  refine ⟨h1.mono (fun j hj => hj.elim .inl fun h3 => .inr ⟨h3.1, by rw [hs]; exact h3.2⟩) (fun j hj => by rw [hs]; exact hlt j (hj.elim .inl fun h3 => .inr ⟨h3.1, by rw [hs] at h3; exact h3.2⟩)), h.2.1.put (.inl h.2.2.2.1) _, h.2.2.1.keep (by rw [hs]; exact Nat.le_refl _) (Below.heap_setCell _ _ _ _ (by exact fun e => h.2.2.2.2 e.symm)), h.2.2.2⟩
theorem ri2_drewN {E : Nat → Prop} {V W : World} {g : Nat} {k : Kc} {r : Rl} {fb : Nat} {fc : List Value} (h : RI2 E V W g k r fb fc) (q : Nat) : RI2 E V (W.drewN q) g k r fb fc :=
  ⟨h.1.keep (Nat.le_refl _) (fun _ _ => rfl), ⟨h.2.1.os, h.2.1.tape, h.2.1.output, h.2.1.size, h.2.1.block⟩, h.2.2.1.keep (Nat.le_refl _) rfl, h.2.2.2⟩
/-- A load that is kept. -/
theorem RLk.kept {E : Nat → Prop} {w : World} {g i : Nat} {k : Kc} {r : Rl} (h : RLk E w g k r) (hi : i < r.kp.length) : ∃ b kc, w.cell? ⟨g, 8, none⟩ = some (.slice (some ⟨b, 0, none⟩) r.kp.length kc) ∧ ∃ t : Txt, t.bs = r.kp[i].2 ∧ TxO (fun j => E j ∧ j ≠ g) w t ∧ w.cell? ⟨b, i * 2, none⟩ = some (.int .i64 (r.kp[i].1 : Nat)) ∧ w.cell? ⟨b, i * 2 + 1, none⟩ = some (.slice t.a t.len t.cap) := by
  obtain ⟨oa, on, oc, ka, kn, kc, lo, lk, hbx, hro, hrk, hlo, hlk, hEg, hlt⟩ := h
  have HLO : kn = r.kp.length := by rw [← hrk.1]; have := congrArg List.length hlk; simpa using this
  subst HLO
  obtain ⟨b, rfl, hb, hE⟩ := hrk.isAt (by omega)
  have hil : i < lk.length := by rw [hrk.1]; exact hi
  obtain ⟨y0, y1⟩ := hrk.at hil
  have e : lk[i].q = kq r.kp[i] := by
    have h5 : (lk.map KpM.q)[i]? = (r.kp.map kq)[i]? := by rw [hlk]
    simpa [hil, hi] using h5
  simp only [KpM.q, kq, Prod.mk.injEq] at e
  rw [e.1] at y0
  exact ⟨b, kc, (hbx.2 8 (by simp [lkCs])).1, lk[i].t, e.2, hrk.2.2.2 lk[i] (List.getElem_mem _), y0, y1⟩
theorem RLk.keptN {E : Nat → Prop} {w : World} {g : Nat} {k : Kc} {r : Rl} (h : RLk E w g k r) : ∃ ka kc, w.cell? ⟨g, 8, none⟩ = some (.slice ka r.kp.length kc) ∧ w.frozen? ⟨g, 8, none⟩ = false := by
  obtain ⟨oa, on, oc, ka, kn, kc, lo, lk, hbx, hro, hrk, hlo, hlk, hEg, hlt⟩ := h
  have HLO : kn = r.kp.length := by rw [← hrk.1]; have := congrArg List.length hlk; simpa using this
  subst HLO
  exact ⟨ka, kc, (hbx.2 8 (by simp [lkCs])).1, (hbx.2 8 (by simp [lkCs])).2⟩
theorem look_none {m : Nat} {l : List (Nat × List Nat)} (h : ∀ j (hj : j < l.length), l[j].1 ≠ m) : look m l = none := by
  induction l with
  | nil => rfl
  | cons y ys ih =>
    unfold look
    have h0 : y.1 ≠ m := h 0 (by simp)
    rw [if_neg h0]
    exact ih fun j hj => h (j + 1) (by simpa using hj)
theorem look_some {m i : Nat} {l : List (Nat × List Nat)} (hi : i < l.length) (h : l[i].1 = m) : (look m l).isSome = true := by
  induction l generalizing i with
  | nil => simp at hi
  | cons y ys ih =>
    unfold look
    split
    · rfl
    · rename_i hne
      cases i with
      | zero => exact absurd h hne
      | succ i => exact ih (by simpa using hi) (by simpa using h)
end Go.Proofs.Ytofigofaiadffaa
