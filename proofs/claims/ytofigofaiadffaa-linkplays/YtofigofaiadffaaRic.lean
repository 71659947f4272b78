/- The document's link: In: the loads that are closed, the walk's first half. -/
import Derived.Test.YtofigofaiadffaaRib
namespace Go.Proofs.Ytofigofaiadffaa
open Go.RowKit Go.ChangeShapes Go.WideShapes Go.ChangeAt Go.Deep

theorem RIS.drewN {E : Nat → Prop} {w V wr : World} {g : Nat} {k : Kc} {r : Rl} {f : Fr} {i : Nat} {a : Option Addr} {n c : Nat} (h : RIS E w V wr g k r f i a n c) (q : Nat) : RIS E w V (wr.drewN q) g k r f i a n c := by
  obtain ⟨l, h1, h2, h3, h4, h5⟩ := h
  exact ⟨l, h1.keep (fun _ _ _ => rfl), h2, h3, below_drewN h4 q, h5⟩
theorem RIS.open {E : Nat → Prop} {w V wr : World} {g : Nat} {k : Kc} {r : Rl} {f : Fr} {i : Nat} {a : Option Addr} {n c : Nat} (h : RIS E w V wr g k r f i a n c) (hi : i < r.op.length) :
    ∃ b oc t l, wr.cell? ⟨g, 7, none⟩ = some (.slice (some ⟨b, 0, none⟩) r.op.length oc) ∧ (wr.cell? ⟨b, i * 4, none⟩ = some (.int .i64 (r.op[i].sq : Nat)) ∧ wr.cell? ⟨b, i * 4 + 1, none⟩ = some (.int .i64 r.op[i].tt) ∧ wr.cell? ⟨b, i * 4 + 2, none⟩ = some (.int .i64 (r.op[i].n : Nat)) ∧ wr.cell? ⟨b, i * 4 + 3, none⟩ = some (.slice t.a t.len t.cap)) ∧
      t.bs = r.op[i].x ∧ TxO (EE E g V.heap.size) wr t ∧ RowO (EE E g V.heap.size) V.heap.size wr a n c l ∧ l.map OpM.q = ((r.op.take i).filter fun p => decide (f.ak < (p.sq : Int))).map Ro.q ∧ V.heap.size ≤ wr.heap.size ∧ ∀ ad, a = some ad → V.heap.size ≤ ad.block := by
  obtain ⟨l, h1, h2, h3, h4, h5⟩ := h
  obtain ⟨b, oc, hbg, hE, c7, hf, t, e1, e2, e3, d0, d1, d2, d3, -⟩ := (h3.below h4).load hi
  exact ⟨b, oc, t, l, c7, ⟨d0, d1, d2, d3⟩, e1, e2.mono fun j hj => ⟨.inl hj.1, hj.2⟩, h1, h2, h4.size, fun ad e => by subst e; exact (own_lt h1.2.1 _ rfl).1⟩
theorem ris_len {E : Nat → Prop} {w V wr : World} {g : Nat} {k : Kc} {r : Rl} {f : Fr} {i : Nat} {a : Option Addr} {n c : Nat} (h : RIS E w V wr g k r f i a n c) : ∃ oa oc, wr.cell? ⟨g, 7, none⟩ = some (.slice oa r.op.length oc) ∧ wr.frozen? ⟨g, 7, none⟩ = false := by
  obtain ⟨l, h1, h2, h3, h4, h5⟩ := h
  have h6 := h3.below h4
  obtain ⟨oa, on, oc, ka, kn, kc, lo, lk, hbx, hro, hrk, hlo, hlk, hEg, hlt⟩ := h6
  have HLO : on = r.op.length := by rw [← hro.1]; have := congrArg List.length hlo; simpa using this
  subst HLO
  exact ⟨oa, oc, (hbx.2 7 (by simp [lkCs])).1, (hbx.2 7 (by simp [lkCs])).2⟩
/-- The loads that stay are stored. -/
theorem ris_end {E : Nat → Prop} {w V wr : World} {g : Nat} {k : Kc} {r : Rl} {f : Fr} {a : Option Addr} {n c : Nat} {fb : Nat} {fc : List Value} (h : RIS E w V wr g k r f r.op.length a n c) (hx : BoxL V fb fc) (hgf : g ≠ fb) :
    RLk (Ex E V (wr.setCell ⟨g, 7, none⟩ (.slice a n c))) (wr.setCell ⟨g, 7, none⟩ (.slice a n c)) g k (rcloseL r f) ∧ Kp E V (wr.setCell ⟨g, 7, none⟩ (.slice a n c)) ∧ BoxL (wr.setCell ⟨g, 7, none⟩ (.slice a n c)) fb fc := by
  obtain ⟨l, h1, h2, h3, h4, h5⟩ := h
  obtain ⟨oa, on, oc, ka, kn, kc, lo, lk, hbx, hro, hrk, hlo, hlk, hEg, hlt⟩ := h3.below h4
  have hlV : ∀ j, E j → j < V.heap.size := by
    obtain ⟨_, _, _, _, _, _, _, _, -, -, -, -, -, -, h7⟩ := h3
    exact h7
  rw [List.take_length] at h2
  have hsz : (wr.setCell ⟨g, 7, none⟩ (.slice a n c)).heap.size = wr.heap.size := by simp [World.setCell]
  have hln : l.length = n := h1.1
  have hb7 := hbx.put 7 (.slice a n c)
  refine ⟨⟨a, n, c, ka, kn, kc, l, lk, by simpa [lkCs, rcloseL] using hb7, ?_, ?_, h2, hlk, .inl hEg, ?_⟩, ?_, (hx.below h4).keep (by rw [hsz]; exact Nat.le_refl _) (Below.heap_setCell _ _ _ _ (by exact fun e => hgf e.symm))⟩
  · have h6 := h1.other (grown_setCell wr g 7 (.slice a n c)) (fun ad e => by have := (h1.2.2.1 ad e).2; simpa using this) (fun z hz ad e => by have := ((h1.2.2.2 z hz).2.2 ad e).2; simpa using this)
    refine ⟨h6.1, own_base h6.2.1 (Nat.zero_le _), fun ad e => ?_, fun z hz => ?_⟩
    · have h7 := h1.2.2.1 ad e
      have h8 := (own_lt h6.2.1 ad e).2
      exact ⟨h7.1.elim .inl fun h => .inr ⟨h, h8⟩, h7.2⟩
    · have h7 := h6.2.2.2 z hz
      exact ⟨h7.1, h7.2.1, fun ad e => ⟨(h7.2.2 ad e).1.elim .inl fun h => .inr ⟨h, h7.lt ad e⟩, (h7.2.2 ad e).2⟩⟩
  · have h6 : RowK (fun j => E j ∧ j ≠ g) 0 (wr.setCell ⟨g, 7, none⟩ (.slice a n c)) ka kn kc lk := hrk.keep fun j hj _ => Below.heap_setCell _ _ _ _ hj.2
    exact h6.mono (fun j hj => ⟨.inl hj.1, hj.2⟩) (Nat.le_refl _)
  · intro j hj
    rw [hsz]
    have h9 := h4.size
    exact hj.elim (fun h => by have := hlV j h; omega) fun h => by rw [hsz] at h; exact h.2
  · exact ⟨h4.os, h4.tape, h4.output, by rw [hsz]; exact h4.size, fun j hj hn => (Below.heap_setCell _ _ _ _ (by show j ≠ g; intro e; exact hn (e ▸ hEg))).trans (h4.block j hj)⟩
end Go.Proofs.Ytofigofaiadffaa
