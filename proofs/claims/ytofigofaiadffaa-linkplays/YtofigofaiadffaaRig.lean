/- The document's link: In: a load comes out in order. -/
import Derived.Test.YtofigofaiadffaaRif
namespace Go.Proofs.Ytofigofaiadffaa
open Go.RowKit Go.ChangeShapes Go.WideShapes Go.ChangeAt Go.Deep

theorem ri2_lt {E : Nat → Prop} {V W : World} {g : Nat} {k : Kc} {r : Rl} {fb : Nat} {fc : List Value} (h : RI2 E V W g k r fb fc) : ∀ j, Ex E V W j → j < W.heap.size := by
  obtain ⟨_, _, _, _, _, _, _, _, -, -, -, -, -, -, h7⟩ := h.1
  exact h7
theorem ri2_below {E : Nat → Prop} {V W X : World} {g : Nat} {k : Kc} {r : Rl} {fb : Nat} {fc : List Value} (h : RI2 E V W g k r fb fc) (hb : Below W.heap.size W X) : RI2 E V X g k r fb fc := by
  have hlt := ri2_lt h
  exact ⟨(h.1.below hb).mono (fun j hj => hj.elim .inl fun h3 => .inr ⟨h3.1, Nat.lt_of_lt_of_le h3.2 hb.size⟩) (fun j hj => hj.elim (fun h3 => Nat.lt_of_lt_of_le (hlt j (.inl h3)) hb.size) fun h3 => h3.2), h.2.1.below hb, h.2.2.1.below hb, h.2.2.2⟩
/-- How many came is stored. -/
theorem ri2_all {E : Nat → Prop} {V W : World} {g : Nat} {k : Kc} {r : Rl} {fb : Nat} {fc : List Value} (h : RI2 E V W g k r fb fc) (c : Nat) : RI2 E V (W.setCell ⟨g, 6, none⟩ (.int .i64 (c : Nat))) g k { r with all := c } fb fc := by
  have hlt := ri2_lt h
  have hs : (W.setCell ⟨g, 6, none⟩ (.int .i64 (c : Nat))).heap.size = W.heap.size := by simp [World.setCell]
  have h1 : RLk (Ex E V W) (W.setCell ⟨g, 6, none⟩ (.int .i64 (c : Nat))) g k { r with all := c } := by
    obtain ⟨oa, on, oc, ka, kn, kc, lo, lk, h1, h2, h3, h4, h5, h6, h7⟩ := h.1
    have hb := h1.put 6 (.int .i64 (c : Nat))
    exact ⟨oa, on, oc, ka, kn, kc, lo, lk, by simpa [lkCs] using hb, h2.keep (fun j hj _ => Below.heap_setCell _ _ _ _ hj.2), h3.keep (fun j hj _ => Below.heap_setCell _ _ _ _ hj.2), h4, h5, h6, fun j hj => by rw [hs]; exact h7 j hj⟩
  exact ⟨h1.mono (fun j hj => hj.elim .inl fun h3 => .inr ⟨h3.1, by rw [hs]; exact h3.2⟩) (fun j hj => by rw [hs]; exact hlt j (hj.elim .inl fun h3 => .inr ⟨h3.1, by rw [hs] at h3; exact h3.2⟩)), h.2.1.put (.inl h.2.2.2.1) _, h.2.2.1.keep (by rw [hs]; exact Nat.le_refl _) (Below.heap_setCell _ _ _ _ (by exact fun e => h.2.2.2.2 e.symm)), h.2.2.2⟩
/-- A row of texts grows: the link has nothing there. -/
theorem ri2_grown {E : Nat → Prop} {V W w1 : World} {g : Nat} {k : Kc} {r : Rl} {fb : Nat} {fc : List Value} {a : Option Addr} {n c n' : Nat} {xs : List Value} (h : RI2 E V W g k r fb fc) (hE : ∀ j, E j → j < fb) (hV : fb < V.heap.size) (ho : W.ownsRow V.heap.size 32 1 (.slice a n c) n' xs) (hg : W.grownBy w1 (Value.slice a n c).ownBlock) : RI2 E V w1 g k r fb fc := by
  have hlt := ri2_lt h
  obtain ⟨⟨oa, on, oc, ka, kn, kc, lo, lk, hbx, hro, hrk, hlo, hlk, hEg, hlt'⟩, hkp, hbf, hg0, hgf⟩ := h
  have hgl : g < fb := hE g hg0
  have hgr : ∀ j, j < W.heap.size → (∀ ad, a = some ad → ad.block ≠ j) → w1.heap[j]? = W.heap[j]? := fun j hj h => hg.block j hj (fun e => by
    cases a with
    | none => simp [Value.ownBlock] at e
    | some ad => simp only [Value.ownBlock, Option.some.injEq] at e; exact h ad rfl e.symm)
  have hlo' : ∀ j, j < V.heap.size → j < W.heap.size → w1.heap[j]? = W.heap[j]? := fun j hj hl => hgr j hl (fun ad e => by subst e; have := (own_lt ho _ rfl).1; omega)
  have hset : ∀ j, Ex E V W j → Ex E V w1 j := fun j hj => hj.elim .inl fun h3 => .inr ⟨h3.1, Nat.lt_of_lt_of_le h3.2 hg.size⟩
  refine ⟨⟨oa, on, oc, ka, kn, kc, lo, lk, hbx.keep hg.size (hlo' g (by omega) hbx.1), ?_, ?_, hlo, hlk, .inl hg0, fun j hj => hj.elim (fun h3 => by have := hlt j (.inl h3); have := hg.size; omega) fun h3 => h3.2⟩, ⟨hg.os.trans hkp.os, hg.tape.trans hkp.tape, hg.output.trans hkp.output, Nat.le_trans hkp.size hg.size, fun j hj hn => (hlo' j hj (Nat.lt_of_lt_of_le hj hkp.size)).trans (hkp.block j hj hn)⟩, hbf.keep hg.size (hlo' fb hV hbf.1), hg0, hgf⟩
  · exact ⟨hro.1, own_keep hro.2.1 fun ad e => hgr _ (own_lt hro.2.1 ad e).2 (fun ad2 e2 => own_apart ho hro.2.1 (by decide) ad2 ad e2 e), fun ad e => ⟨hset _ (hro.2.2.1 ad e).1, (hro.2.2.1 ad e).2⟩, fun z hz => ((hro.2.2.2 z hz).keep fun ad e => hgr _ ((hro.2.2.2 z hz).lt ad e) (fun ad2 e2 => own_apart ho (hro.2.2.2 z hz).2.1 (by decide) ad2 ad e2 e)).mono fun j hj => ⟨hset j hj.1, hj.2⟩⟩
  · exact ⟨hrk.1, own_keep hrk.2.1 fun ad e => hgr _ (own_lt hrk.2.1 ad e).2 (fun ad2 e2 => own_apart ho hrk.2.1 (by decide) ad2 ad e2 e), fun ad e => ⟨hset _ (hrk.2.2.1 ad e).1, (hrk.2.2.1 ad e).2⟩, fun z hz => ((hrk.2.2.2 z hz).keep fun ad e => hgr _ ((hrk.2.2.2 z hz).lt ad e) (fun ad2 e2 => own_apart ho (hrk.2.2.2 z hz).2.1 (by decide) ad2 ad e2 e)).mono fun j hj => ⟨hset j hj.1, hj.2⟩⟩
/-- One of those that are kept is taken out. -/
theorem rsp_mid {E : Nat → Prop} {V W : World} {g i : Nat} {k : Kc} {r : Rl} {fb : Nat} {fc : List Value} (h : RI2 E V W g k r fb fc) (hi : i < r.kp.length) :
    ∃ (b kc : Nat) (lk : List KpM), lk.length = r.kp.length ∧ W.cell? ⟨g, 8, none⟩ = some (.slice (some ⟨b, 0, none⟩) r.kp.length kc) ∧ W.frozen? ⟨g, 8, none⟩ = false ∧
      (∀ X, Below W.heap.size W X → Reads X (some ⟨b, (i + 1) * 2, none⟩) (krV (lk.drop (i + 1))) ∧ Reads X (some ⟨b, 0, none⟩) (krV (lk.take i))) ∧ r.kp.length ≤ kc ∧ kc ≤ maxLen ∧
      (∀ (X : World) (a4 : Option Addr) (m c4 : Nat), Below W.heap.size W X → X.ownsRow W.heap.size 92 2 (.slice a4 m c4) m (krV (lk.take i ++ lk.drop (i + 1))) → m + 1 = r.kp.length → RI2 E V (X.setCell ⟨g, 8, none⟩ (.slice a4 m c4)) g k { r with kp := r.kp.eraseIdx i } fb fc) := by
  have hlt := ri2_lt h
  have h' := h
  obtain ⟨⟨oa, on, oc, ka, kn, kc, lo, lk, hbx, hro, hrk, hlo, hlk, hEg, hlt'⟩, hkp, hbf, hg, hgf⟩ := h
  have HLO : kn = r.kp.length := by rw [← hrk.1]; have := congrArg List.length hlk; simpa using this
  subst HLO
  obtain ⟨b, rfl, hb, hE⟩ := hrk.isAt (by omega)
  have hcap : r.kp.length ≤ kc ∧ kc ≤ maxLen := by
    rcases hrk.2.1.2 with ⟨e, h1⟩ | ⟨g', cap, cur, e, h1, h2, h3, h4, h5, h6⟩
    · cases e
    · simp only [Value.slice.injEq] at e
      rw [e.2.2]
      exact ⟨h3, h4⟩
  refine ⟨b, kc, lk, hrk.1, (hbx.2 8 (by simp [lkCs])).1, (hbx.2 8 (by simp [lkCs])).2, fun X hX => ?_, hcap.1, hcap.2, fun X a4 m c4 hX ho hm => ?_⟩
  · have h1 : RowK (fun j => Ex E V W j ∧ j ≠ g) 0 X (some ⟨b, 0, none⟩) r.kp.length kc lk := hrk.below hX
    have h2 := h1.part (i := i + 1) (j := lk.length)
    have h3 := h1.part (i := 0) (j := i)
    rw [List.take_of_length_le (by simp)] at h2
    rw [Nat.zero_mul, List.drop_zero] at h3
    exact ⟨h2, h3⟩
  · have hsz : (X.setCell ⟨g, 8, none⟩ (.slice a4 m c4)).heap.size = X.heap.size := by simp [World.setCell]
    have hX2 := ri2_below h' hX
    have hbx2 := (hbx.below hX).put 8 (.slice a4 m c4)
    have hnew : ∀ ad, a4 = some ad → W.heap.size ≤ ad.block ∧ ad.block < X.heap.size := fun ad e => by subst e; exact own_lt ho _ rfl
    have hgl := hbx.1
    have hVW := hkp.size
    have hk : ∀ j, j ≠ g → (X.setCell ⟨g, 8, none⟩ (.slice a4 m c4)).heap[j]? = X.heap[j]? := fun j hj => Below.heap_setCell _ _ _ _ (by exact hj)
    have hset : ∀ j, Ex E V W j → Ex E V (X.setCell ⟨g, 8, none⟩ (.slice a4 m c4)) j := fun j hj => hj.elim .inl fun h3 => .inr ⟨h3.1, by rw [hsz]; exact Nat.lt_of_lt_of_le h3.2 hX.size⟩
    have hro2 : RowO (fun j => Ex E V W j ∧ j ≠ g) 0 X oa on oc lo := hro.below hX
    have hrk2 : RowK (fun j => Ex E V W j ∧ j ≠ g) 0 X (some ⟨b, 0, none⟩) r.kp.length kc lk := hrk.below hX
    refine ⟨⟨oa, on, oc, a4, m, c4, lo, lk.take i ++ lk.drop (i + 1), by simpa [lkCs] using hbx2, ?_, ?_, hlo, ?_, .inl hg, ?_⟩, hX2.2.1.put (.inl hg) _, hX2.2.2.1.keep (by rw [hsz]; exact Nat.le_refl _) (hk fb (fun e => hgf e.symm)), hg, hgf⟩
    · exact (hro2.keep fun j hj _ => hk j hj.2).mono (fun j hj => ⟨hset j hj.1, hj.2⟩) (Nat.le_refl _)
    · refine ⟨by have := hrk.1; simp; omega, own_keep (own_base ho (Nat.zero_le _)) fun ad e => hk _ (by have := hnew ad e; omega), fun ad e => ⟨.inr ⟨by have := hnew ad e; omega, by rw [hsz]; exact (hnew ad e).2⟩, by have := hnew ad e; show ad.block ≠ g; omega⟩, fun z hz => ?_⟩
      have hz' : z ∈ lk := by
        rcases List.mem_append.1 hz with h1 | h1
        · exact List.mem_of_mem_take h1
        · exact List.mem_of_mem_drop h1
      exact ((hrk2.2.2.2 z hz').keep fun ad e => hk _ ((hrk2.2.2.2 z hz').2.2 ad e).2).mono fun j hj => ⟨hset j hj.1, hj.2⟩
    · rw [List.map_append, List.map_take, List.map_drop, hlk, List.eraseIdx_eq_take_drop_succ, List.map_append, List.map_take, List.map_drop]
    · intro j hj
      rw [hsz]
      rcases hj with hj | hj
      · have := hlt j (.inl hj); have := hX.size; omega
      · rw [hsz] at hj; exact hj.2
end Go.Proofs.Ytofigofaiadffaa
