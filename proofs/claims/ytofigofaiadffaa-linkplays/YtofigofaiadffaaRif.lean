/- The document's link: In: a load is kept. -/
import Derived.Test.YtofigofaiadffaaRie
namespace Go.Proofs.Ytofigofaiadffaa
open Go.RowKit Go.ChangeShapes Go.WideShapes Go.ChangeAt Go.Deep

theorem rkeep_mid {E : Nat → Prop} {V W : World} {g : Nat} {k : Kc} {r : Rl} {fb : Nat} {fc : List Value} (h : RI2 E V W g k r fb fc) (hE : ∀ j, E j → j < fb) (hV : fb < V.heap.size) :
    ∃ ka kc lk, W.cell? ⟨g, 8, none⟩ = some (.slice ka r.kp.length kc) ∧ W.frozen? ⟨g, 8, none⟩ = false ∧
      (∀ X, Below W.heap.size W X → RowK (EE (Ex E V W) g W.heap.size) 0 X ka r.kp.length kc lk) ∧ (∀ X : World, W.heap.size ≤ X.heap.size → ∀ j, X.heap.size ≤ j → EE (Ex E V W) g W.heap.size j) ∧
      (∀ (a1 : Option Addr) (n1 c1 : Nat) (xs : List Nat) (w2 X : World), xs.length = n1 → n1 ≤ 4096 → Byt xs → w2.ownsRow W.heap.size 5 1 (.slice a1 n1 c1) n1 (bV xs) → Below W.heap.size W w2 → Below w2.heap.size w2 X → TxO (EE (Ex E V W) g W.heap.size) X ⟨a1, n1, c1, xs⟩) ∧
      (∀ X w3, Below W.heap.size W X → X.grownBy w3 (Value.slice ka r.kp.length kc).ownBlock → BoxL w3 fb fc ∧ w3.cell? ⟨g, 8, none⟩ = some (.slice ka r.kp.length kc) ∧ w3.frozen? ⟨g, 8, none⟩ = false) ∧
      (∀ (X w3 : World) (a3 : Option Addr) (c3 : Nat) (y : KpM) (sq : Int) (x : List Nat), Below W.heap.size W X → X.grownBy w3 (Value.slice ka r.kp.length kc).ownBlock → RowK (EE (Ex E V W) g W.heap.size) 0 w3 a3 (r.kp.length + 1) c3 (lk ++ [y]) → y.q = (sq, x) → 0 ≤ sq →
        RI2 E V (w3.setCell ⟨g, 8, none⟩ (.slice a3 (r.kp.length + 1) c3)) g k { r with kp := r.kp ++ [(sq.toNat, x)] } fb fc) := by
  obtain ⟨⟨oa, on, oc, ka, kn, kc, lo, lk, hbx, hro, hrk, hlo, hlk, hEg, hlt⟩, hkp, hbf, hg, hgf⟩ := h
  have HLO : kn = r.kp.length := by rw [← hrk.1]; have := congrArg List.length hlk; simpa using this
  subst HLO
  have hob : ∀ ad, ka = some ad → Ex E V W ad.block ∧ ad.block ≠ g := fun ad e => hrk.2.2.1 ad e
  have hnf : ∀ j, Ex E V W j → j ≠ fb := fun j hj => hj.elim (fun h => by have := hE j h; omega) fun h => by omega
  have hgl : g < W.heap.size := hbx.1
  have hgr : ∀ {X w3 : World}, X.grownBy w3 (Value.slice ka r.kp.length kc).ownBlock → ∀ j, j < X.heap.size → (∀ ad, ka = some ad → ad.block ≠ j) → w3.heap[j]? = X.heap[j]? := fun {X w3} hg j hj h => hg.block j hj (fun e => by
    cases ka with
    | none => simp [Value.ownBlock] at e
    | some ad => simp only [Value.ownBlock, Option.some.injEq] at e; exact h ad rfl e.symm)
  refine ⟨ka, kc, lk, (hbx.2 8 (by simp [lkCs])).1, (hbx.2 8 (by simp [lkCs])).2, ?_, ?_, ?_, ?_, ?_⟩
  · intro X hX
    have h1 : RowK (fun j => Ex E V W j ∧ j ≠ g) 0 X ka r.kp.length kc lk := hrk.below hX
    exact h1.mono (fun j hj => ⟨.inl hj.1, hj.2⟩) (Nat.le_refl _)
  · intro X hs j hj
    exact ⟨.inr (by omega), by omega⟩
  · intro a1 n1 c1 xs w2 X hl hn hB ho hb hb2
    have hb3 : ∀ ad, a1 = some ad → W.heap.size ≤ ad.block ∧ ad.block < w2.heap.size := fun ad e => own_lt ho ad e
    exact ⟨⟨hl, hB, hn⟩, own_keep (own_base ho (Nat.zero_le _)) fun ad e => hb2.block _ (hb3 ad e).2, fun ad e => ⟨.inr (hb3 ad e).1, by have := hb3 ad e; show ad.block ≠ g; omega⟩⟩
  · intro X w3 hX hg3
    have h1 : BoxL w3 fb fc := (hbf.below hX).keep hg3.size (hgr hg3 fb (hbf.below hX).1 (fun ad e => hnf _ (hob ad e).1))
    have h2 := (hbx.below hX).keep hg3.size (hgr hg3 g (hbx.below hX).1 (fun ad e => (hob ad e).2))
    exact ⟨h1, (h2.2 8 (by simp [lkCs])).1, (h2.2 8 (by simp [lkCs])).2⟩
  · intro X w3 a3 c3 y sq x hX hg3 hr3 hy h0
    have hsz : (w3.setCell ⟨g, 8, none⟩ (.slice a3 (r.kp.length + 1) c3)).heap.size = w3.heap.size := by simp [World.setCell]
    have hs3 : W.heap.size ≤ w3.heap.size := Nat.le_trans hX.size hg3.size
    have hkeep : ∀ j, j < W.heap.size → j ≠ g → (∀ ad, ka = some ad → ad.block ≠ j) → (w3.setCell ⟨g, 8, none⟩ (.slice a3 (r.kp.length + 1) c3)).heap[j]? = W.heap[j]? := fun j hj h1 h2 => by
      have := hX.size
      rw [Below.heap_setCell _ _ _ _ (by exact h1), hgr hg3 j (by omega) h2, hX.block j hj]
    have h2 := (hbx.below hX).keep hg3.size (hgr hg3 g (hbx.below hX).1 (fun ad e => (hob ad e).2))
    have h1 : BoxL w3 fb fc := (hbf.below hX).keep hg3.size (hgr hg3 fb (hbf.below hX).1 (fun ad e => hnf _ (hob ad e).1))
    have hb8 := h2.put 8 (.slice a3 (r.kp.length + 1) c3)
    have hVW := hkp.size
    have hset : ∀ j, Ex E V W j ∨ W.heap.size ≤ j → j < w3.heap.size → Ex E V (w3.setCell ⟨g, 8, none⟩ (.slice a3 (r.kp.length + 1) c3)) j := fun j hj hl => by
      rcases hj with (hj | hj) | hj
      · exact .inl hj
      · exact .inr ⟨hj.1, by rw [hsz]; exact hl⟩
      · exact .inr ⟨by omega, by rw [hsz]; exact hl⟩
    refine ⟨⟨oa, on, oc, a3, r.kp.length + 1, c3, lo, lk ++ [y], by simpa [lkCs] using hb8, ?_, ?_, hlo, ?_, .inl hg, ?_⟩, ?_, h1.keep (by rw [hsz]; exact Nat.le_refl _) (Below.heap_setCell _ _ _ _ (by exact fun e => hgf e.symm)), hg, hgf⟩
    · have h5 : RowO (fun j => Ex E V W j ∧ j ≠ g) 0 (w3.setCell ⟨g, 8, none⟩ (.slice a3 (r.kp.length + 1) c3)) oa on oc lo := by
        refine ⟨hro.1, own_keep hro.2.1 fun ad e => ?_, hro.2.2.1, fun z hz => (hro.2.2.2 z hz).keep fun ad e => ?_⟩
        · exact hkeep _ (own_lt hro.2.1 ad e).2 (hro.2.2.1 ad e).2 (fun ad2 e2 => own_apart hrk.2.1 hro.2.1 (by decide) ad2 ad e2 e)
        · exact hkeep _ ((hro.2.2.2 z hz).lt ad e) ((hro.2.2.2 z hz).2.2 ad e).2 (fun ad2 e2 => own_apart hrk.2.1 (hro.2.2.2 z hz).2.1 (by decide) ad2 ad e2 e)
      exact h5.mono (fun j hj => ⟨hset j (.inl hj.1) (by have := hlt j hj.1; omega), hj.2⟩) (Nat.le_refl _)
    · have h6 := hr3.other (grown_setCell w3 g 8 (.slice a3 (r.kp.length + 1) c3)) (fun ad e => by have := (hr3.2.2.1 ad e).2; simpa using this) (fun z hz ad e => by have := ((hr3.2.2.2 z hz).2.2 ad e).2; simpa using this)
      refine ⟨h6.1, h6.2.1, fun ad e => ?_, fun z hz => ?_⟩
      · have h7 := hr3.2.2.1 ad e
        exact ⟨hset _ h7.1 (own_lt hr3.2.1 ad e).2, h7.2⟩
      · have h7 := h6.2.2.2 z hz
        exact ⟨h7.1, h7.2.1, fun ad e => ⟨hset _ (h7.2.2 ad e).1 (by have := h7.lt ad e; rw [hsz] at this; exact this), (h7.2.2 ad e).2⟩⟩
    · rw [List.map_append, List.map_append, hlk]
      congr 1
      simp only [List.map_cons, List.map_nil, hy, kq]
      rw [Int.toNat_of_nonneg h0]
    · intro j hj
      rw [hsz]
      rcases hj with hj | hj
      · have := hlt j (.inl hj); omega
      · rw [hsz] at hj; exact hj.2
    · refine ⟨hg3.os.trans (hX.os.trans hkp.os), hg3.tape.trans (hX.tape.trans hkp.tape), hg3.output.trans (hX.output.trans hkp.output), by rw [hsz]; omega, fun j hj hn => ?_⟩
      rw [hkeep j (by omega) (fun e => hn (e ▸ hg)) (fun ad e e2 => by
        have h9 := (hob ad e).1
        rw [e2] at h9
        exact h9.elim hn fun h => by omega), hkp.block j hj hn]
end Go.Proofs.Ytofigofaiadffaa
