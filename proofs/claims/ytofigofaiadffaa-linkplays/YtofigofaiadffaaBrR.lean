/- LinkBrings, plain: the rounds of its end, and a turn of the net. -/
import Derived.Test.YtofigofaiadffaaBrL
namespace Go.Proofs.Ytofigofaiadffaa
namespace linkBrings
open Go.RowKit Go.ChangeShapes Go.WideShapes Go.ChangeAt Go.Deep

/-- What holds of one direction ahead of round r (n0: the time ahead of the first one). -/
def SR (n0 r : Nat) (x y : Lk) (W : List Fr) (dx dy : Int) : Prop :=
  if r ≤ 33 then D1 (dueBy ((n0 : Int) + 64)) x y W dy else if r ≤ 66 then D2 (dueBy ((n0 : Int) + 132)) x y W dx dy else if r = 67 then DE x y else D3 x y W dx
/-- What holds of it while frames come in, in round r. -/
def MR (n0 r : Nat) (x y : Lk) (W : List Fr) (dx dy : Int) : Prop :=
  if r < 33 then D1 (dueBy ((n0 : Int) + 64)) x y W dy else if r = 33 then D1 (fun _ => False) x y W dy else if r < 66 then D2 (dueBy ((n0 : Int) + 132)) x y W dx dy else if r = 66 then D2 (fun _ => False) x y W dx dy else D3 x y W dx
theorem due_now {N now : Int} (h : N ≤ now) (o : Op) (hq : dueBy N o) (hd : dueB o now = false) : False := by
  unfold dueBy at hq
  unfold dueB at hd
  simp at hd
  omega
/-- x's frames go out first. -/
theorem SR.xy {n0 r : Nat} {x y : Lk} {S T : List (List Nat)} {W : List Fr} {dx dy : Int} (h : SR n0 r x y W dx dy) (hD : Dir y x S T) (hx : x.peer = dy) (hy : y.peer = dx) (now now' : Int) (hn : now = (n0 : Int) + 2 * r) : MR n0 r (outL x now) (outL y now') ((W ++ outF x now) ++ outF y now') dx dy := by
  have hD' := hD.outy now
  unfold SR at h
  unfold MR
  by_cases h1 : r < 33
  · rw [if_pos (by omega)] at h
    rw [if_pos h1]
    exact (h.xout hx now fun o hq _ => hq).yout now' _
  · by_cases h2 : r = 33
    · rw [if_pos (by omega)] at h
      rw [if_neg h1, if_pos h2]
      exact (h.xout hx now fun o hq hd => due_now (by omega) o hq hd).yout now' _
    · rw [if_neg (by omega)] at h
      rw [if_neg h1, if_neg h2]
      by_cases h3 : r < 66
      · rw [if_pos (by omega)] at h
        rw [if_pos h3]
        exact (h.xout hx now fun o hq _ => hq).yout hD' hy now'
      · by_cases h4 : r = 66
        · rw [if_pos (by omega)] at h
          rw [if_neg h3, if_pos h4]
          exact (h.xout hx now fun o hq hd => due_now (by omega) o hq hd).yout hD' hy now'
        · rw [if_neg (by omega)] at h
          rw [if_neg h3, if_neg h4]
          by_cases h5 : r = 67
          · rw [if_pos h5] at h
            exact (h.xout now).yout hD' hy now' _
          · rw [if_neg h5] at h
            exact (h.xout now _).yout now' _
/-- y's frames go out first. -/
theorem SR.yx {n0 r : Nat} {x y : Lk} {S T : List (List Nat)} {W : List Fr} {dx dy : Int} (h : SR n0 r x y W dx dy) (hD : Dir y x S T) (hx : x.peer = dy) (hy : y.peer = dx) (now now' : Int) (hn : now' = (n0 : Int) + 2 * r + 1) : MR n0 r (outL x now') (outL y now) ((W ++ outF y now) ++ outF x now') dx dy := by
  unfold SR at h
  unfold MR
  by_cases h1 : r < 33
  · rw [if_pos (by omega)] at h
    rw [if_pos h1]
    exact (h.yout now _).xout hx now' fun o hq _ => hq
  · by_cases h2 : r = 33
    · rw [if_pos (by omega)] at h
      rw [if_neg h1, if_pos h2]
      exact (h.yout now _).xout hx now' fun o hq hd => due_now (by omega) o hq hd
    · rw [if_neg (by omega)] at h
      rw [if_neg h1, if_neg h2]
      by_cases h3 : r < 66
      · rw [if_pos (by omega)] at h
        rw [if_pos h3]
        exact (h.yout hD hy now).xout hx now' fun o hq _ => hq
      · by_cases h4 : r = 66
        · rw [if_pos (by omega)] at h
          rw [if_neg h3, if_pos h4]
          exact (h.yout hD hy now).xout hx now' fun o hq hd => due_now (by omega) o hq hd
        · rw [if_neg (by omega)] at h
          rw [if_neg h3, if_neg h4]
          by_cases h5 : r = 67
          · rw [if_pos h5] at h
            exact (h.yout hD hy now _).xout now' _
          · rw [if_neg h5] at h
            exact (h.yout now _).xout now' _
theorem MR.iny {n0 r : Nat} {x y : Lk} {S T T' : List (List Nat)} {W : List Fr} {dx dy : Int} {f : Fr} (h : MR n0 r x y (f :: W) dx dy) (hD : Dir x y S T) (hD' : Dir x (inL y f) S T') (hF : forB y f = true) (hd : f.tt ≠ dx) : MR n0 r x (inL y f) W dx dy := by
  unfold MR at *
  split at h
  · rename_i q; rw [if_pos q]; exact h.iny hD hF
  · rename_i q; rw [if_neg q]
    split at h
    · rename_i q; rw [if_pos q]; exact h.iny hD hF
    · rename_i q; rw [if_neg q]
      split at h
      · rename_i q; rw [if_pos q]; exact h.iny hD hD' hF hd
      · rename_i q; rw [if_neg q]
        split at h
        · rename_i q; rw [if_pos q]; exact h.iny hD hD' hF hd
        · rename_i q; rw [if_neg q]; exact h.iny hD hD' hF hd
theorem MR.inx {n0 r : Nat} {x y : Lk} {S T T' : List (List Nat)} {W : List Fr} {dx dy : Int} {f : Fr} (h : MR n0 r x y (f :: W) dx dy) (hD : Dir x y S T) (hD' : Dir (inL x f) y S T') (hF : forB x f = true) (hd : f.tt ≠ dy) : MR n0 r (inL x f) y W dx dy := by
  unfold MR at *
  split at h
  · rename_i q; rw [if_pos q]; exact h.inx hd hF
  · rename_i q; rw [if_neg q]
    split at h
    · rename_i q; rw [if_pos q]; exact h.inx hd hF
    · rename_i q; rw [if_neg q]
      split at h
      · rename_i q; rw [if_pos q]; exact h.inx hD hD' hF hd
      · rename_i q; rw [if_neg q]
        split at h
        · rename_i q; rw [if_pos q]; exact h.inx hD hD' hF hd
        · rename_i q; rw [if_neg q]; exact h.inx hD hD' hF
theorem MR.end {n0 r : Nat} {x y : Lk} {S T : List (List Nat)} {dx dy : Int} (h : MR n0 r x y [] dx dy) (hD : Dir x y S T) (ht : TmO x.op (n0 + 2 * (r + 1))) : SR n0 (r + 1) x y [] dx dy := by
  unfold MR at h
  unfold SR
  by_cases h1 : r < 33
  · rw [if_pos h1] at h
    rw [if_pos (by omega)]
    exact h
  · rw [if_neg h1] at h
    rw [if_neg (by omega)]
    by_cases h2 : r = 33
    · rw [if_pos h2] at h
      rw [if_pos (by omega)]
      refine ⟨h.end hD, .inr (.inr (.inr (.inr fun o ho => ?_)))⟩
      have h3 := ht o ho
      unfold dueBy
      rcases h3.2.2 with h4 | h4
      · exact .inl h4
      · right; omega
    · rw [if_neg h2] at h
      by_cases h3 : r < 66
      · rw [if_pos h3] at h
        rw [if_pos (by omega)]
        exact h
      · rw [if_neg h3] at h
        rw [if_neg (by omega)]
        by_cases h4 : r = 66
        · rw [if_pos h4] at h
          rw [if_pos (by omega)]
          exact h.end
        · rw [if_neg h4] at h
          rw [if_neg (by omega)]
          exact h
/-- Ahead of the first round each open load is due soon. -/
theorem SR.zero {n0 : Nat} {x y : Lk} {W : List Fr} {dx dy : Int} (ht : TmO x.op n0) : SR n0 0 x y W dx dy := by
  unfold SR
  rw [if_pos (by omega)]
  intro i hi
  right; left
  have h3 := ht x.op[i] (List.getElem_mem _)
  unfold dueBy
  rcases h3.2.2 with h4 | h4
  · exact .inl h4
  · right; omega
/-- The state of both sides ahead of a round, and in it. -/
def SP (n0 r : Nat) (p : Pr) : Prop := Inv p ∧ p.now = n0 + 2 * r ∧ SR n0 r p.a p.b p.way 0 1 ∧ SR n0 r p.b p.a p.way 1 0
def MP (n0 r : Nat) (p : Pr) : Prop := Inv p ∧ p.now = n0 + 2 * (r + 1) ∧ MR n0 r p.a p.b p.way 0 1 ∧ MR n0 r p.b p.a p.way 1 0
theorem SP.zero {p : Pr} (h : Inv p) : SP p.now 0 p := ⟨h, rfl, SR.zero h.ta, SR.zero h.tb⟩
theorem SP.out {n0 r : Nat} {p : Pr} (h : SP n0 r p) : MP n0 r (outB (outA p)) := by
  obtain ⟨h1, h2, h3, h4⟩ := h
  refine ⟨h1.outA.outB, by show p.now + 1 + 1 = _; omega, ?_, ?_⟩
  · exact h3.xy h1.ba h1.ida.2.1 h1.idb.2.1 _ _ (by rw [h2]; omega)
  · exact h4.yx h1.ab h1.idb.2.1 h1.ida.2.1 _ _ (by show ((p.now + 1 : Nat) : Int) = _; rw [h2]; omega)
theorem MP.inn {n0 r : Nat} {p : Pr} {f : Fr} {W : List Fr} (h : MP n0 r p) (hw : p.way = f :: W) : inOk { p with way := W } f = true ∧ MP n0 r (inP { p with way := W } f) := by
  obtain ⟨h1, h2, h3, h4⟩ := h
  have hW : Inv { p with way := W } := h1.way fun g hg => by rw [hw]; simp [hg]
  have hf : FrA { p with way := W } f ∨ FrB { p with way := W } f := h1.fr f (by rw [hw]; simp)
  have h5 := hW.inn hf
  refine ⟨h5.1, h5.2, ?_, ?_⟩
  · unfold inP; split <;> exact h2
  · rw [hw] at h3 h4
    have h6 := h5.1
    have h7 := h5.2
    unfold inOk at h6
    unfold inP at h7 ⊢
    by_cases ht : f.tt = 0
    · rw [if_pos ht] at h6 h7
      rw [if_pos ht]
      exact ⟨h3.inx h1.ab h7.ab h6 (by rw [ht]; decide), h4.iny h1.ba h7.ba h6 (by rw [ht]; decide)⟩
    · rw [if_neg ht] at h6 h7
      rw [if_neg ht]
      have ht1 : f.tt = 1 := by
        rcases hf with hf | hf
        · exact hf.1
        · exact absurd hf.1 ht
      exact ⟨h3.iny h1.ab h7.ab h6 (by rw [ht1]; decide), h4.inx h1.ba h7.ba h6 (by rw [ht1]; decide)⟩
theorem MP.end {n0 r : Nat} {p : Pr} (h : MP n0 r p) (hw : p.way = []) : SP n0 (r + 1) p := by
  obtain ⟨h1, h2, h3, h4⟩ := h
  rw [hw] at h3 h4
  refine ⟨h1, h2, ?_, ?_⟩
  · rw [hw]; exact h3.end h1.ab (by rw [← h2]; exact h1.ta)
  · rw [hw]; exact h4.end h1.ba (by rw [← h2]; exact h1.tb)
/-- Behind the last round all is got, and nothing is open. -/
theorem SP.end {n0 r : Nat} {p : Pr} (h : SP n0 r p) (hr : 68 ≤ r) (hw : p.way = []) : p.to0 = p.s0 ∧ p.to1 = p.s1 ∧ p.a.op = [] ∧ p.b.op = [] := by
  obtain ⟨h1, h2, h3, h4⟩ := h
  unfold SR at h3 h4
  rw [if_neg (by omega), if_neg (by omega), if_neg (by omega), hw] at h3 h4
  have key : ∀ {x y : Lk} {S T : List (List Nat)} {dx : Int}, D3 x y [] dx → Dir x y S T → T = S ∧ x.op = [] := fun {x y S T dx} hd hD => by
    have h5 : x.op = [] := by
      rcases hd.2 with h | ⟨f, h, _⟩
      · exact h
      · cases h
    have h6 := hD.used
    have h7 := hd.1
    unfold Lk.used at h7
    refine ⟨?_, h5⟩
    rw [hD.got, List.take_of_length_le (by omega)]
  have ka := key h3 h1.ab
  have kb := key h4 h1.ba
  exact ⟨kb.1, ka.1, ka.2, kb.2⟩
/-- Which frame a turn is about. -/
def kOf (K : Int) (n : Nat) : Nat := (if K < 0 then -(K + 1) else K).toNat % n
def turnP (p : Pr) (wy K : Int) (x : List Nat) : Pr :=
  if wy = 0 then sndA p x else if wy = 1 then sndB p x else if wy = 2 then outA p else if wy = 3 then outB p else
  if h : 0 < p.way.length then
    (if wy = 4 then inP { p with way := p.way.eraseIdx (kOf K p.way.length) } (p.way[kOf K p.way.length]'(Nat.mod_lt _ h))
     else if wy = 5 then { p with way := p.way.eraseIdx (kOf K p.way.length) } else { p with way := p.way ++ [p.way[kOf K p.way.length]'(Nat.mod_lt _ h)] })
  else p
theorem Inv.turn {p : Pr} (h : Inv p) (wy K : Int) {x : List Nat} (hx : x.length ≤ 200) : Inv (turnP p wy K x) := by
  unfold turnP
  split
  · exact h.sndA hx
  split
  · exact h.sndB hx
  split
  · exact h.outA
  split
  · exact h.outB
  split
  · rename_i hl
    have hm : p.way[kOf K p.way.length]'(Nat.mod_lt _ hl) ∈ p.way := List.getElem_mem _
    split
    · exact (Inv.inn (h.way fun f hf => List.mem_of_mem_eraseIdx hf) (h.fr _ hm)).2
    split
    · exact h.way fun f hf => List.mem_of_mem_eraseIdx hf
    · refine h.way fun f hf => ?_
      rw [List.mem_append, List.mem_singleton] at hf
      rcases hf with hf | rfl
      · exact hf
      · exact hm
  · exact h
theorem Inv.size {p : Pr} (h : Inv p) : p.to0.length ≤ p.s0.length ∧ p.to1.length ≤ p.s1.length ∧ p.to0 = p.s0.take p.to0.length ∧ p.to1 = p.s1.take p.to1.length := by
  have h1 := h.ab.got
  have h2 := h.ba.got
  have h3 := h.ab.came
  have h4 := h.ba.came
  refine ⟨by rw [h2, List.length_take]; omega, by rw [h1, List.length_take]; omega, ?_, ?_⟩
  · conv => lhs; rw [h2]
    rw [h2, List.length_take, Nat.min_eq_left h4]
  · conv => lhs; rw [h1]
    rw [h1, List.length_take, Nat.min_eq_left h3]
end linkBrings
end Go.Proofs.Ytofigofaiadffaa
