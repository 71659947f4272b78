/- Two links over a net, plain: if frames come through, all that was sent is got. -/
import Derived.Test.YtofigofaiadffaaBrP
namespace Go.Proofs.Ytofigofaiadffaa
namespace linkBrings
open Go.RowKit Go.ChangeShapes Go.WideShapes Go.ChangeAt Go.Deep

/-- Load n came to y. -/
def has (y : Lk) (n : Nat) : Prop := n ≤ y.came ∨ (y.ea n).isSome = true
def dueBy (N : Int) (o : Op) : Prop := o.wt = 0 ∨ o.tm + o.wt ≤ N
def inW (W : List Fr) (d : Int) (n : Nat) : Prop := ∃ f ∈ W, f.tt = d ∧ f.sq = (n : Int)
/-- Each open load of x came to y, or waits as Q says, or is on the way. -/
def D1 (Q : Op → Prop) (x y : Lk) (W : List Fr) (dy : Int) : Prop := ∀ i (h : i < x.op.length), has y (x.acked + 1 + i) ∨ Q x.op[i] ∨ inW W dy (x.acked + 1 + i)
/-- All came to y; and x's loads are acknowledged, or that is on the way, or comes of what is on the way, or of what waits as Q says. -/
def D2 (Q : Op → Prop) (x y : Lk) (W : List Fr) (dx dy : Int) : Prop := y.came = x.used ∧ (x.op = [] ∨ y.owed = true ∨ (∃ f ∈ W, f.tt = dx ∧ f.ak = (x.used : Int)) ∨ (∃ f ∈ W, f.tt = dy ∧ f.sq ≠ 0) ∨ ∀ o ∈ x.op, Q o)
def DE (x y : Lk) : Prop := y.came = x.used ∧ (x.op = [] ∨ y.owed = true)
def D3 (x y : Lk) (W : List Fr) (dx : Int) : Prop := y.came = x.used ∧ (x.op = [] ∨ ∃ f ∈ W, f.tt = dx ∧ f.ak = (x.used : Int))
theorem used_out (x : Lk) (now : Int) : (outL x now).used = x.used := by unfold outL Lk.used; simp
theorem op_out (x : Lk) (now : Int) : (outL x now).op = x.op.map (dueO now) := rfl
theorem due_frame {x : Lk} {now : Int} {i : Nat} (h : i < x.op.length) (hd : dueB x.op[i] now = true) : ∃ f ∈ outF x now, f.tt = x.peer ∧ f.sq = ((x.acked + 1 + i : Nat) : Int) := by
  have hm := mem_dueF (now := now) x.op (x.acked + 1) i h hd
  have e : outP x now = dueF now (x.acked + 1) x.op := by
    unfold outP
    simp only
    rw [if_neg]
    intro hc
    simp at hc
    rw [hc.1] at hm
    simp at hm
  refine ⟨x.frame (x.acked + 1 + i, x.op[i].x), ?_, rfl, rfl⟩
  unfold outF
  rw [e]
  exact List.mem_map.2 ⟨_, hm, rfl⟩
theorem inW.mono {W W' : List Fr} {d : Int} {n : Nat} (h : inW W d n) (hW : ∀ f ∈ W, f ∈ W') : inW W' d n := by
  obtain ⟨f, h1, h2⟩ := h
  exact ⟨f, hW f h1, h2⟩
theorem D1.xout {Q Q' : Op → Prop} {x y : Lk} {W : List Fr} {dy : Int} (h : D1 Q x y W dy) (hp : x.peer = dy) (now : Int) (hQ : ∀ o, Q o → dueB o now = false → Q' o) : D1 Q' (outL x now) y (W ++ outF x now) dy := by
  intro i hi
  have hi' : i < x.op.length := by rw [op_out] at hi; simpa using hi
  have e : (outL x now).op[i] = dueO now x.op[i] := by
    show (x.op.map (dueO now))[i]'(by simpa using hi') = _
    rw [List.getElem_map]
  have ea : (outL x now).acked = x.acked := rfl
  rw [ea]
  by_cases hd : dueB x.op[i] now = true
  · right; right
    obtain ⟨f, hf, h1, h2⟩ := due_frame hi' hd
    exact ⟨f, List.mem_append.2 (.inr hf), by rw [h1, hp], h2⟩
  · have hd' : dueB x.op[i] now = false := by simpa using hd
    rw [e]
    have e2 : dueO now x.op[i] = x.op[i] := by unfold dueO; rw [if_neg hd]
    rw [e2]
    rcases h i hi' with h1 | h1 | h1
    · exact .inl h1
    · exact .inr (.inl (hQ _ h1 hd'))
    · exact .inr (.inr (h1.mono fun f hf => List.mem_append.2 (.inl hf)))
theorem D1.yout {Q : Op → Prop} {x y : Lk} {W : List Fr} {dy : Int} (h : D1 Q x y W dy) (now : Int) (F : List Fr) : D1 Q x (outL y now) (W ++ F) dy := by
  intro i hi
  rcases h i hi with h1 | h1 | h1
  · exact .inl h1
  · exact .inr (.inl h1)
  · exact .inr (.inr (h1.mono fun f hf => List.mem_append.2 (.inl hf)))
theorem has_in {y : Lk} {f : Fr} (hF : forB y f = true) {n : Nat} (h : has y n) : has (inL y f) n := by
  have hc := (in_parts hF).2.2.1
  rcases h with h | h
  · exact .inl (by omega)
  · right
    unfold inL
    rw [if_pos hF]
    split
    · exact h
    · unfold accL
      split
      · exact h
      · show (keepE y.ea f.sq.toNat f.x n).isSome = true
        unfold keepE
        split
        · exact h
        · by_cases e : n = f.sq.toNat
          · subst e; rw [upd_same]; rfl
          · rw [upd_ne _ _ _ _ e]; exact h
theorem has_sq {y : Lk} {f : Fr} (hF : forB y f = true) {n : Nat} (hs : f.sq = (n : Int)) (h1 : 1 ≤ n) (h8 : n ≤ y.came + 8) : has (inL y f) n := by
  by_cases hle : n ≤ y.came
  · exact has_in hF (.inl hle)
  · right
    have ec : (closeL y f.ak).came = y.came := rfl
    unfold inL
    rw [if_pos hF, if_neg (by omega)]
    unfold accL
    rw [ec, if_neg (by omega)]
    show (keepE y.ea f.sq.toNat f.x n).isSome = true
    have e : f.sq.toNat = n := by omega
    rw [e]
    unfold keepE
    split
    · assumption
    · rw [upd_same]; rfl
theorem D1.iny {Q : Op → Prop} {x y : Lk} {S T : List (List Nat)} {W : List Fr} {dy : Int} {f : Fr} (h : D1 Q x y (f :: W) dy) (hD : Dir x y S T) (hF : forB y f = true) : D1 Q x (inL y f) W dy := by
  intro i hi
  rcases h i hi with h1 | h1 | ⟨g, h1, h2, h3⟩
  · exact .inl (has_in hF h1)
  · exact .inr (.inl h1)
  · rcases List.mem_cons.1 h1 with rfl | h1
    · exact .inl (has_sq hF h3 (by omega) (by have := hD.ack; have := hD.len; omega))
    · exact .inr (.inr ⟨g, h1, h2, h3⟩)
theorem D1.inx {Q : Op → Prop} {x y : Lk} {W : List Fr} {dy : Int} {f : Fr} (h : D1 Q x y (f :: W) dy) (hd : f.tt ≠ dy) (hF : forB x f = true) : D1 Q (inL x f) y W dy := by
  intro i hi
  obtain ⟨p1, p2, _⟩ := in_parts hF
  have hi' : i < (x.op.drop (f.ak.toNat - x.acked)).length := by rw [p2] at hi; exact hi
  rw [List.length_drop] at hi'
  have h2 := h (f.ak.toNat - x.acked + i) (by omega)
  have e : (inL x f).op[i] = x.op[f.ak.toNat - x.acked + i] := by simp only [p2, List.getElem_drop]
  rw [e, p1, show max x.acked f.ak.toNat + 1 + i = x.acked + 1 + (f.ak.toNat - x.acked + i) by omega]
  rcases h2 with h3 | h3 | ⟨g, h3, h4, h5⟩
  · exact .inl h3
  · exact .inr (.inl h3)
  · rcases List.mem_cons.1 h3 with rfl | h3
    · exact absurd h4 hd
    · exact .inr (.inr ⟨g, h3, h4, h5⟩)
/-- When nothing is on the way and nothing waits, all came. -/
theorem D1.end {x y : Lk} {S T : List (List Nat)} {dy : Int} (h : D1 (fun _ => False) x y [] dy) (hD : Dir x y S T) : y.came = x.used := by
  have h1 := hD.came
  have h2 := hD.used
  have h3 := hD.ack
  have hle : y.came ≤ x.used := by unfold Lk.used; omega
  rcases Nat.lt_or_ge y.came x.used with hlt | hge
  · unfold Lk.used at hlt
    have hi : y.came - x.acked < x.op.length := by omega
    rcases h _ hi with h4 | h4 | ⟨f, h4, _⟩
    · rw [show x.acked + 1 + (y.came - x.acked) = y.came + 1 by omega] at h4
      rcases h4 with h4 | h4
      · omega
      · rw [hD.nxt] at h4; cases h4
    · exact h4.elim
    · cases h4
  · omega
theorem D2.xout {Q Q' : Op → Prop} {x y : Lk} {W : List Fr} {dx dy : Int} (h : D2 Q x y W dx dy) (hp : x.peer = dy) (now : Int) (hQ : ∀ o, Q o → dueB o now = false → Q' o) : D2 Q' (outL x now) y (W ++ outF x now) dx dy := by
  refine ⟨by rw [used_out]; exact h.1, ?_⟩
  rw [used_out]
  rcases h.2 with h1 | h1 | ⟨f, h1, h2⟩ | ⟨f, h1, h2⟩ | h1
  · exact .inl (by rw [op_out, h1]; rfl)
  · exact .inr (.inl h1)
  · exact .inr (.inr (.inl ⟨f, List.mem_append.2 (.inl h1), h2⟩))
  · exact .inr (.inr (.inr (.inl ⟨f, List.mem_append.2 (.inl h1), h2⟩)))
  · by_cases hd : ∃ i, ∃ hi : i < x.op.length, dueB x.op[i] now = true
    · obtain ⟨i, hi, hd⟩ := hd
      obtain ⟨f, hf, h2, h3⟩ := due_frame hi hd
      exact .inr (.inr (.inr (.inl ⟨f, List.mem_append.2 (.inr hf), by rw [h2, hp], by rw [h3]; omega⟩)))
    · refine .inr (.inr (.inr (.inr fun o ho => ?_)))
      rw [op_out] at ho
      obtain ⟨q, hq, rfl⟩ := List.mem_map.1 ho
      obtain ⟨i, hi, rfl⟩ := List.getElem_of_mem hq
      have hd' : dueB x.op[i] now = false := by
        cases hc : dueB x.op[i] now
        · rfl
        · exact absurd ⟨i, hi, hc⟩ hd
      unfold dueO
      rw [hd']
      exact hQ _ (h1 _ hq) hd'
theorem ack_frame {x y : Lk} {S T : List (List Nat)} (hD : Dir y x S T) (now : Int) (ho : y.owed = true) : ∃ f ∈ outF y now, f.tt = y.peer ∧ f.ak = (y.came : Int) := by
  have hne : outP y now ≠ [] := by
    unfold outP
    simp only [ho, Bool.and_true]
    split
    · simp
    · rename_i h
      intro e
      rw [e] at h
      simp at h
  cases hq : outP y now with
  | nil => exact absurd hq hne
  | cons q r =>
    have hm : y.frame q ∈ outF y now := by unfold outF; rw [hq]; simp
    obtain ⟨_, q2, _, _, q5⟩ := frames_ok hD now _ hm
    exact ⟨_, hm, q2, q5⟩
theorem D2.yout {Q : Op → Prop} {x y : Lk} {S T : List (List Nat)} {W : List Fr} {dx dy : Int} (h : D2 Q x y W dx dy) (hD : Dir y x S T) (hp : y.peer = dx) (now : Int) : D2 Q x (outL y now) (W ++ outF y now) dx dy := by
  refine ⟨h.1, ?_⟩
  rcases h.2 with h1 | h1 | ⟨f, h1, h2⟩ | ⟨f, h1, h2⟩ | h1
  · exact .inl h1
  · obtain ⟨f, hf, h2, h3⟩ := ack_frame hD now h1
    exact .inr (.inr (.inl ⟨f, List.mem_append.2 (.inr hf), by rw [h2, hp], by rw [h3, h.1]⟩))
  · exact .inr (.inr (.inl ⟨f, List.mem_append.2 (.inl h1), h2⟩))
  · exact .inr (.inr (.inr (.inl ⟨f, List.mem_append.2 (.inl h1), h2⟩)))
  · exact .inr (.inr (.inr (.inr h1)))
theorem DE.xout {x y : Lk} (h : DE x y) (now : Int) : DE (outL x now) y := ⟨by rw [used_out]; exact h.1, h.2.elim (fun h1 => .inl (by rw [op_out, h1]; rfl)) .inr⟩
theorem DE.yout {x y : Lk} {S T : List (List Nat)} {dx : Int} (h : DE x y) (hD : Dir y x S T) (hp : y.peer = dx) (now : Int) (W : List Fr) : D3 x (outL y now) (W ++ outF y now) dx := by
  refine ⟨h.1, ?_⟩
  rcases h.2 with h1 | h1
  · exact .inl h1
  · obtain ⟨f, hf, h2, h3⟩ := ack_frame hD now h1
    exact .inr ⟨f, List.mem_append.2 (.inr hf), by rw [h2, hp], by rw [h3, h.1]⟩
theorem D3.xout {x y : Lk} {W : List Fr} {dx : Int} (h : D3 x y W dx) (now : Int) (F : List Fr) : D3 (outL x now) y (W ++ F) dx := by
  refine ⟨by rw [used_out]; exact h.1, ?_⟩
  rw [used_out]
  rcases h.2 with h1 | ⟨f, h1, h2⟩
  · exact .inl (by rw [op_out, h1]; rfl)
  · exact .inr ⟨f, List.mem_append.2 (.inl h1), h2⟩
theorem D3.yout {x y : Lk} {W : List Fr} {dx : Int} (h : D3 x y W dx) (now : Int) (F : List Fr) : D3 x (outL y now) (W ++ F) dx :=
  ⟨h.1, h.2.elim .inl fun ⟨f, h1, h2⟩ => .inr ⟨f, List.mem_append.2 (.inl h1), h2⟩⟩
theorem came_in {x y : Lk} {S T T' : List (List Nat)} {f : Fr} (hD : Dir x y S T) (hD' : Dir x (inL y f) S T') (hF : forB y f = true) (h : y.came = x.used) : (inL y f).came = x.used := by
  have h1 := (in_parts hF).2.2.1
  have h2 := hD'.came
  have h3 := hD.used
  unfold Lk.used at *
  omega
theorem D2.iny {Q : Op → Prop} {x y : Lk} {S T T' : List (List Nat)} {W : List Fr} {dx dy : Int} {f : Fr} (h : D2 Q x y (f :: W) dx dy) (hD : Dir x y S T) (hD' : Dir x (inL y f) S T') (hF : forB y f = true) (hd : f.tt ≠ dx) : D2 Q x (inL y f) W dx dy := by
  obtain ⟨_, _, _, _, _, _, _, _, p9, p10⟩ := in_parts hF
  refine ⟨came_in hD hD' hF h.1, ?_⟩
  rcases h.2 with h1 | h1 | ⟨g, h1, h2⟩ | ⟨g, h1, h2⟩ | h1
  · exact .inl h1
  · right; left
    by_cases h0 : f.sq = 0
    · rw [p10 h0]; exact h1
    · exact p9 h0
  · rcases List.mem_cons.1 h1 with rfl | h1
    · exact absurd h2.1 hd
    · exact .inr (.inr (.inl ⟨g, h1, h2⟩))
  · rcases List.mem_cons.1 h1 with rfl | h1
    · exact .inr (.inl (p9 h2.2))
    · exact .inr (.inr (.inr (.inl ⟨g, h1, h2⟩)))
  · exact .inr (.inr (.inr (.inr h1)))
theorem used_in {x y : Lk} {S T T' : List (List Nat)} {f : Fr} (hD : Dir x y S T) (hD' : Dir (inL x f) y S T') : (inL x f).used = x.used := by
  have h1 := hD.used
  have h2 := hD'.used
  unfold Lk.used
  omega
theorem op_in {x : Lk} {f : Fr} (hF : forB x f = true) (h : f.ak = (x.used : Int)) : (inL x f).op = [] := by
  rw [(in_parts hF).2.1, List.drop_eq_nil_iff]
  unfold Lk.used at h
  omega
theorem D2.inx {Q : Op → Prop} {x y : Lk} {S T T' : List (List Nat)} {W : List Fr} {dx dy : Int} {f : Fr} (h : D2 Q x y (f :: W) dx dy) (hD : Dir x y S T) (hD' : Dir (inL x f) y S T') (hF : forB x f = true) (hd : f.tt ≠ dy) : D2 Q (inL x f) y W dx dy := by
  have hu := used_in hD hD'
  have hop := (in_parts hF).2.1
  refine ⟨by rw [hu]; exact h.1, ?_⟩
  rw [hu]
  rcases h.2 with h1 | h1 | ⟨g, h1, h2⟩ | ⟨g, h1, h2⟩ | h1
  · exact .inl (by rw [hop, h1]; simp)
  · exact .inr (.inl h1)
  · rcases List.mem_cons.1 h1 with rfl | h1
    · exact .inl (op_in hF h2.2)
    · exact .inr (.inr (.inl ⟨g, h1, h2⟩))
  · rcases List.mem_cons.1 h1 with rfl | h1
    · exact absurd h2.1 hd
    · exact .inr (.inr (.inr (.inl ⟨g, h1, h2⟩)))
  · exact .inr (.inr (.inr (.inr fun o ho => h1 o (by rw [hop] at ho; exact List.mem_of_mem_drop ho))))
theorem D2.end {x y : Lk} {dx dy : Int} (h : D2 (fun _ => False) x y [] dx dy) : DE x y := by
  refine ⟨h.1, ?_⟩
  rcases h.2 with h1 | h1 | ⟨f, h1, _⟩ | ⟨f, h1, _⟩ | h1
  · exact .inl h1
  · exact .inr h1
  · cases h1
  · cases h1
  · left
    cases hq : x.op with
    | nil => rfl
    | cons o r => exact (h1 o (by rw [hq]; simp)).elim
theorem D3.iny {x y : Lk} {S T T' : List (List Nat)} {W : List Fr} {dx : Int} {f : Fr} (h : D3 x y (f :: W) dx) (hD : Dir x y S T) (hD' : Dir x (inL y f) S T') (hF : forB y f = true) (hd : f.tt ≠ dx) : D3 x (inL y f) W dx := by
  refine ⟨came_in hD hD' hF h.1, ?_⟩
  rcases h.2 with h1 | ⟨g, h1, h2⟩
  · exact .inl h1
  · rcases List.mem_cons.1 h1 with rfl | h1
    · exact absurd h2.1 hd
    · exact .inr ⟨g, h1, h2⟩
theorem D3.inx {x y : Lk} {S T T' : List (List Nat)} {W : List Fr} {dx : Int} {f : Fr} (h : D3 x y (f :: W) dx) (hD : Dir x y S T) (hD' : Dir (inL x f) y S T') (hF : forB x f = true) : D3 (inL x f) y W dx := by
  have hu := used_in hD hD'
  refine ⟨by rw [hu]; exact h.1, ?_⟩
  rw [hu]
  rcases h.2 with h1 | ⟨g, h1, h2⟩
  · exact .inl (by rw [(in_parts hF).2.1, h1]; simp)
  · rcases List.mem_cons.1 h1 with rfl | h1
    · exact .inl (op_in hF h2.2)
    · exact .inr ⟨g, h1, h2⟩
end linkBrings
end Go.Proofs.Ytofigofaiadffaa
