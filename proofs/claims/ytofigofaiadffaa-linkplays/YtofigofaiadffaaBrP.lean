/- Two links over a net, plain: what is got is a beginning of what was sent. -/
import Derived.Test.YtofigofaiadffaaAlv
namespace Go.Proofs.Ytofigofaiadffaa
open Go.RowKit Go.ChangeShapes Go.WideShapes Go.ChangeAt Go.Deep

namespace linkBrings
/-- One direction: x sends S to y, which got T. -/
structure Dir (x y : Lk) (S T : List (List Nat)) : Prop where
  used : x.acked + x.op.length = S.length
  op : ∀ i (h : i < x.op.length), S[x.acked + i]? = some x.op[i].x
  len : x.op.length ≤ 8
  ack : x.acked ≤ y.came
  came : y.came ≤ S.length
  got : T = S.take y.came
  ea : ∀ n v, y.ea n = some v → 1 ≤ n ∧ S[n - 1]? = some v
  nxt : y.ea (y.came + 1) = none
  far : ∀ n, y.came + 8 < n → y.ea n = none
  sz : ∀ v ∈ S, v.length ≤ 200
/-- A frame of a side that sends S, and up to whose number c all came in. -/
def FrOk (c : Nat) (S : List (List Nat)) (f : Fr) : Prop := (∃ k : Nat, f.ak = (k : Int) ∧ k ≤ c) ∧ f.x.length ≤ 200 ∧ (f.sq = 0 ∨ ∃ n : Nat, 1 ≤ n ∧ f.sq = (n : Int) ∧ S[n - 1]? = some f.x)
theorem FrOk.mono {c c' : Nat} {S S' : List (List Nat)} {f : Fr} (h : FrOk c S f) (hc : c ≤ c') (hS : ∀ (n : Nat) v, S[n]? = some v → S'[n]? = some v) : FrOk c' S' f := by
  obtain ⟨⟨k, h1, h2⟩, h3, h4⟩ := h
  refine ⟨⟨k, h1, by omega⟩, h3, ?_⟩
  rcases h4 with h4 | ⟨n, h5, h6, h7⟩
  · exact .inl h4
  · exact .inr ⟨n, h5, h6, hS _ _ h7⟩
theorem get_snoc {S : List (List Nat)} {v : List Nat} {n : Nat} {u : List Nat} (h : S[n]? = some u) : (S ++ [v])[n]? = some u := by
  have := (List.getElem?_eq_some_iff.1 h).1
  rw [List.getElem?_append_left this]; exact h
/-- x sends one more. -/
theorem Dir.send {x y : Lk} {S T : List (List Nat)} (h : Dir x y S T) {v : List Nat} (hv : v.length ≤ 200) (h8 : x.op.length < 8) : Dir { x with op := x.op ++ [⟨v, 0, 0⟩] } y (S ++ [v]) T := by
  refine ⟨by simp; have := h.used; omega, fun i hi => ?_, by simp; omega, h.ack, by simp; have := h.came; omega, ?_, fun n u hu => ?_, h.nxt, h.far, fun u hu => ?_⟩
  · simp only [List.length_append, List.length_singleton] at hi
    by_cases e : i = x.op.length
    · subst e
      have := h.used
      rw [List.getElem?_append_right (by simp only; omega)]
      simp [show x.acked + x.op.length - S.length = 0 by omega]
    · have hi' : i < x.op.length := by omega
      simp only [List.getElem_append_left hi']
      exact get_snoc (h.op i hi')
  · rw [h.got, List.take_append_of_le_length h.came]
  · exact ⟨(h.ea n u hu).1, get_snoc (h.ea n u hu).2⟩
  · rw [List.mem_append, List.mem_singleton] at hu
    rcases hu with hu | rfl
    · exact h.sz u hu
    · exact hv
/-- y sends one more: nothing for x's loads. -/
theorem Dir.sendy {x y : Lk} {S T : List (List Nat)} (h : Dir x y S T) (l : List Op) : Dir x { y with op := l } S T := ⟨h.used, h.op, h.len, h.ack, h.came, h.got, h.ea, h.nxt, h.far, h.sz⟩
theorem Dir.out {x y : Lk} {S T : List (List Nat)} (h : Dir x y S T) (now : Int) : Dir (outL x now) y S T := by
  refine ⟨by unfold outL; simp; exact h.used, fun i hi => ?_, by unfold outL; simp; exact h.len, h.ack, h.came, h.got, h.ea, h.nxt, h.far, h.sz⟩
  have hi' : i < x.op.length := by unfold outL at hi; simpa using hi
  have := h.op i hi'
  have e : (outL x now).op[i] = dueO now x.op[i] := by
    show (x.op.map (dueO now))[i]'(by simpa using hi') = _
    rw [List.getElem_map]
  rw [e]
  show S[x.acked + i]? = _
  rw [this]
  unfold dueO
  split <;> rfl
theorem Dir.outy {x y : Lk} {S T : List (List Nat)} (h : Dir x y S T) (now : Int) : Dir x (outL y now) S T := ⟨h.used, h.op, h.len, h.ack, h.came, h.got, h.ea, h.nxt, h.far, h.sz⟩
theorem dueF_mem {now : Int} {p : Nat × List Nat} : ∀ (l : List Op) (n : Nat), p ∈ dueF now n l → ∃ i, ∃ h : i < l.length, p = (n + i, l[i].x) ∧ dueB l[i] now = true := by
  intro l
  induction l with
  | nil => intro n h; simp [dueF] at h
  | cons o r ih =>
    intro n h
    simp only [dueF, List.mem_append] at h
    rcases h with h | h
    · by_cases hd : dueB o now = true
      · rw [if_pos hd] at h
        simp at h
        exact ⟨0, by simp, by simpa using h, hd⟩
      · rw [if_neg hd] at h; simp at h
    · obtain ⟨i, hi, h1, h2⟩ := ih (n + 1) h
      refine ⟨i + 1, by simp; omega, ?_, by simpa using h2⟩
      rw [h1]
      simp
      omega
theorem mem_dueF {now : Int} : ∀ (l : List Op) (n i : Nat) (h : i < l.length), dueB l[i] now = true → (n + i, l[i].x) ∈ dueF now n l := by
  intro l
  induction l with
  | nil => intro n i h; simp at h
  | cons o r ih =>
    intro n i h hd
    simp only [dueF, List.mem_append]
    cases i with
    | zero =>
      left
      simp only [List.getElem_cons_zero] at hd
      rw [if_pos hd]
      simp
    | succ i =>
      right
      have := ih (n + 1) i (by simpa using h) (by simpa using hd)
      rw [show n + (i + 1) = n + 1 + i by omega]
      simpa using this
theorem frames_ok {x y : Lk} {S T : List (List Nat)} (h : Dir x y S T) (now : Int) : ∀ f ∈ outF x now, f.fr = x.self ∧ f.tt = x.peer ∧ f.lf = x.life ∧ FrOk x.came S f ∧ f.ak = (x.came : Int) := by
  intro f hf
  unfold outF at hf
  obtain ⟨p, hp, rfl⟩ := List.mem_map.1 hf
  refine ⟨rfl, rfl, rfl, ⟨⟨x.came, rfl, Nat.le_refl _⟩, ?_⟩, rfl⟩
  unfold outP at hp
  simp only at hp
  split at hp
  · simp at hp
    subst hp
    exact ⟨by simp [Lk.frame], .inl rfl⟩
  · obtain ⟨i, hi, rfl, _⟩ := dueF_mem _ _ hp
    have h1 := h.op i hi
    refine ⟨h.sz _ (List.mem_of_getElem? h1), .inr ⟨x.acked + 1 + i, by omega, rfl, ?_⟩⟩
    rw [show x.acked + 1 + i - 1 = x.acked + i by omega]
    exact h1
/-- y takes a frame that x may have sent: it is for it. -/
theorem for_ok {x y : Lk} {S S' T' : List (List Nat)} {f : Fr} (h' : Dir y x S' T') (hf : FrOk x.came S f) (h1 : f.fr = y.peer) (h2 : f.tt = y.self) (h3 : f.lf = y.theirs) : forB y f = true := by
  obtain ⟨⟨k, e, hk⟩, hx, hs⟩ := hf
  have hc := h'.came
  have hu := h'.used
  unfold forB Lk.used
  simp only [decide_eq_true_eq]
  refine ⟨h1, h2, h3, by rw [e]; omega, ?_, by omega⟩
  rcases hs with hs | ⟨n, _, hs, _⟩
  · omega
  · omega
theorem acc_parts (s : Lk) (n : Int) (x : List Nat) : (accL s n x).acked = s.acked ∧ (accL s n x).op = s.op ∧ (accL s n x).owed = true ∧ s.came ≤ (accL s n x).came := by
  unfold accL
  split
  · exact ⟨rfl, rfl, rfl, Nat.le_refl _⟩
  · exact ⟨rfl, rfl, rfl, by simp⟩
theorem in_parts {y : Lk} {f : Fr} (hF : forB y f = true) : (inL y f).acked = max y.acked f.ak.toNat ∧ (inL y f).op = y.op.drop (f.ak.toNat - y.acked) ∧ y.came ≤ (inL y f).came ∧ (inL y f).self = y.self ∧ (inL y f).peer = y.peer ∧ (inL y f).life = y.life ∧ (inL y f).theirs = y.theirs ∧ (inL y f).last = y.last ∧ (f.sq ≠ 0 → (inL y f).owed = true) ∧ (f.sq = 0 → (inL y f).owed = y.owed) := by
  unfold inL
  rw [if_pos hF]
  by_cases h0 : f.sq = 0
  · rw [if_pos h0]
    exact ⟨rfl, rfl, Nat.le_refl _, rfl, rfl, rfl, rfl, rfl, fun h => absurd h0 h, fun _ => rfl⟩
  · rw [if_neg h0]
    have h1 := acc_parts (closeL y f.ak) f.sq f.x
    refine ⟨h1.1, h1.2.1, h1.2.2.2, ?_, ?_, ?_, ?_, ?_, fun _ => h1.2.2.1, fun h => absurd h h0⟩ <;> (unfold accL; split <;> rfl)
/-- The other direction: what y sent is acknowledged. -/
theorem Dir.closed {x y : Lk} {S' T' : List (List Nat)} {f : Fr} (h : Dir y x S' T') {S : List (List Nat)} (hf : FrOk x.came S f) (hF : forB y f = true) : Dir (inL y f) x S' T' := by
  obtain ⟨⟨k, e, hk⟩, hx, hs⟩ := hf
  obtain ⟨p1, p2, _⟩ := in_parts hF
  have hkn : f.ak.toNat = k := by omega
  rw [hkn] at p1 p2
  have hc := h.came
  have hu := h.used
  have ha := h.ack
  have hl := h.len
  refine ⟨by rw [p1, p2, List.length_drop]; omega, fun i hi => ?_, by rw [p2, List.length_drop]; omega, by rw [p1]; omega, h.came, h.got, h.ea, h.nxt, h.far, h.sz⟩
  have hi2 : i < (y.op.drop (k - y.acked)).length := by rw [p2] at hi; exact hi
  rw [List.length_drop] at hi2
  have h2 := h.op (k - y.acked + i) (by omega)
  rw [p1]
  simp only [p2, List.getElem_drop]
  rw [show max y.acked k + i = y.acked + (k - y.acked + i) by omega]
  exact h2
/-- What y takes in, in order, goes on with what was sent. -/
theorem Dir.took {x y : Lk} {S T : List (List Nat)} {f : Fr} (h : Dir x y S T) (hf : FrOk x.came S f) (hF : forB y f = true) : Dir x (inL y f) S (T ++ inF y f) := by
  obtain ⟨⟨k, e, hk⟩, hx, hs⟩ := hf
  unfold inF inL
  rw [if_pos hF, if_pos hF]
  by_cases h0 : f.sq = 0
  · rw [if_pos h0, if_pos h0, List.append_nil]
    exact ⟨h.used, h.op, h.len, h.ack, h.came, h.got, h.ea, h.nxt, h.far, h.sz⟩
  · rw [if_neg h0, if_neg h0]
    rcases hs with hs | ⟨n, hn1, hsq, hSn⟩
    · exact absurd hs h0
    have ec : (closeL y f.ak).came = y.came := rfl
    have ee : (closeL y f.ak).ea = y.ea := rfl
    unfold accF accL
    rw [ec, ee]
    by_cases hw : f.sq ≤ (y.came : Int) ∨ (y.came : Int) + 8 < f.sq
    · rw [if_pos hw, if_pos hw, List.append_nil]
      exact ⟨h.used, h.op, h.len, h.ack, h.came, h.got, h.ea, h.nxt, h.far, h.sz⟩
    · rw [if_neg hw, if_neg hw]
      have hnn : f.sq.toNat = n := by omega
      rw [hnn]
      have hk1 : ∀ m v, keepE y.ea n f.x m = some v → 1 ≤ m ∧ S[m - 1]? = some v := fun m v hv => by
        unfold keepE at hv
        split at hv
        · exact h.ea m v hv
        · by_cases em : m = n
          · subst em; rw [upd_same] at hv; cases hv; exact ⟨hn1, hSn⟩
          · rw [upd_ne _ _ _ _ em] at hv; exact h.ea m v hv
      have hfar : ∀ m, y.came + 8 < m → keepE y.ea n f.x m = none := fun m hm => by
        unfold keepE
        split
        · exact h.far m hm
        · rw [upd_ne _ _ _ _ (by omega)]; exact h.far m hm
      obtain ⟨L, hL⟩ : ∃ L, L = ordF (keepE y.ea n f.x) 8 y.came := ⟨_, rfl⟩
      have hall : ∀ j (hj : j < L.length), S[y.came + j]? = some L[j] := fun j hj => by
        subst hL
        have h2 := hk1 _ _ (ordF_lt _ 8 y.came j hj)
        rw [show y.came + 1 + j - 1 = y.came + j by omega] at h2
        exact h2.2
      have hle : y.came + L.length ≤ S.length := by
        rcases Nat.eq_zero_or_pos L.length with h3 | h3
        · have := h.came; omega
        · have := (List.getElem?_eq_some_iff.1 (hall (L.length - 1) (by omega))).1
          omega
      have hL8 : L.length ≤ 8 := by rw [hL]; exact ordF_len _ _ _
      have hnx : keepE y.ea n f.x (y.came + L.length + 1) = none := by
        rcases Nat.lt_or_ge L.length 8 with h3 | h3
        · have := ordF_end (keepE y.ea n f.x) 8 y.came (by rw [← hL]; exact h3)
          rw [← hL, show y.came + 1 + L.length = y.came + L.length + 1 by omega] at this
          exact this
        · exact hfar _ (by omega)
      rw [← hL]
      refine ⟨h.used, h.op, h.len, by have := h.ack; show x.acked ≤ y.came + L.length; omega, hle, ?_, hk1, hnx, fun m hm => hfar m (by simp only at hm; omega), h.sz⟩
      show T ++ L = S.take (y.came + L.length)
      rw [h.got, List.take_add]
      congr 1
      apply List.ext_getElem?
      intro j
      rw [List.getElem?_take, List.getElem?_drop]
      by_cases hj : j < L.length
      · rw [if_pos hj, hall j hj]; simp [hj]
      · rw [if_neg hj]; simp [List.getElem?_eq_none (Nat.le_of_not_lt hj)]
/-- Two sides and the net between them. -/
structure Pr where
  a : Lk
  b : Lk
  way : List Fr
  now : Nat
  to0 : List (List Nat)
  to1 : List (List Nat)
  s0 : List (List Nat)
  s1 : List (List Nat)
def IdA (s : Lk) : Prop := s.self = 0 ∧ s.peer = 1 ∧ s.life = 1 ∧ s.theirs = 1 ∧ s.last = 100000
def IdB (s : Lk) : Prop := s.self = 1 ∧ s.peer = 0 ∧ s.life = 1 ∧ s.theirs = 1 ∧ s.last = 100000
def FrA (p : Pr) (f : Fr) : Prop := f.tt = 1 ∧ f.fr = 0 ∧ f.lf = 1 ∧ FrOk p.a.came p.s1 f
def FrB (p : Pr) (f : Fr) : Prop := f.tt = 0 ∧ f.fr = 1 ∧ f.lf = 1 ∧ FrOk p.b.came p.s0 f
def TmO (l : List Op) (now : Nat) : Prop := ∀ o ∈ l, 0 ≤ o.wt ∧ o.wt ≤ 64 ∧ (o.wt = 0 ∨ o.tm ≤ (now : Int))
structure Inv (p : Pr) : Prop where
  ab : Dir p.a p.b p.s1 p.to1
  ba : Dir p.b p.a p.s0 p.to0
  ida : IdA p.a
  idb : IdB p.b
  fr : ∀ f ∈ p.way, FrA p f ∨ FrB p f
  ta : TmO p.a.op p.now
  tb : TmO p.b.op p.now
def pr0 : Pr := ⟨newL 0 1 1 1 100000, newL 1 0 1 1 100000, [], 0, [], [], [], []⟩
theorem inv0 : Inv pr0 := by
  have d : ∀ s p l t s' p' l' t', Dir (newL s p l t 100000) (newL s' p' l' t' 100000) [] [] := fun _ _ _ _ _ _ _ _ => ⟨rfl, fun i h => by simp [newL] at h, by simp [newL], by simp [newL], by simp [newL], rfl, fun n v h => by simp [newL] at h, rfl, fun _ _ => rfl, fun v h => by cases h⟩
  exact ⟨d _ _ _ _ _ _ _ _, d _ _ _ _ _ _ _ _, ⟨rfl, rfl, rfl, rfl, rfl⟩, ⟨rfl, rfl, rfl, rfl, rfl⟩, (fun f h => by cases h), (fun o h => by cases h), (fun o h => by cases h)⟩
def inP (p : Pr) (f : Fr) : Pr := if f.tt = 0 then { p with a := inL p.a f, to0 := p.to0 ++ inF p.a f } else { p with b := inL p.b f, to1 := p.to1 ++ inF p.b f }
def inOk (p : Pr) (f : Fr) : Bool := if f.tt = 0 then forB p.a f else forB p.b f
def sndA (p : Pr) (x : List Nat) : Pr := if sendE p.a x = 0 then { p with a := sendL p.a x, s1 := p.s1 ++ [x] } else { p with a := sendL p.a x }
def sndB (p : Pr) (x : List Nat) : Pr := if sendE p.b x = 0 then { p with b := sendL p.b x, s0 := p.s0 ++ [x] } else { p with b := sendL p.b x }
def outA (p : Pr) : Pr := { p with a := outL p.a p.now, way := p.way ++ outF p.a p.now, now := p.now + 1 }
def outB (p : Pr) : Pr := { p with b := outL p.b p.now, way := p.way ++ outF p.b p.now, now := p.now + 1 }
theorem TmO.drop {l : List Op} {now : Nat} (h : TmO l now) (k : Nat) : TmO (l.drop k) now := fun o ho => h o (List.mem_of_mem_drop ho)
theorem TmO.out {l : List Op} {now : Nat} (h : TmO l now) : TmO (l.map (dueO now)) (now + 1) := fun o ho => by
  obtain ⟨q, hq, rfl⟩ := List.mem_map.1 ho
  have h1 := h q hq
  unfold dueO
  split
  · unfold goO; simp only; refine ⟨by omega, by omega, .inr (by omega)⟩
  · exact ⟨h1.1, h1.2.1, h1.2.2.elim .inl fun h => .inr (by omega)⟩
theorem TmO.later {l : List Op} {now : Nat} (h : TmO l now) : TmO l (now + 1) := fun o ho => ⟨(h o ho).1, (h o ho).2.1, (h o ho).2.2.elim .inl fun h => .inr (by omega)⟩
theorem Inv.sndA {p : Pr} (h : Inv p) {x : List Nat} (hx : x.length ≤ 200) : Inv (sndA p x) := by
  unfold linkBrings.sndA
  by_cases he : sendE p.a x = 0
  · rw [if_pos he]
    have hta : TmO (p.a.op ++ [⟨x, 0, 0⟩]) p.now := fun o ho => by
      simp only [List.mem_append, List.mem_singleton] at ho
      rcases ho with ho | rfl
      · exact h.ta o ho
      · exact ⟨by simp, by simp, .inl rfl⟩
    have hs : sendL p.a x = { p.a with op := p.a.op ++ [⟨x, 0, 0⟩] } := by unfold sendL; rw [if_pos he]
    have h8 : p.a.op.length < 8 := by
      unfold sendE at he
      rw [if_neg (by omega)] at he
      split at he
      · simp at he
      · split at he
        · simp at he
        · omega
    refine ⟨by rw [hs]; exact h.ab.send hx h8, by rw [hs]; exact h.ba.sendy _, by rw [hs]; exact h.ida, h.idb, fun f hf => ?_, by rw [hs]; exact hta, h.tb⟩
    · rcases h.fr f hf with ⟨q1, q2, q3, q4⟩ | hq
      · exact .inl ⟨q1, q2, q3, by rw [hs]; exact q4.mono (Nat.le_refl _) fun n v h => get_snoc h⟩
      · exact .inr hq
  · rw [if_neg he]
    have hs : sendL p.a x = p.a := by unfold sendL; rw [if_neg he]
    rw [hs]
    exact h
theorem Inv.sndB {p : Pr} (h : Inv p) {x : List Nat} (hx : x.length ≤ 200) : Inv (sndB p x) := by
  unfold linkBrings.sndB
  by_cases he : sendE p.b x = 0
  · rw [if_pos he]
    have hta : TmO (p.b.op ++ [⟨x, 0, 0⟩]) p.now := fun o ho => by
      simp only [List.mem_append, List.mem_singleton] at ho
      rcases ho with ho | rfl
      · exact h.tb o ho
      · exact ⟨by simp, by simp, .inl rfl⟩
    have hs : sendL p.b x = { p.b with op := p.b.op ++ [⟨x, 0, 0⟩] } := by unfold sendL; rw [if_pos he]
    have h8 : p.b.op.length < 8 := by
      unfold sendE at he
      rw [if_neg (by omega)] at he
      split at he
      · simp at he
      · split at he
        · simp at he
        · omega
    refine ⟨by rw [hs]; exact h.ab.sendy _, by rw [hs]; exact h.ba.send hx h8, h.ida, by rw [hs]; exact h.idb, fun f hf => ?_, h.ta, by rw [hs]; exact hta⟩
    · rcases h.fr f hf with hq | ⟨q1, q2, q3, q4⟩
      · exact .inl hq
      · exact .inr ⟨q1, q2, q3, by rw [hs]; exact q4.mono (Nat.le_refl _) fun n v h => get_snoc h⟩
  · rw [if_neg he]
    have hs : sendL p.b x = p.b := by unfold sendL; rw [if_neg he]
    rw [hs]
    exact h
theorem Inv.outA {p : Pr} (h : Inv p) : Inv (outA p) := by
  refine ⟨h.ab.out _, h.ba.outy _, h.ida, h.idb, fun f hf => ?_, h.ta.out, h.tb.later⟩
  simp only [linkBrings.outA, List.mem_append] at hf
  rcases hf with hf | hf
  · exact h.fr f hf
  · obtain ⟨q1, q2, q3, q4, _⟩ := frames_ok h.ab _ f hf
    exact .inl ⟨by rw [q2, h.ida.2.1], by rw [q1, h.ida.1], by rw [q3, h.ida.2.2.1], q4⟩
theorem Inv.outB {p : Pr} (h : Inv p) : Inv (outB p) := by
  refine ⟨h.ab.outy _, h.ba.out _, h.ida, h.idb, fun f hf => ?_, h.ta.later, h.tb.out⟩
  simp only [linkBrings.outB, List.mem_append] at hf
  rcases hf with hf | hf
  · exact h.fr f hf
  · obtain ⟨q1, q2, q3, q4, _⟩ := frames_ok h.ba _ f hf
    exact .inr ⟨by rw [q2, h.idb.2.1], by rw [q1, h.idb.1], by rw [q3, h.idb.2.2.1], q4⟩
theorem Inv.way {p : Pr} (h : Inv p) {W : List Fr} (hW : ∀ f ∈ W, f ∈ p.way) : Inv { p with way := W } := ⟨h.ab, h.ba, h.ida, h.idb, fun f hf => h.fr f (hW f hf), h.ta, h.tb⟩
/-- A frame on the way comes in: it is taken, and all stands as before. -/
theorem Inv.inn {p : Pr} (h : Inv p) {f : Fr} (hf : FrA p f ∨ FrB p f) : inOk p f = true ∧ Inv (inP p f) := by
  unfold inOk inP
  rcases hf with ⟨q1, q2, q3, q4⟩ | ⟨q1, q2, q3, q4⟩
  · have hF : forB p.b f = true := for_ok (x := p.a) h.ba q4 (by rw [q2, h.idb.2.1]) (by rw [q1, h.idb.1]) (by rw [q3, h.idb.2.2.2.1])
    obtain ⟨p1, p2, p3, p4, p5, p6, p7, p8, _⟩ := in_parts hF
    rw [if_neg (by rw [q1]; decide), if_neg (by rw [q1]; decide)]
    refine ⟨hF, h.ab.took q4 hF, h.ba.closed q4 hF, h.ida, ⟨by rw [p4]; exact h.idb.1, by rw [p5]; exact h.idb.2.1, by rw [p6]; exact h.idb.2.2.1, by rw [p7]; exact h.idb.2.2.2.1, by rw [p8]; exact h.idb.2.2.2.2⟩, fun g hg => ?_, h.ta, by show TmO (inL p.b f).op p.now; rw [p2]; exact h.tb.drop _⟩
    rcases h.fr g hg with hq | ⟨r1, r2, r3, r4⟩
    · exact .inl hq
    · exact .inr ⟨r1, r2, r3, r4.mono p3 fun _ _ h => h⟩
  · have hF : forB p.a f = true := for_ok (x := p.b) h.ab q4 (by rw [q2, h.ida.2.1]) (by rw [q1, h.ida.1]) (by rw [q3, h.ida.2.2.2.1])
    obtain ⟨p1, p2, p3, p4, p5, p6, p7, p8, _⟩ := in_parts hF
    rw [if_pos q1, if_pos q1]
    refine ⟨hF, h.ab.closed q4 hF, h.ba.took q4 hF, ⟨by rw [p4]; exact h.ida.1, by rw [p5]; exact h.ida.2.1, by rw [p6]; exact h.ida.2.2.1, by rw [p7]; exact h.ida.2.2.2.1, by rw [p8]; exact h.ida.2.2.2.2⟩, h.idb, fun g hg => ?_, by show TmO (inL p.a f).op p.now; rw [p2]; exact h.ta.drop _, h.tb⟩
    rcases h.fr g hg with ⟨r1, r2, r3, r4⟩ | hq
    · exact .inl ⟨r1, r2, r3, r4.mono p3 fun _ _ h => h⟩
    · exact .inr hq
end linkBrings
end Go.Proofs.Ytofigofaiadffaa
