/- TablePlays: the two tables side by side, plain. -/
import Derived.Test.YtandbkbodlbjcaaArgT
namespace Go.Proofs.Ytandbkbodlbjcaa
open Go.RowKit Go.ChangeShapes Go.WideShapes Go.ChangeAt Go.Deep Go.Maps Go.Sort

namespace tablePlays
theorem nodup_le {l m : List ByteArray} (hl : l.Nodup) (hm : m.Nodup) (h : ∀ x ∈ l, x ∈ m) : l.length ≤ m.length := by
  induction l generalizing m with
  | nil => simp
  | cons a r ih =>
    obtain ⟨h1, h2⟩ := List.nodup_cons.1 hl
    have ha := h a (by simp)
    have hd := del_len hm a
    rw [inB_iff.2 ha] at hd
    have := ih h2 (del_nodup hm a) (fun x hx => mem_del.2 ⟨h x (by simp [hx]), fun e => h1 (e ▸ hx)⟩)
    simp at hd ⊢
    omega
theorem rise_nodup {l : List ByteArray} (h : l.Pairwise ltB) : l.Nodup := h.imp (fun {a b} hab (e : a = b) => by subst e; exact ltB_irrefl a hab)
theorem rise_len {R l : List ByteArray} (hR : R.Pairwise ltB) (hl : l.Nodup) (h : ∀ x, x ∈ R ↔ x ∈ l) : R.length = l.length :=
  Nat.le_antisymm (nodup_le (rise_nodup hR) hl (fun x hx => (h x).1 hx)) (nodup_le hl (rise_nodup hR) (fun x hx => (h x).2 hx))
end tablePlays
open tablePlays

theorem leave_snd (L : List ByteArray) : ∀ s : List ByteArray × Pk, (L.foldl leaveS s).2 = s.2.filter fun q => !inB L q.2 := by
  induction L with
  | nil => intro s; exact (List.filter_eq_self.2 (fun _ _ => rfl)).symm
  | cons x r ih =>
    intro s
    rw [List.foldl_cons, ih]
    simp only [leaveS, rest1, List.filter_filter]
    congr 1
    funext q
    by_cases h : q.2 = x
    · simp [inB, h]
    · have h' : ¬ x = q.2 := fun e => h e.symm
      simp [inB, h, h']
theorem leaveL_snd (p : Pk) (L : List ByteArray) : (leaveL p L).2 = stay p L := leave_snd L ([], p)
theorem leave_fst (L : List ByteArray) (x : ByteArray) : ∀ s : List ByteArray × Pk, x ∈ (L.foldl leaveS s).1 ↔ x ∈ s.1 ∨ ∃ q ∈ s.2, q.1 = x ∧ q.2 ∈ L := by
  induction L with
  | nil => intro s; simp
  | cons y r ih =>
    intro s
    rw [List.foldl_cons, ih]
    simp only [leaveS, rest1, kids, List.mem_append, List.mem_map, List.mem_filter, List.mem_cons, decide_eq_true_eq]
    constructor
    · rintro ((h | ⟨q, ⟨h1, h2⟩, h3⟩) | ⟨q, ⟨h1, h2⟩, h3, h4⟩)
      · exact .inl h
      · exact .inr ⟨q, h1, h3, .inl h2⟩
      · exact .inr ⟨q, h1, h3, .inr h4⟩
    · rintro (h | ⟨q, h1, h3, h4⟩)
      · exact .inl (.inl h)
      · by_cases e : q.2 = y
        · exact .inl (.inr ⟨q, ⟨h1, e⟩, h3⟩)
        · exact .inr ⟨q, ⟨h1, e⟩, h3, h4.resolve_left e⟩
theorem woke_mem (p : Pk) (L : List ByteArray) (x : ByteArray) : x ∈ woke p L ↔ x ∈ (leaveL p L).1 := by
  unfold woke leaveL
  rw [sort_mem, leave_fst]
  simp only [nms, List.mem_map, List.mem_filter, List.not_mem_nil, false_or]
  constructor
  · rintro ⟨q, ⟨h1, h2⟩, h3⟩
    exact ⟨q, h1, h3, inB_iff.1 h2⟩
  · rintro ⟨q, h1, h3, h2⟩
    exact ⟨q, ⟨h1, inB_iff.2 h2⟩, h3⟩
theorem woke_is {p : Pk} {L R : List ByteArray} (h1 : R.Pairwise ltB) (h2 : ∀ x, x ∈ R ↔ x ∈ (leaveL p L).1) : R = woke p L :=
  rise_unique _ _ h1 (sort_rise _) (fun x => by rw [h2, woke_mem])
theorem putB_len {L : List ByteArray} {x : ByteArray} (h : x ∉ L) : (putB L x).length = L.length + 1 := by
  unfold putB
  rw [if_neg (fun e => h (List.mem_of_getElem? e))]
  simp
  omega
theorem putB_rise {L : List ByteArray} (h : L.Pairwise ltB) (x : ByteArray) : (putB L x).Pairwise ltB ∧ ∀ y, y ∈ putB L x ↔ y ∈ L ∨ y = x := by
  have := fold_rise [x] L h
  simpa using this
theorem woke_stay (p : Pk) (L : List ByteArray) (hn : (nms p).Nodup) : (∀ x, x ∈ nms p ↔ x ∈ woke p L ∨ x ∈ nms (stay p L)) ∧ (∀ x ∈ woke p L, x ∉ nms (stay p L)) ∧ (nms (stay p L)).Nodup ∧ (woke p L).Nodup ∧ (woke p L).length + (stay p L).length = p.length := by
  have hw : ∀ x, x ∈ woke p L ↔ x ∈ nms (p.filter fun q => inB L q.2) := fun x => by unfold woke; exact sort_mem _ _
  have hsub : (nms (p.filter fun q => inB L q.2)).Nodup := List.Nodup.sublist (List.Sublist.map _ List.filter_sublist) hn
  have hwn : (woke p L).Nodup := rise_nodup (sort_rise _)
  have hlen : (woke p L).length = (p.filter fun q => inB L q.2).length := by
    have := rise_len (sort_rise (nms (p.filter fun q => inB L q.2))) hsub (fun x => sort_mem _ _)
    unfold woke
    rw [this]
    simp [nms]
  have inj : ∀ a ∈ p, ∀ b ∈ p, a.1 = b.1 → a = b := by
    have := hn
    unfold nms at this
    intro a ha b hb e
    obtain ⟨i, hi⟩ := List.getElem?_of_mem ha
    obtain ⟨j, hj⟩ := List.getElem?_of_mem hb
    have h1 : (p.map Prod.fst)[i]? = some a.1 := by simp [hi]
    have h2 : (p.map Prod.fst)[j]? = some a.1 := by simp [hj, e]
    have := (List.getElem?_inj (List.getElem?_eq_some_iff.1 h1).1 this).1 (h1.trans h2.symm)
    subst this
    rw [hi] at hj
    exact Option.some.inj hj
  refine ⟨fun x => ?_, fun x hx hs => ?_, List.Nodup.sublist (List.Sublist.map _ List.filter_sublist) hn, hwn, ?_⟩
  · rw [hw]
    simp only [nms, stay, List.mem_map, List.mem_filter]
    constructor
    · rintro ⟨q, h1, h2⟩
      cases hq : inB L q.2
      · exact .inr ⟨q, ⟨h1, by simp [hq]⟩, h2⟩
      · exact .inl ⟨q, ⟨h1, hq⟩, h2⟩
    · rintro (⟨q, ⟨h1, _⟩, h2⟩ | ⟨q, ⟨h1, _⟩, h2⟩) <;> exact ⟨q, h1, h2⟩
  · rw [hw] at hx
    simp only [nms, stay, List.mem_map, List.mem_filter] at hx hs
    obtain ⟨q, ⟨h1, h2⟩, h3⟩ := hx
    obtain ⟨r, ⟨g1, g2⟩, g3⟩ := hs
    have := inj q h1 r g1 (h3.trans g3.symm)
    subst this
    rw [h2] at g2
    simp at g2
  · rw [hlen]
    unfold stay
    clear hw hsub hwn hlen inj hn
    induction p with
    | nil => rfl
    | cons a r ih =>
      cases h : inB L a.2 <;> simp [h] at ih ⊢ <;> omega

/-- The two tables after k acts. -/
structure PR (m : Int) (T : Tb) (U : Rt) (k : Nat) : Prop where
  mT : T.mx = m
  mU : U.mx = m
  r : U.rdy = T.rdy
  p : U.prk = T.prk
  gr : U.goi.Pairwise ltB
  gm : ∀ x, x ∈ U.goi ↔ x ∈ T.goi
  gl : U.goi.length = T.goi.length
  am : ∀ x, x ∈ T.al ↔ x ∈ T.rdy ∨ x ∈ T.goi ∨ x ∈ nms T.prk
  an : T.al.Nodup
  al : T.al.length = T.rdy.length + T.goi.length + T.prk.length
  rn : T.rdy.Nodup
  gn : T.goi.Nodup
  pn : (nms T.prk).Nodup
  rg : ∀ x ∈ T.rdy, x ∉ T.goi
  rp : ∀ x ∈ T.rdy, x ∉ nms T.prk
  gp : ∀ x ∈ T.goi, x ∉ nms T.prk
  lk : T.al.length ≤ k
  wt : T.wt ≤ k

theorem PR.new (m : Int) : PR m (Tb.new m) ⟨m, [], [], []⟩ 0 := by
  constructor <;> simp [Tb.new, nms]
theorem PR.more {m : Int} {T : Tb} {U : Rt} {k : Nat} (h : PR m T U k) : PR m T U (k + 1) := { h with lk := Nat.le_succ_of_le h.lk, wt := Nat.le_succ_of_le h.wt }
theorem PR.ginB {m : Int} {T : Tb} {U : Rt} {k : Nat} (h : PR m T U k) (x : ByteArray) : inB U.goi x = inB T.goi x := by
  cases hq : inB T.goi x
  · exact inB_no.2 (fun e => inB_no.1 hq ((h.gm x).1 e))
  · exact inB_iff.2 ((h.gm x).2 (inB_iff.1 hq))
theorem PR.all {m : Int} {T : Tb} {U : Rt} {k : Nat} (h : PR m T U k) : U.all = T.al.length := by
  unfold Rt.all
  rw [h.r, h.p, h.gl, h.al]
theorem del_l {S : List ByteArray} (h : S.Nodup) {x : ByteArray} (hx : x ∈ S) : (del S x).length + 1 = S.length := by
  have := del_len h x
  rw [if_pos (inB_iff.2 hx)] at this
  exact this

theorem PR.add {m : Int} {T : Tb} {U : Rt} {k : Nat} (h : PR m T U k) (x : ByteArray) : (addT T x).1 = (raddT U x).1 ∧ PR m (addT T x).2 (raddT U x).2 (k + 1) := by
  have e1 : inB (sortR (nms U.prk)) x = inB (nms T.prk) x := by
    rw [h.p]
    cases hq : inB (nms T.prk) x
    · exact inB_no.2 (fun e => inB_no.1 hq ((sort_mem _ _).1 e))
    · exact inB_iff.2 ((sort_mem _ _).2 (inB_iff.1 hq))
  have e2 : inB T.al x = (inB T.rdy x || inB T.goi x || inB (nms T.prk) x) := by
    cases hq : inB T.al x
    · have := inB_no.1 hq
      rw [h.am] at this
      simp only [not_or] at this
      rw [inB_no.2 this.1, inB_no.2 this.2.1, inB_no.2 this.2.2]
      rfl
    · have := inB_iff.1 hq
      rw [h.am] at this
      rcases this with t | t | t <;> simp [inB_iff.2 t]
  have e3 : raddN U x = (validL x.data.toList && !inB T.al x) := by
    unfold raddN
    rw [h.r, h.ginB, e1, e2]
    cases validL x.data.toList <;> cases inB T.rdy x <;> cases inB T.goi x <;> cases inB (nms T.prk) x <;> rfl
  have e4 : raddM U ≤ (U.all : Int) ↔ T.mx ≤ (T.al.length : Int) ∧ 1 ≤ T.al.length := by
    rw [h.all, h.mT]
    unfold raddM
    rw [h.mU]
    split <;> omega
  unfold addT raddT
  rw [e3]
  cases hv : validL x.data.toList with
  | false => simp; exact h.more
  | true =>
    cases ha : inB T.al x with
    | true => simp; exact h.more
    | false =>
      by_cases hf : T.mx ≤ (T.al.length : Int) ∧ 1 ≤ T.al.length
      · rw [if_neg (by simp), if_pos hf, if_neg (by simp), if_pos (e4.2 hf)]
        exact ⟨rfl, h.more⟩
      · rw [if_neg (by simp), if_neg hf, if_neg (by simp), if_neg (fun q => hf (e4.1 q))]
        have hx := inB_no.1 ha
        have hx2 := hx
        rw [h.am] at hx2
        simp only [not_or] at hx2
        refine ⟨rfl, ⟨h.mT, h.mU, by simp [h.r], h.p, h.gr, h.gm, h.gl, fun y => ?_, List.nodup_cons.2 ⟨hx, h.an⟩, ?_, ?_, h.gn, h.pn, fun y hy => ?_, fun y hy => ?_, h.gp, ?_, ?_⟩⟩
        · have := h.am y
          grind
        · have := h.al
          simp; omega
        · have := h.rn
          grind
        · have := h.rg y
          grind
        · have := h.rp y
          grind
        · have := h.lk; simp; omega
        · have := h.wt; simp; omega

theorem PR.next {m : Int} {T : Tb} {U : Rt} {k : Nat} {L : List ByteArray} {x : ByteArray} (h : PR m T U k) (hL : T.rdy = L ++ [x]) : PR m { T with rdy := L, goi := x :: T.goi } { U with rdy := L, goi := putB U.goi x } (k + 1) := by
  have hx : x ∉ T.goi := h.rg x (by rw [hL]; simp)
  have hp : x ∉ nms T.prk := h.rp x (by rw [hL]; simp)
  have hxU : x ∉ U.goi := fun e => hx ((h.gm x).1 e)
  obtain ⟨q1, q2⟩ := putB_rise h.gr x
  have hrn := h.rn
  rw [hL] at hrn
  have hrg := h.rg
  rw [hL] at hrg
  have hrp := h.rp
  rw [hL] at hrp
  have ham := h.am
  rw [hL] at ham
  have hal := h.al
  rw [hL] at hal
  simp at hal
  refine ⟨h.mT, h.mU, rfl, h.p, q1, fun y => ?_, ?_, fun y => ?_, h.an, ?_, ?_, List.nodup_cons.2 ⟨hx, h.gn⟩, h.pn, fun y hy => ?_, fun y hy => ?_, fun y hy => ?_, Nat.le_succ_of_le h.lk, Nat.le_succ_of_le h.wt⟩
  · have := h.gm y
    have := q2 y
    grind
  · rw [putB_len hxU, h.gl]; simp
  · have := ham y
    grind
  · simp; omega
  · grind
  · have := hrg y
    grind
  · have := hrp y
    grind
  · have := h.gp y
    grind

theorem PR.back {m : Int} {T : Tb} {U : Rt} {k : Nat} (h : PR m T U k) (x : ByteArray) : (backT T x).1 = inB U.goi x ∧ PR m (backT T x).2 (rbackU U x) (k + 1) := by
  unfold backT rbackU
  rw [h.ginB]
  cases hq : inB T.goi x with
  | false =>
    rw [if_neg (by simp), if_neg (by simp), del_id (inB_no.1 hq)]
    exact ⟨rfl, h.more⟩
  | true =>
    rw [if_pos rfl, if_pos rfl]
    have hx := inB_iff.1 hq
    have hl := del_l h.gn hx
    have hlU := del_l (rise_nodup h.gr) ((h.gm x).2 hx)
    have hgl := h.gl
    have hal := h.al
    have hxr : x ∉ T.rdy := fun e => h.rg x e hx
    have hxp := h.gp x hx
    refine ⟨rfl, ⟨h.mT, h.mU, by simp [h.r], h.p, h.gr.filter _, fun y => ?_, by simp only; omega, fun y => ?_, h.an, by simp; omega, ?_, del_nodup h.gn x, h.pn, fun y hy => ?_, fun y hy => ?_, fun y hy => ?_, Nat.le_succ_of_le h.lk, Nat.le_succ_of_le h.wt⟩⟩
    · have := h.gm y
      simp only [mem_del]
      grind
    · have := h.am y
      simp only [mem_del]
      grind
    · have := h.rn
      grind
    · have := h.rg y
      simp only [mem_del]
      grind
    · have := h.rp y
      grind
    · have := h.gp y
      simp only [mem_del] at hy
      grind

theorem PR.park {m : Int} {T : Tb} {U : Rt} {k : Nat} (h : PR m T U k) (x on : ByteArray) : (parkT T x on).1 = rparkB U x on ∧ PR m (parkT T x on).2 (rparkU U x on) (k + 1) := by
  unfold parkT rparkU rparkB
  rw [h.ginB]
  cases hv : validL on.data.toList with
  | false => simp; exact h.more
  | true =>
    cases hq : inB T.goi x with
    | false =>
      simp
      rw [del_id (inB_no.1 hq)]
      exact h.more
    | true =>
      rw [if_neg (by simp), if_pos rfl, if_pos (by simp)]
      have hx := inB_iff.1 hq
      have hl := del_l h.gn hx
      have hlU := del_l (rise_nodup h.gr) ((h.gm x).2 hx)
      have hgl := h.gl
      have hal := h.al
      have hxr : x ∉ T.rdy := fun e => h.rg x e hx
      have hxp := h.gp x hx
      have en : nms (T.prk ++ [(x, on)]) = nms T.prk ++ [x] := by simp [nms]
      refine ⟨by simp, ⟨h.mT, h.mU, h.r, by simp [h.p], h.gr.filter _, fun y => ?_, by simp only; omega, fun y => ?_, h.an, by simp; omega, h.rn, del_nodup h.gn x, ?_, fun y hy => ?_, fun y hy => ?_, fun y hy => ?_, Nat.le_succ_of_le h.lk, Nat.succ_le_succ h.wt⟩⟩
      · have := h.gm y
        simp only [mem_del]
        grind
      · have := h.am y
        simp only [mem_del, en]
        grind
      · have := h.pn
        simp only [en]
        grind
      · have := h.rg y
        simp only [mem_del]
        grind
      · have := h.rp y
        simp only [en]
        grind
      · have := h.gp y
        simp only [mem_del, en] at hy ⊢
        grind

theorem PR.wake {m : Int} {T : Tb} {U : Rt} {k : Nat} (h : PR m T U k) (L : List ByteArray) : PR m { T with prk := stay T.prk L, rdy := T.rdy ++ woke T.prk L } { U with rdy := U.rdy ++ woke U.prk L, prk := stay U.prk L } (k + 1) := by
  obtain ⟨w1, w2, w3, w4, w5⟩ := woke_stay T.prk L h.pn
  have hal := h.al
  refine ⟨h.mT, h.mU, by simp [h.r, h.p], by simp [h.p], h.gr, h.gm, h.gl, fun y => ?_, h.an, by simp; omega, ?_, h.gn, w3, fun y hy => ?_, fun y hy => ?_, fun y hy => ?_, Nat.le_succ_of_le h.lk, Nat.le_succ_of_le h.wt⟩
  · have := h.am y
    have := w1 y
    grind
  · refine List.nodup_append.2 ⟨h.rn, w4, fun a ha b hb e => ?_⟩
    subst e
    exact h.rp a ha ((w1 a).2 (.inl hb))
  · have := h.rg y
    have := h.gp y
    have := w1 y
    grind
  · have := h.rp y
    have := w1 y
    have := w2 y
    grind
  · have := h.gp y hy
    have := w1 y
    grind

theorem PR.steal {m : Int} {T : Tb} {U : Rt} {k : Nat} {L : List ByteArray} {x : ByteArray} (h : PR m T U k) (hL : T.rdy = x :: L) : PR m { T with rdy := L, al := del T.al x } { U with rdy := L } (k + 1) := by
  have hx : x ∉ T.goi := h.rg x (by rw [hL]; simp)
  have hp : x ∉ nms T.prk := h.rp x (by rw [hL]; simp)
  have hxa : x ∈ T.al := (h.am x).2 (.inl (by rw [hL]; simp))
  have hrn := h.rn
  rw [hL] at hrn
  have hrg := h.rg
  rw [hL] at hrg
  have hrp := h.rp
  rw [hL] at hrp
  have ham := h.am
  rw [hL] at ham
  have hal := h.al
  rw [hL] at hal
  simp at hal
  have hl := del_l h.an hxa
  refine ⟨h.mT, h.mU, rfl, h.p, h.gr, h.gm, h.gl, fun y => ?_, del_nodup h.an x, by simp only; omega, (List.nodup_cons.1 hrn).2, h.gn, h.pn, fun y hy => hrg y (by simp [hy]), fun y hy => hrp y (by simp [hy]), h.gp, by have := h.lk; simp only; omega, Nat.le_succ_of_le h.wt⟩
  have := ham y
  simp only [mem_del]
  grind

theorem PR.done {m : Int} {T : Tb} {U : Rt} {k : Nat} (h : PR m T U k) (x : ByteArray) : (endT T x).1 = inB U.goi x ∧ PR m (endT T x).2 (rendU U x) (k + 1) := by
  unfold endT rendU
  rw [h.ginB]
  cases hq : inB T.goi x with
  | false =>
    rw [if_neg (by simp), del_id (inB_no.1 hq), del_id (inB_no.1 ((h.ginB x).trans hq))]
    exact ⟨rfl, h.more⟩
  | true =>
    rw [if_pos rfl]
    have hx := inB_iff.1 hq
    have hl := del_l h.gn hx
    have hlU := del_l (rise_nodup h.gr) ((h.gm x).2 hx)
    have hxa : x ∈ T.al := (h.am x).2 (.inr (.inl hx))
    have hla := del_l h.an hxa
    have hgl := h.gl
    have hal := h.al
    have hlk := h.lk
    have hxr : x ∉ T.rdy := fun e => h.rg x e hx
    have hxp := h.gp x hx
    refine ⟨inB_iff.2 hxa, ⟨h.mT, h.mU, h.r, h.p, h.gr.filter _, fun y => ?_, by simp only; omega, fun y => ?_, del_nodup h.an x, by simp only; omega, h.rn, del_nodup h.gn x, h.pn, fun y hy => ?_, h.rp, fun y hy => ?_, by simp only; omega, Nat.le_succ_of_le h.wt⟩⟩
    · have := h.gm y
      simp only [mem_del]
      grind
    · have := h.am y
      simp only [mem_del]
      grind
    · have := h.rg y
      simp only [mem_del]
      grind
    · have := h.gp y
      simp only [mem_del] at hy
      grind
end Go.Proofs.Ytandbkbodlbjcaa
