/- LinkBrings in memory: two links, the frames on the way, what was sent and got. -/
import Derived.Test.YtofigofaiadffaaBrR
import Derived.Test.YtofigofaiadffaaNuP
import Derived.Deep.DeepAppendRoom
namespace Go.Proofs.Ytofigofaiadffaa
open Go.RowKit Go.ChangeShapes Go.WideShapes Go.ChangeAt Go.Deep

/-- 'append(v, y...)': what it leaves, and where. -/
theorem app_where {t e : TypeId} {i0 : TypeInfo} {z : Value} {size bytes : Nat} (ht : Try.prog.underlying t = some (.slice e)) (hi : Try.prog.info? e = some i0) (hz0 : i0.zero = some z) (hz1 : i0.size = size) (hz2 : i0.bytes = bytes) (hzs : z.cells.size = size) (hpos : 0 < size) (hby : bytes ≤ 64)
    (w : World) (B : Nat) (a : Option Addr) (n c : Nat) (xs : List Value) (hown : w.ownsRow B e size (.slice a n c) n xs) (a2 : Option Addr) (m c2 : Nat) (ys : List Value) (hnil : a2 = none → m = 0 ∧ c2 = 0) (hl : ys.length = m * size) (hr : Reads w a2 ys) (h1 : ∀ u ∈ ys, u.oneCell' = true) (hb : n + m ≤ 1000000) (hB : B ≤ w.heap.size) (ty : TypeId) :
    ∃ a' c' w', (Builtin.append_ #[t, t] ty #[.slice a n c, .slice a2 m c2]).run Try.prog w = .ok (.slice a' (n + m) c') w' ∧ w'.ownsRow B e size (.slice a' (n + m) c') (n + m) (xs ++ ys) ∧ w.grownBy w' (Value.slice a n c).ownBlock ∧ (a' = a ∨ ∀ ad, a' = some ad → w.heap.size ≤ ad.block) := by
  cases a2 with
  | none =>
    obtain ⟨rfl, rfl⟩ := hnil rfl
    have hy : ys = [] := List.eq_nil_of_length_eq_zero (by omega)
    subst hy
    exact ⟨a, c, w, run_append_owned_none (P := Try.prog) (w := w) B t ty e i0 size ht hi _ n xs hown, by simpa using hown, ⟨rfl, rfl, rfl, Nat.le_refl _, fun _ _ _ => rfl⟩, .inl rfl⟩
  | some ad =>
    have hcells : ∀ j u, ys[j]? = some u → w.cell? (ad.add j) = some u := by
      rcases hr with hr | ⟨b, off, e, hr⟩
      · rw [hr]; simp
      · simp at e
        subst e
        intro j u hu
        rw [add_none]; exact hr j u hu
    have hmul : (n + m) * bytes ≤ 140737488355328 := Nat.le_trans (Nat.mul_le_mul hb hby) (by omega)
    rcases hown.2 with ⟨h2, h0⟩ | ⟨g, cap, cur, h2, h3, h4, h5, h6, h7, h8⟩
    · have hxs : xs = [] := List.eq_nil_of_length_eq_zero (by have := hown.1; rw [h0] at this; omega)
      subst hxs
      simp only [Value.slice.injEq] at h2
      obtain ⟨rfl, rfl, rfl⟩ := h2
      obtain ⟨v', w', q1, q2, q3, _⟩ := run_append_own (P := Try.prog) w w.heap.size t ty e i0 z size bytes ht hi hz0 hz1 hz2 hzs hpos (.slice none 0 0) 0 [] (World.ownsRow_nil w _ e size) ad m c2 ys hl hcells h1 (by unfold maxLen; omega) hmul (Nat.le_refl _)
      obtain ⟨a', c', rfl⟩ := own_opens q2
      exact ⟨a', c', w', q1, own_base q2 hB, q3, .inr (fun ad e => (own_lt q2 ad e).1)⟩
    · simp only [Value.slice.injEq, true_and] at h2
      obtain ⟨rfl, rfl⟩ := h2
      by_cases hroom : n + m ≤ c
      · obtain ⟨w', q1, q2, q3⟩ := run_append_own_spare (P := Try.prog) w B t ty e i0 size ht hi hz1 g n c xs hown ad m c2 ys hl hcells h1 hroom
        exact ⟨_, _, w', q1, q2, q3, .inl rfl⟩
      · obtain ⟨v', w', q1, q2, q3⟩ := run_append_arg_grows (P := Try.prog) w t ty e i0 z size bytes ht hi hz0 hz1 hz2 hzs hpos ⟨g, 0, none⟩ n c xs hown.1 (fun j u hu => hown.cells (g := g) rfl j u hu) ad m c2 ys hl hcells (by omega) (by unfold maxLen; omega) hmul
        obtain ⟨a', c', rfl⟩ := own_opens q2
        exact ⟨a', c', w', q1, own_base q2 hB, ⟨q3.os, q3.tape, q3.output, q3.size, fun k hk _ => q3.block k hk (by simp)⟩, .inr (fun ad e => (own_lt q2 ad e).1)⟩
theorem app34 (w : World) (B : Nat) (a : Option Addr) (n c : Nat) (l : List Fm) (hown : w.ownsRow B 34 6 (.slice a n c) n (fV l)) (a2 : Option Addr) (m c2 : Nat) (k : List Fm) (hnil : a2 = none → m = 0 ∧ c2 = 0) (hl : k.length = m) (hr : Reads w a2 (fV k)) (hb : n + m ≤ 1000000) (hB : B ≤ w.heap.size) (ty : TypeId) :
    ∃ a' c' w', (Builtin.append_ #[53, 53] ty #[.slice a n c, .slice a2 m c2]).run Try.prog w = .ok (.slice a' (n + m) c') w' ∧ w'.ownsRow B 34 6 (.slice a' (n + m) c') (n + m) (fV (l ++ k)) ∧ w.grownBy w' (Value.slice a n c).ownBlock ∧ (a' = a ∨ ∀ ad, a' = some ad → w.heap.size ≤ ad.block) := by
  obtain ⟨i0, hi, hz0, hz1, hz2⟩ := info_parts Try.info34
  have := app_where Try.underlying53 hi hz0 hz1 hz2 rfl (by decide) (by decide) w B a n c (fV l) hown a2 m c2 (fV k) hnil (by rw [fV_len, hl]) hr (fV_one k) hb hB ty
  rw [← fV_app] at this
  exact this
theorem app32 (w : World) (B : Nat) (a : Option Addr) (n c : Nat) (l : List Txt) (hown : w.ownsRow B 32 1 (.slice a n c) n (sV l)) (a2 : Option Addr) (m c2 : Nat) (k : List Txt) (hnil : a2 = none → m = 0 ∧ c2 = 0) (hl : k.length = m) (hr : Reads w a2 (sV k)) (hb : n + m ≤ 1000000) (hB : B ≤ w.heap.size) (ty : TypeId) :
    ∃ a' c' w', (Builtin.append_ #[56, 56] ty #[.slice a n c, .slice a2 m c2]).run Try.prog w = .ok (.slice a' (n + m) c') w' ∧ w'.ownsRow B 32 1 (.slice a' (n + m) c') (n + m) (sV (l ++ k)) ∧ w.grownBy w' (Value.slice a n c).ownBlock ∧ (a' = a ∨ ∀ ad, a' = some ad → w.heap.size ≤ ad.block) := by
  obtain ⟨i0, hi, hz0, hz1, hz2⟩ := info_parts Try.info32
  have := app_where Try.underlying56 hi hz0 hz1 hz2 rfl (by decide) (by decide) w B a n c (sV l) hown a2 m c2 (sV k) hnil (by simp [sV, hl]) hr (sV_one k) hb hB ty
  have e : sV l ++ sV k = sV (l ++ k) := by simp [sV]
  rw [e] at this
  exact this
theorem wp_app53 {w w' : World} {o : Oper} {a : Act} {K : Act → World → Prop} {Q : Exit → Act → World → Prop} {v vx v' : Value} (s x : Operand)
    (ho : o.op = .call { callee := .builtin .append, args := #[s, x], argTypes := #[53, 53] }) (hs : a.eval s = v) (hx : a.eval x = vx)
    (hrun : (Builtin.append_ #[53, 53] o.type #[v, vx]).run Try.prog w = .ok v' w') (h : K (a.put o.dst v') w') : Oper.wp Try.prog o a w K Q := by
  unfold Oper.wp
  simp [execOp, ho, resolve, invoke, builtin, hs, hx, hrun, Result.andThen]
  exact h
theorem wp_app56 {w w' : World} {o : Oper} {a : Act} {K : Act → World → Prop} {Q : Exit → Act → World → Prop} {v vx v' : Value} (s x : Operand)
    (ho : o.op = .call { callee := .builtin .append, args := #[s, x], argTypes := #[56, 56] }) (hs : a.eval s = v) (hx : a.eval x = vx)
    (hrun : (Builtin.append_ #[56, 56] o.type #[v, vx]).run Try.prog w = .ok v' w') (h : K (a.put o.dst v') w') : Oper.wp Try.prog o a w K Q := by
  unfold Oper.wp
  simp [execOp, ho, resolve, invoke, builtin, hs, hx, hrun, Result.andThen]
  exact h
theorem wpl_app53 {w w' : World} {ops : Array Oper} {rest : List Oper} {o : Oper} {a : Act} {Q : Exit → Act → World → Prop} {v vx v' : Value} (hgd : o.guard = none) (s x : Operand)
    (ho : o.op = .call { callee := .builtin .append, args := #[s, x], argTypes := #[53, 53] }) (hs : a.eval s = v) (hx : a.eval x = vx)
    (hrun : (Builtin.append_ #[53, 53] o.type #[v, vx]).run Try.prog w = .ok v' w') (h : wpList Try.prog ops Q rest (a.put o.dst v') w') : wpList Try.prog ops Q (o :: rest) a w := by
  refine wpList_plain hgd fun K hK => ?_
  exact wp_app53 s x ho hs hx hrun (hK _ _ h)
def atf (g c k : Nat) : Addr := if c = k then ⟨g, 0, none⟩ else ⟨g, k * 6, none⟩
theorem slice_fromF (w : World) (g n c k : Nat) (hk : k ≤ n) : (Instr.slice 53 (.slice (some ⟨g, 0, none⟩) n c) (some (.int .i64 (k : Int))) none none).run Try.prog w = .ok (.slice (some (atf g c k)) (n - k) (c - k)) w := by
  simp [Instr.slice, run_underlying Try.underlying53, Instr.sliceBounds, run_sliceBound (P := Try.prog) w .i64 (k : Int) n .sliceB (by omega) (by omega)]
  unfold atf
  split <;> simp [add_none]
theorem slice_toF (w : World) (a : Option Addr) (n c k : Nat) (hk : k ≤ c) : (Instr.slice 53 (.slice a n c) none (some (.int .i64 (k : Int))) none).run Try.prog w = .ok (.slice a k c) w := by
  simp [Instr.slice, run_underlying Try.underlying53, Instr.sliceBounds, run_sliceBound (P := Try.prog) w .i64 (k : Int) c .sliceAcap (by omega) (by omega)]
  cases a <;> simp [Addr.add_zero']
theorem fV_drop (l : List Fm) (k : Nat) : fV (l.drop k) = (fV l).drop (k * 6) := by
  induction k generalizing l with
  | zero => simp
  | succ k ih =>
    cases l with
    | nil => simp [fV]
    | cons a r => rw [List.drop_succ_cons, ih, show (k + 1) * 6 = k * 6 + 1 + 1 + 1 + 1 + 1 + 1 by omega]; simp [fV, Fm.cs]
theorem fV_take (l : List Fm) (k : Nat) : fV (l.take k) = (fV l).take (k * 6) := by
  induction k generalizing l with
  | zero => simp [fV]
  | succ k ih =>
    cases l with
    | nil => simp [fV]
    | cons a r =>
      rw [List.take_succ_cons, show (k + 1) * 6 = k * 6 + 1 + 1 + 1 + 1 + 1 + 1 by omega]
      have := ih r
      simp only [fV] at this
      simp [fV, Fm.cs, this]
theorem own_reads {w : World} {B T z n c : Nat} {a : Option Addr} {xs : List Value} (h : w.ownsRow B T z (.slice a n c) n xs) : Reads w a xs ∧ (a = none → n = 0 ∧ c = 0) := by
  rcases h.2 with ⟨e, h0⟩ | ⟨g, cap, cur, e, _⟩
  · simp only [Value.slice.injEq] at e
    refine ⟨.inl (List.eq_nil_of_length_eq_zero (by have := h.1; rw [h0] at this; omega)), fun _ => ⟨h0, e.2.2⟩⟩
  · simp only [Value.slice.injEq] at e
    refine ⟨.inr ⟨g, 0, e.1, fun j u hu => ?_⟩, fun e0 => by rw [e.1] at e0; cases e0⟩
    have := h.cells (g := g) (by rw [e.1]; rfl) j u hu
    rwa [add_none] at this
theorem reads_fromF {w : World} {B g n c k : Nat} {l : List Fm} (h : w.ownsRow B 34 6 (.slice (some ⟨g, 0, none⟩) n c) n (fV l)) (hl : l.length = n) : Reads w (some (atf g c k)) (fV (l.drop k)) := by
  have hnc : n ≤ c := by
    rcases h.2 with ⟨e, _⟩ | ⟨g', cap, cur, e, _, _, h3, _⟩
    · cases e
    · simp only [Value.slice.injEq] at e; omega
  by_cases e : c = k
  · left
    rw [List.drop_eq_nil_of_le (by omega)]; rfl
  · rcases (own_reads h).1 with h | ⟨b, o, e1, h⟩
    · left; rw [fV_drop, h]; simp
    · simp only [Option.some.injEq, Addr.mk.injEq] at e1
      obtain ⟨rfl, rfl, _⟩ := e1
      right
      refine ⟨g, k * 6, by unfold atf; rw [if_neg e], fun j u hu => ?_⟩
      rw [fV_drop, List.getElem?_drop] at hu
      have := h _ u hu
      rwa [Nat.zero_add] at this
theorem reads_toF {w : World} {a : Option Addr} {k : Nat} {l : List Fm} (h : Reads w a (fV l)) : Reads w a (fV (l.take k)) := by
  rcases h with h | ⟨b, o, e1, h⟩
  · left; rw [fV_take, h]; simp
  · right
    refine ⟨b, o, e1, fun j u hu => h j u ?_⟩
    rw [fV_take, List.getElem?_take] at hu
    split at hu
    · exact hu
    · cases hu
/-- A load of the argument: its blocks are old. -/
def ArgT (w0 w : World) (t : Txt) : Prop := Txt.ok w t ∧ ∀ ad, t.a = some ad → 0 < t.len → ad.block < w0.heap.size
theorem ArgT.keep {w0 w w' : World} {t : Txt} (h : ArgT w0 w t) (hk : ∀ k, k < w0.heap.size → w'.heap[k]? = w.heap[k]?) : ArgT w0 w' t := by
  obtain ⟨⟨h1, h2, h3, h4, h5⟩, h6⟩ := h
  refine ⟨⟨h1, h2, h3, h4, ?_⟩, h6⟩
  rcases h5 with h5 | ⟨b, off, e, h5⟩
  · exact .inl h5
  · by_cases h0 : 0 < t.len
    · refine .inr ⟨b, off, e, fun j u hu => ?_⟩
      rw [World.cell?_of_block (w := w) (a := ⟨b, off + j, none⟩) (hk b (h6 _ e h0))]
      exact h5 j u hu
    · exact .inl (by rw [List.eq_nil_of_length_eq_zero (show t.bs.length = 0 by omega)]; rfl)
namespace linkBrings
/-- A row of loads, as it lies. -/
structure Rw where
  a : Option Addr
  n : Nat
  c : Nat
  ts : List Txt
def Rw.val (r : Rw) : Value := .slice r.a r.n r.c
def Fb (pb ga gb : Nat) (k : Nat) : Prop := k ≠ ga ∧ k ≠ gb ∧ k ≠ pb
/-- A row of loads of one's own, none of whose blocks is a link's or the pair's. -/
def RowZ (w0 w : World) (D1 D2 : Nat → Prop) (pb : Nat) (r : Rw) : Prop := r.ts.length = r.n ∧ w.ownsRow w0.heap.size 32 1 (.slice r.a r.n r.c) r.n (sV r.ts) ∧ ∀ ad, r.a = some ad → ¬ D1 ad.block ∧ ¬ D2 ad.block ∧ ad.block ≠ pb
theorem RowZ.keep {w0 w w' : World} {D1 D2 D1' D2' : Nat → Prop} {pb : Nat} {r : Rw} (h : RowZ w0 w D1 D2 pb r) (hk : ∀ ad, r.a = some ad → w'.heap[ad.block]? = w.heap[ad.block]?) (h1 : ∀ k, k < w.heap.size → D1' k → D1 k) (h2 : ∀ k, k < w.heap.size → D2' k → D2 k) : RowZ w0 w' D1' D2' pb r :=
  ⟨h.1, own_keep h.2.1 hk, fun ad e => ⟨fun hd => (h.2.2 ad e).1 (h1 _ (own_lt h.2.1 ad e).2 hd), fun hd => (h.2.2 ad e).2.1 (h2 _ (own_lt h.2.1 ad e).2 hd), (h.2.2 ad e).2.2⟩⟩
def Apt (r s : Rw) : Prop := ∀ ad ad', r.a = some ad → s.a = some ad' → ad.block ≠ ad'.block
structure PairS (w0 w : World) (pb ga gb : Nat) (D1 D2 : Nat → Prop) (p : Pr) (aw : Option Addr) (cw : Nat) (l : List Fm) (t0 t1 u0 u1 : Rw) : Prop where
  lo : w0.heap.size ≤ pb
  box : BoxL w pb [.pointer (some ⟨ga, 0, none⟩), .pointer (some ⟨gb, 0, none⟩), .slice aw p.way.length cw, .int .i64 (p.now : Int), t0.val, t1.val, u0.val, u1.val]
  la : LinkP D1 w ga p.a
  lb : LinkP D2 w gb p.b
  dis : ∀ k, D1 k → ¬ D2 k
  d1 : ∀ k, D1 k → w0.heap.size ≤ k ∧ k ≠ pb
  d2 : ∀ k, D2 k → w0.heap.size ≤ k ∧ k ≠ pb
  bel : Below w0.heap.size w0 w
  wp : l.map Fm.p = p.way
  wo : w.ownsRow w0.heap.size 34 6 (.slice aw p.way.length cw) p.way.length (fV l)
  wn : ∀ ad, aw = some ad → ¬ D1 ad.block ∧ ¬ D2 ad.block ∧ ad.block ≠ pb
  wl : ∀ x ∈ l, TxO (Fb pb ga gb) w x.t
  r0 : RowZ w0 w D1 D2 pb t0
  r1 : RowZ w0 w D1 D2 pb t1
  q0 : RowZ w0 w D1 D2 pb u0
  q1 : RowZ w0 w D1 D2 pb u1
  m0 : t0.ts.map Txt.bs = p.to0 ∧ ∀ t ∈ t0.ts, TxO (Fb pb ga gb) w t
  m1 : t1.ts.map Txt.bs = p.to1 ∧ ∀ t ∈ t1.ts, TxO (Fb pb ga gb) w t
  n0 : u0.ts.map Txt.bs = p.s0 ∧ ∀ t ∈ u0.ts, ArgT w0 w t
  n1 : u1.ts.map Txt.bs = p.s1 ∧ ∀ t ∈ u1.ts, ArgT w0 w t
  a1 : Apt t0 t1
  a2 : Apt t0 u0
  a3 : Apt t0 u1
  a4 : Apt t1 u0
  a5 : Apt t1 u1
  a6 : Apt u0 u1
theorem Apt.symm {r s : Rw} (h : Apt r s) : Apt s r := fun ad ad' e e' => (h ad' ad e' e).symm
/-- Blocks but one of the links' stay: what lies elsewhere is as it was. -/
theorem PairS.below {w0 w w' : World} {pb ga gb : Nat} {D1 D2 : Nat → Prop} {p : Pr} {aw : Option Addr} {cw : Nat} {l : List Fm} {t0 t1 u0 u1 : Rw} (h : PairS w0 w pb ga gb D1 D2 p aw cw l t0 t1 u0 u1) (hb : Below w.heap.size w w') : PairS w0 w' pb ga gb D1 D2 p aw cw l t0 t1 u0 u1 := by
  have hz : ∀ {r : Rw}, RowZ w0 w D1 D2 pb r → RowZ w0 w' D1 D2 pb r := fun {r} hr => hr.keep (fun ad e => hb.block _ (own_lt hr.2.1 ad e).2) (fun _ _ h => h) (fun _ _ h => h)
  have hA : ∀ t, ArgT w0 w t → ArgT w0 w' t := fun t ht => ht.keep fun k hk => hb.block k (by have := h.bel.size; omega)
  exact ⟨h.lo, h.box.below hb, h.la.below hb, h.lb.below hb, h.dis, h.d1, h.d2, h.bel.trans (hb.mono h.bel.size), h.wp, own_keep h.wo fun ad e => hb.block _ (own_lt h.wo ad e).2, h.wn, fun x hx => (h.wl x hx).below hb, hz h.r0, hz h.r1, hz h.q0, hz h.q1, ⟨h.m0.1, fun t ht => (h.m0.2 t ht).below hb⟩, ⟨h.m1.1, fun t ht => (h.m1.2 t ht).below hb⟩, ⟨h.n0.1, fun t ht => hA t (h.n0.2 t ht)⟩, ⟨h.n1.1, fun t ht => hA t (h.n1.2 t ht)⟩, h.a1, h.a2, h.a3, h.a4, h.a5, h.a6⟩
/-- A call of one link. -/
theorem PairS.linkA {w0 w w' : World} {pb ga gb : Nat} {D1 D2 : Nat → Prop} {p : Pr} {aw : Option Addr} {cw : Nat} {l : List Fm} {t0 t1 u0 u1 : Rw} {s' : Lk} (h : PairS w0 w pb ga gb D1 D2 p aw cw l t0 t1 u0 u1) (hp : LinkP (Ex D1 w w') w' ga s') (hk : Kp (fun k => k = ga) w w') : PairS w0 w' pb ga gb (Ex D1 w w') D2 { p with a := s' } aw cw l t0 t1 u0 u1 := by
  have hgl := h.d1 _ h.la.dg
  have hz : ∀ {r : Rw}, RowZ w0 w D1 D2 pb r → RowZ w0 w' (Ex D1 w w') D2 pb r := fun {r} hr => hr.keep (fun ad e => hk.block _ (own_lt hr.2.1 ad e).2 (fun e2 => (hr.2.2 ad e).1 (e2 ▸ h.la.dg))) (fun k hk hd => hd.elim id fun q => by omega) (fun _ _ h => h)
  have hA : ∀ t, ArgT w0 w t → ArgT w0 w' t := fun t ht => ht.keep fun k hk2 => hk.block k (by have := h.bel.size; omega) (by omega)
  have hT : ∀ t, TxO (Fb pb ga gb) w t → TxO (Fb pb ga gb) w' t := fun t ht => ht.keep fun ad e => hk.block _ (ht.lt ad e) (ht.2.2 ad e).1
  exact ⟨h.lo, h.box.keep hk.size (hk.block pb h.box.1 (fun e => hgl.2 e.symm)), hp, h.lb.other hk (fun k hd e => h.dis k (e ▸ h.la.dg) hd), fun k hd hd2 => hd.elim (fun q => h.dis k q hd2) (fun q => by have := h.lb.lt k hd2; omega), fun k hd => hd.elim (h.d1 k) fun q => ⟨by have := h.bel.size; omega, by have := h.box.1; omega⟩, h.d2, h.bel.trans (hk.to_below h.bel.size (fun k e => by subst e; exact hgl.1)), h.wp, own_keep h.wo (fun ad e => hk.block _ (own_lt h.wo ad e).2 (fun e2 => (h.wn ad e).1 (e2 ▸ h.la.dg))), fun ad e => ⟨fun hd => (h.wn ad e).1 (hd.elim id fun q => by have := (own_lt h.wo ad e).2; omega), (h.wn ad e).2.1, (h.wn ad e).2.2⟩, fun x hx => hT _ (h.wl x hx), hz h.r0, hz h.r1, hz h.q0, hz h.q1, ⟨h.m0.1, fun t ht => hT t (h.m0.2 t ht)⟩, ⟨h.m1.1, fun t ht => hT t (h.m1.2 t ht)⟩, ⟨h.n0.1, fun t ht => hA t (h.n0.2 t ht)⟩, ⟨h.n1.1, fun t ht => hA t (h.n1.2 t ht)⟩, h.a1, h.a2, h.a3, h.a4, h.a5, h.a6⟩
/-- A call of one link. -/
theorem PairS.linkB {w0 w w' : World} {pb ga gb : Nat} {D1 D2 : Nat → Prop} {p : Pr} {aw : Option Addr} {cw : Nat} {l : List Fm} {t0 t1 u0 u1 : Rw} {s' : Lk} (h : PairS w0 w pb ga gb D1 D2 p aw cw l t0 t1 u0 u1) (hp : LinkP (Ex D2 w w') w' gb s') (hk : Kp (fun k => k = gb) w w') : PairS w0 w' pb ga gb D1 (Ex D2 w w') { p with b := s' } aw cw l t0 t1 u0 u1 := by
  have hgl := h.d2 _ h.lb.dg
  have hz : ∀ {r : Rw}, RowZ w0 w D1 D2 pb r → RowZ w0 w' D1 (Ex D2 w w') pb r := fun {r} hr => hr.keep (fun ad e => hk.block _ (own_lt hr.2.1 ad e).2 (fun e2 => (hr.2.2 ad e).2.1 (e2 ▸ h.lb.dg))) (fun _ _ h => h) (fun k hk hd => hd.elim id fun q => by omega)
  have hA : ∀ t, ArgT w0 w t → ArgT w0 w' t := fun t ht => ht.keep fun k hk2 => hk.block k (by have := h.bel.size; omega) (by omega)
  have hT : ∀ t, TxO (Fb pb ga gb) w t → TxO (Fb pb ga gb) w' t := fun t ht => ht.keep fun ad e => hk.block _ (ht.lt ad e) (ht.2.2 ad e).2.1
  exact ⟨h.lo, h.box.keep hk.size (hk.block pb h.box.1 (fun e => hgl.2 e.symm)), h.la.other hk (fun k hd e => h.dis k hd (e ▸ h.lb.dg)), hp, fun k hd2 hd => hd.elim (fun q => h.dis k hd2 q) (fun q => by have := h.la.lt k hd2; omega), h.d1, fun k hd => hd.elim (h.d2 k) fun q => ⟨by have := h.bel.size; omega, by have := h.box.1; omega⟩, h.bel.trans (hk.to_below h.bel.size (fun k e => by subst e; exact hgl.1)), h.wp, own_keep h.wo (fun ad e => hk.block _ (own_lt h.wo ad e).2 (fun e2 => (h.wn ad e).2.1 (e2 ▸ h.lb.dg))), fun ad e => ⟨(h.wn ad e).1, fun hd => (h.wn ad e).2.1 (hd.elim id fun q => by have := (own_lt h.wo ad e).2; omega), (h.wn ad e).2.2⟩, fun x hx => hT _ (h.wl x hx), hz h.r0, hz h.r1, hz h.q0, hz h.q1, ⟨h.m0.1, fun t ht => hT t (h.m0.2 t ht)⟩, ⟨h.m1.1, fun t ht => hT t (h.m1.2 t ht)⟩, ⟨h.n0.1, fun t ht => hA t (h.n0.2 t ht)⟩, ⟨h.n1.1, fun t ht => hA t (h.n1.2 t ht)⟩, h.a1, h.a2, h.a3, h.a4, h.a5, h.a6⟩
theorem grown_keep {w w1 : World} {a : Option Addr} {n c : Nat} (hg : w.grownBy w1 (Value.slice a n c).ownBlock) {k : Nat} (hk : k < w.heap.size) (hne : ∀ ad, a = some ad → ad.block ≠ k) : w1.heap[k]? = w.heap[k]? := hg.block k hk (fun e => by
  cases a with
  | none => cases e
  | some ad => simp only [Value.ownBlock, Option.some.injEq] at e; exact hne ad rfl e.symm)
theorem setp_keep {w1 : World} {pb i k : Nat} {v : Value} (h : k ≠ pb) : (w1.setCell ⟨pb, i, none⟩ v).heap[k]? = w1.heap[k]? := Below.heap_setCell _ _ _ _ h
/-- The frames on the way are put anew. -/
theorem PairS.setWay {w0 w w1 : World} {pb ga gb : Nat} {D1 D2 : Nat → Prop} {p : Pr} {aw : Option Addr} {cw : Nat} {l : List Fm} {t0 t1 u0 u1 : Rw} {aw' : Option Addr} {n' cw' : Nat} {l' : List Fm} (h : PairS w0 w pb ga gb D1 D2 p aw cw l t0 t1 u0 u1) (hg : w.grownBy w1 (Value.slice aw p.way.length cw).ownBlock) (hn : l'.length = n') (ho : w1.ownsRow w0.heap.size 34 6 (.slice aw' n' cw') n' (fV l')) (hw : aw' = aw ∨ ∀ ad, aw' = some ad → w.heap.size ≤ ad.block) (hl : ∀ x ∈ l', TxO (Fb pb ga gb) w1 x.t) : PairS w0 (w1.setCell ⟨pb, 2, none⟩ (.slice aw' n' cw')) pb ga gb D1 D2 { p with way := l'.map Fm.p } aw' cw' l' t0 t1 u0 u1 := by
  have hsz : (w1.setCell ⟨pb, 2, none⟩ (Value.slice aw' n' cw')).heap.size = w1.heap.size := size_set _ _ _
  have hs := hg.size
  have hK : ∀ k, k < w.heap.size → (∀ ad, aw = some ad → ad.block ≠ k) → k ≠ pb → (w1.setCell ⟨pb, 2, none⟩ (Value.slice aw' n' cw')).heap[k]? = w.heap[k]? := fun k h1 h2 h3 => (setp_keep h3).trans (grown_keep hg h1 h2)
  have hrl : ∀ ad, aw = some ad → w0.heap.size ≤ ad.block := fun ad e => (own_lt h.wo ad e).1
  have hA : ∀ t, ArgT w0 w t → ArgT w0 (w1.setCell ⟨pb, 2, none⟩ (Value.slice aw' n' cw')) t := fun t ht => ht.keep fun k hk => hK k (by have := h.bel.size; omega) (fun ad e => by have := hrl ad e; omega) (by have := h.lo; omega)
  have hT : ∀ t, TxO (Fb pb ga gb) w t → TxO (Fb pb ga gb) (w1.setCell ⟨pb, 2, none⟩ (Value.slice aw' n' cw')) t := fun t ht => ht.keep fun ad e => hK _ (ht.lt ad e) (fun ad2 e2 => (own_apart ht.2.1 h.wo (by decide) ad ad2 e e2).symm) (ht.2.2 ad e).2.2
  have hT1 : ∀ t, TxO (Fb pb ga gb) w1 t → TxO (Fb pb ga gb) (w1.setCell ⟨pb, 2, none⟩ (Value.slice aw' n' cw')) t := fun t ht => ht.keep fun ad e => setp_keep (ht.2.2 ad e).2.2
  have hla : LinkP D1 (w1.setCell ⟨pb, 2, none⟩ (Value.slice aw' n' cw')) ga p.a := h.la.keep (by rw [hsz]; exact hs) fun k hd => hK k (h.la.lt k hd) (fun ad e e2 => (h.wn ad e).1 (e2 ▸ hd)) (h.d1 k hd).2
  have hlb : LinkP D2 (w1.setCell ⟨pb, 2, none⟩ (Value.slice aw' n' cw')) gb p.b := h.lb.keep (by rw [hsz]; exact hs) fun k hd => hK k (h.lb.lt k hd) (fun ad e e2 => (h.wn ad e).2.1 (e2 ▸ hd)) (h.d2 k hd).2
  have hbx := (h.box.keep hg.size (grown_keep hg h.box.1 (fun ad e => (h.wn ad e).2.2))).put 2 (Value.slice aw' n' cw')
  have hbel : Below w0.heap.size w0 (w1.setCell ⟨pb, 2, none⟩ (Value.slice aw' n' cw')) := (h.bel.grown hg h.bel.size (fun k e => by
    cases hq : aw with
    | none => rw [hq] at e; cases e
    | some ad => rw [hq] at e; simp only [Value.ownBlock, Option.some.injEq] at e; rw [← e]; exact hrl ad hq)).setCell (p := ⟨pb, 2, none⟩) h.lo _
  have hwn : ∀ ad, aw' = some ad → ¬ D1 ad.block ∧ ¬ D2 ad.block ∧ ad.block ≠ pb := fun ad e => by
    rcases hw with hw | hw
    · rw [hw] at e; exact h.wn ad e
    · have h1 := hw ad e
      exact ⟨fun hd => by have := h.la.lt _ hd; omega, fun hd => by have := h.lb.lt _ hd; omega, by have := h.box.1; omega⟩
  have hz : ∀ {r : Rw}, RowZ w0 w D1 D2 pb r → RowZ w0 (w1.setCell ⟨pb, 2, none⟩ (.slice aw' n' cw')) D1 D2 pb r := fun {r} hr => hr.keep (fun ad e => hK _ (own_lt hr.2.1 ad e).2 (fun ad2 e2 => (own_apart hr.2.1 h.wo (by decide) ad ad2 e e2).symm) (hr.2.2 ad e).2.2) (fun _ _ h => h) (fun _ _ h => h)
  have hlen : (l'.map Fm.p).length = n' := by rw [List.length_map]; exact hn
  refine ⟨h.lo, by simp only [hlen]; exact hbx, hla, hlb, h.dis, h.d1, h.d2, hbel, rfl, ?_, hwn, fun x hx => hT1 _ (hl x hx), hz h.r0, hz h.r1, hz h.q0, hz h.q1, ⟨h.m0.1, fun t ht => hT t (h.m0.2 t ht)⟩, ⟨h.m1.1, fun t ht => hT t (h.m1.2 t ht)⟩, ⟨h.n0.1, fun t ht => hA t (h.n0.2 t ht)⟩, ⟨h.n1.1, fun t ht => hA t (h.n1.2 t ht)⟩, h.a1, h.a2, h.a3, h.a4, h.a5, h.a6⟩
  simp only [hlen]
  exact own_keep ho fun ad e => setp_keep (hwn ad e).2.2
/-- A row of loads is put anew. -/
theorem PairS.set_t0 {w0 w w1 : World} {pb ga gb : Nat} {D1 D2 : Nat → Prop} {p : Pr} {aw : Option Addr} {cw : Nat} {l : List Fm} {t0 t1 u0 u1 : Rw} {a' : Option Addr} {n' c' : Nat} {ts' : List Txt} (h : PairS w0 w pb ga gb D1 D2 p aw cw l t0 t1 u0 u1) (hg : w.grownBy w1 (Value.slice t0.a t0.n t0.c).ownBlock) (hn : ts'.length = n') (ho : w1.ownsRow w0.heap.size 32 1 (.slice a' n' c') n' (sV ts')) (hw : a' = t0.a ∨ ∀ ad, a' = some ad → w.heap.size ≤ ad.block) (hl : ∀ t ∈ ts', TxO (Fb pb ga gb) w1 t) : PairS w0 (w1.setCell ⟨pb, 4, none⟩ (.slice a' n' c')) pb ga gb D1 D2 { p with to0 := ts'.map Txt.bs } aw cw l ⟨a', n', c', ts'⟩ t1 u0 u1 := by
  have hsz : (w1.setCell ⟨pb, 4, none⟩ (Value.slice a' n' c')).heap.size = w1.heap.size := size_set _ _ _
  have hs := hg.size
  have hK : ∀ k, k < w.heap.size → (∀ ad, t0.a = some ad → ad.block ≠ k) → k ≠ pb → (w1.setCell ⟨pb, 4, none⟩ (Value.slice a' n' c')).heap[k]? = w.heap[k]? := fun k h1 h2 h3 => (setp_keep h3).trans (grown_keep hg h1 h2)
  have hrl : ∀ ad, t0.a = some ad → w0.heap.size ≤ ad.block := fun ad e => (own_lt h.r0.2.1 ad e).1
  have hA : ∀ t, ArgT w0 w t → ArgT w0 (w1.setCell ⟨pb, 4, none⟩ (Value.slice a' n' c')) t := fun t ht => ht.keep fun k hk => hK k (by have := h.bel.size; omega) (fun ad e => by have := hrl ad e; omega) (by have := h.lo; omega)
  have hT : ∀ t, TxO (Fb pb ga gb) w t → TxO (Fb pb ga gb) (w1.setCell ⟨pb, 4, none⟩ (Value.slice a' n' c')) t := fun t ht => ht.keep fun ad e => hK _ (ht.lt ad e) (fun ad2 e2 => (own_apart ht.2.1 h.r0.2.1 (by decide) ad ad2 e e2).symm) (ht.2.2 ad e).2.2
  have hT1 : ∀ t, TxO (Fb pb ga gb) w1 t → TxO (Fb pb ga gb) (w1.setCell ⟨pb, 4, none⟩ (Value.slice a' n' c')) t := fun t ht => ht.keep fun ad e => setp_keep (ht.2.2 ad e).2.2
  have hla : LinkP D1 (w1.setCell ⟨pb, 4, none⟩ (Value.slice a' n' c')) ga p.a := h.la.keep (by rw [hsz]; exact hs) fun k hd => hK k (h.la.lt k hd) (fun ad e e2 => (h.r0.2.2 ad e).1 (e2 ▸ hd)) (h.d1 k hd).2
  have hlb : LinkP D2 (w1.setCell ⟨pb, 4, none⟩ (Value.slice a' n' c')) gb p.b := h.lb.keep (by rw [hsz]; exact hs) fun k hd => hK k (h.lb.lt k hd) (fun ad e e2 => (h.r0.2.2 ad e).2.1 (e2 ▸ hd)) (h.d2 k hd).2
  have hbx := (h.box.keep hg.size (grown_keep hg h.box.1 (fun ad e => (h.r0.2.2 ad e).2.2))).put 4 (Value.slice a' n' c')
  have hbel : Below w0.heap.size w0 (w1.setCell ⟨pb, 4, none⟩ (Value.slice a' n' c')) := (h.bel.grown hg h.bel.size (fun k e => by
    cases hq : t0.a with
    | none => rw [hq] at e; cases e
    | some ad => rw [hq] at e; simp only [Value.ownBlock, Option.some.injEq] at e; rw [← e]; exact hrl ad hq)).setCell (p := ⟨pb, 4, none⟩) h.lo _
  have hwn : ∀ ad, a' = some ad → ¬ D1 ad.block ∧ ¬ D2 ad.block ∧ ad.block ≠ pb := fun ad e => by
    rcases hw with hw | hw
    · rw [hw] at e; exact h.r0.2.2 ad e
    · have h1 := hw ad e
      exact ⟨fun hd => by have := h.la.lt _ hd; omega, fun hd => by have := h.lb.lt _ hd; omega, by have := h.box.1; omega⟩
  have hz : ∀ {r : Rw}, Apt r t0 → RowZ w0 w D1 D2 pb r → RowZ w0 (w1.setCell ⟨pb, 4, none⟩ (.slice a' n' c')) D1 D2 pb r := fun {r} hap hr => hr.keep (fun ad e => hK _ (own_lt hr.2.1 ad e).2 (fun ad2 e2 => (hap ad ad2 e e2).symm) (hr.2.2 ad e).2.2) (fun _ _ h => h) (fun _ _ h => h)
  have hn2 : RowZ w0 (w1.setCell ⟨pb, 4, none⟩ (.slice a' n' c')) D1 D2 pb ⟨a', n', c', ts'⟩ := ⟨hn, own_keep ho fun ad e => setp_keep (hwn ad e).2.2, hwn⟩
  have hap : ∀ {r : Rw}, Apt r t0 → RowZ w0 w D1 D2 pb r → Apt r ⟨a', n', c', ts'⟩ := fun {r} hq hr ad ad' e e' => by
    rcases hw with hw | hw
    · exact hq ad ad' e (by rw [← hw]; exact e')
    · have h1 := hw ad' e'
      have h2 := (own_lt hr.2.1 ad e).2
      omega
  exact ⟨h.lo, hbx, hla, hlb, h.dis, h.d1, h.d2, hbel, h.wp, own_keep h.wo (fun ad e => hK _ (own_lt h.wo ad e).2 (fun ad2 e2 => (own_apart h.wo h.r0.2.1 (by decide) ad ad2 e e2).symm) (h.wn ad e).2.2), h.wn, fun x hx => hT _ (h.wl x hx), hn2, hz (h.a1.symm) h.r1, hz (h.a2.symm) h.q0, hz (h.a3.symm) h.q1, ⟨rfl, fun t ht => hT1 t (hl t ht)⟩, ⟨h.m1.1, fun t ht => hT t (h.m1.2 t ht)⟩, ⟨h.n0.1, fun t ht => hA t (h.n0.2 t ht)⟩, ⟨h.n1.1, fun t ht => hA t (h.n1.2 t ht)⟩, (hap (h.a1.symm) h.r1).symm, (hap (h.a2.symm) h.q0).symm, (hap (h.a3.symm) h.q1).symm, h.a4, h.a5, h.a6⟩
/-- A row of loads is put anew. -/
theorem PairS.set_t1 {w0 w w1 : World} {pb ga gb : Nat} {D1 D2 : Nat → Prop} {p : Pr} {aw : Option Addr} {cw : Nat} {l : List Fm} {t0 t1 u0 u1 : Rw} {a' : Option Addr} {n' c' : Nat} {ts' : List Txt} (h : PairS w0 w pb ga gb D1 D2 p aw cw l t0 t1 u0 u1) (hg : w.grownBy w1 (Value.slice t1.a t1.n t1.c).ownBlock) (hn : ts'.length = n') (ho : w1.ownsRow w0.heap.size 32 1 (.slice a' n' c') n' (sV ts')) (hw : a' = t1.a ∨ ∀ ad, a' = some ad → w.heap.size ≤ ad.block) (hl : ∀ t ∈ ts', TxO (Fb pb ga gb) w1 t) : PairS w0 (w1.setCell ⟨pb, 5, none⟩ (.slice a' n' c')) pb ga gb D1 D2 { p with to1 := ts'.map Txt.bs } aw cw l t0 ⟨a', n', c', ts'⟩ u0 u1 := by
  have hsz : (w1.setCell ⟨pb, 5, none⟩ (Value.slice a' n' c')).heap.size = w1.heap.size := size_set _ _ _
  have hs := hg.size
  have hK : ∀ k, k < w.heap.size → (∀ ad, t1.a = some ad → ad.block ≠ k) → k ≠ pb → (w1.setCell ⟨pb, 5, none⟩ (Value.slice a' n' c')).heap[k]? = w.heap[k]? := fun k h1 h2 h3 => (setp_keep h3).trans (grown_keep hg h1 h2)
  have hrl : ∀ ad, t1.a = some ad → w0.heap.size ≤ ad.block := fun ad e => (own_lt h.r1.2.1 ad e).1
  have hA : ∀ t, ArgT w0 w t → ArgT w0 (w1.setCell ⟨pb, 5, none⟩ (Value.slice a' n' c')) t := fun t ht => ht.keep fun k hk => hK k (by have := h.bel.size; omega) (fun ad e => by have := hrl ad e; omega) (by have := h.lo; omega)
  have hT : ∀ t, TxO (Fb pb ga gb) w t → TxO (Fb pb ga gb) (w1.setCell ⟨pb, 5, none⟩ (Value.slice a' n' c')) t := fun t ht => ht.keep fun ad e => hK _ (ht.lt ad e) (fun ad2 e2 => (own_apart ht.2.1 h.r1.2.1 (by decide) ad ad2 e e2).symm) (ht.2.2 ad e).2.2
  have hT1 : ∀ t, TxO (Fb pb ga gb) w1 t → TxO (Fb pb ga gb) (w1.setCell ⟨pb, 5, none⟩ (Value.slice a' n' c')) t := fun t ht => ht.keep fun ad e => setp_keep (ht.2.2 ad e).2.2
  have hla : LinkP D1 (w1.setCell ⟨pb, 5, none⟩ (Value.slice a' n' c')) ga p.a := h.la.keep (by rw [hsz]; exact hs) fun k hd => hK k (h.la.lt k hd) (fun ad e e2 => (h.r1.2.2 ad e).1 (e2 ▸ hd)) (h.d1 k hd).2
  have hlb : LinkP D2 (w1.setCell ⟨pb, 5, none⟩ (Value.slice a' n' c')) gb p.b := h.lb.keep (by rw [hsz]; exact hs) fun k hd => hK k (h.lb.lt k hd) (fun ad e e2 => (h.r1.2.2 ad e).2.1 (e2 ▸ hd)) (h.d2 k hd).2
  have hbx := (h.box.keep hg.size (grown_keep hg h.box.1 (fun ad e => (h.r1.2.2 ad e).2.2))).put 5 (Value.slice a' n' c')
  have hbel : Below w0.heap.size w0 (w1.setCell ⟨pb, 5, none⟩ (Value.slice a' n' c')) := (h.bel.grown hg h.bel.size (fun k e => by
    cases hq : t1.a with
    | none => rw [hq] at e; cases e
    | some ad => rw [hq] at e; simp only [Value.ownBlock, Option.some.injEq] at e; rw [← e]; exact hrl ad hq)).setCell (p := ⟨pb, 5, none⟩) h.lo _
  have hwn : ∀ ad, a' = some ad → ¬ D1 ad.block ∧ ¬ D2 ad.block ∧ ad.block ≠ pb := fun ad e => by
    rcases hw with hw | hw
    · rw [hw] at e; exact h.r1.2.2 ad e
    · have h1 := hw ad e
      exact ⟨fun hd => by have := h.la.lt _ hd; omega, fun hd => by have := h.lb.lt _ hd; omega, by have := h.box.1; omega⟩
  have hz : ∀ {r : Rw}, Apt r t1 → RowZ w0 w D1 D2 pb r → RowZ w0 (w1.setCell ⟨pb, 5, none⟩ (.slice a' n' c')) D1 D2 pb r := fun {r} hap hr => hr.keep (fun ad e => hK _ (own_lt hr.2.1 ad e).2 (fun ad2 e2 => (hap ad ad2 e e2).symm) (hr.2.2 ad e).2.2) (fun _ _ h => h) (fun _ _ h => h)
  have hn2 : RowZ w0 (w1.setCell ⟨pb, 5, none⟩ (.slice a' n' c')) D1 D2 pb ⟨a', n', c', ts'⟩ := ⟨hn, own_keep ho fun ad e => setp_keep (hwn ad e).2.2, hwn⟩
  have hap : ∀ {r : Rw}, Apt r t1 → RowZ w0 w D1 D2 pb r → Apt r ⟨a', n', c', ts'⟩ := fun {r} hq hr ad ad' e e' => by
    rcases hw with hw | hw
    · exact hq ad ad' e (by rw [← hw]; exact e')
    · have h1 := hw ad' e'
      have h2 := (own_lt hr.2.1 ad e).2
      omega
  exact ⟨h.lo, hbx, hla, hlb, h.dis, h.d1, h.d2, hbel, h.wp, own_keep h.wo (fun ad e => hK _ (own_lt h.wo ad e).2 (fun ad2 e2 => (own_apart h.wo h.r1.2.1 (by decide) ad ad2 e e2).symm) (h.wn ad e).2.2), h.wn, fun x hx => hT _ (h.wl x hx), hz (h.a1) h.r0, hn2, hz (h.a4.symm) h.q0, hz (h.a5.symm) h.q1, ⟨h.m0.1, fun t ht => hT t (h.m0.2 t ht)⟩, ⟨rfl, fun t ht => hT1 t (hl t ht)⟩, ⟨h.n0.1, fun t ht => hA t (h.n0.2 t ht)⟩, ⟨h.n1.1, fun t ht => hA t (h.n1.2 t ht)⟩, hap (h.a1) h.r0, h.a2, h.a3, (hap (h.a4.symm) h.q0).symm, (hap (h.a5.symm) h.q1).symm, h.a6⟩
/-- A row of loads is put anew. -/
theorem PairS.set_u0 {w0 w w1 : World} {pb ga gb : Nat} {D1 D2 : Nat → Prop} {p : Pr} {aw : Option Addr} {cw : Nat} {l : List Fm} {t0 t1 u0 u1 : Rw} {a' : Option Addr} {n' c' : Nat} {ts' : List Txt} (h : PairS w0 w pb ga gb D1 D2 p aw cw l t0 t1 u0 u1) (hg : w.grownBy w1 (Value.slice u0.a u0.n u0.c).ownBlock) (hn : ts'.length = n') (ho : w1.ownsRow w0.heap.size 32 1 (.slice a' n' c') n' (sV ts')) (hw : a' = u0.a ∨ ∀ ad, a' = some ad → w.heap.size ≤ ad.block) (hl : ∀ t ∈ ts', ArgT w0 w1 t) : PairS w0 (w1.setCell ⟨pb, 6, none⟩ (.slice a' n' c')) pb ga gb D1 D2 { p with s0 := ts'.map Txt.bs } aw cw l t0 t1 ⟨a', n', c', ts'⟩ u1 := by
  have hsz : (w1.setCell ⟨pb, 6, none⟩ (Value.slice a' n' c')).heap.size = w1.heap.size := size_set _ _ _
  have hs := hg.size
  have hK : ∀ k, k < w.heap.size → (∀ ad, u0.a = some ad → ad.block ≠ k) → k ≠ pb → (w1.setCell ⟨pb, 6, none⟩ (Value.slice a' n' c')).heap[k]? = w.heap[k]? := fun k h1 h2 h3 => (setp_keep h3).trans (grown_keep hg h1 h2)
  have hrl : ∀ ad, u0.a = some ad → w0.heap.size ≤ ad.block := fun ad e => (own_lt h.q0.2.1 ad e).1
  have hA : ∀ t, ArgT w0 w t → ArgT w0 (w1.setCell ⟨pb, 6, none⟩ (Value.slice a' n' c')) t := fun t ht => ht.keep fun k hk => hK k (by have := h.bel.size; omega) (fun ad e => by have := hrl ad e; omega) (by have := h.lo; omega)
  have hT : ∀ t, TxO (Fb pb ga gb) w t → TxO (Fb pb ga gb) (w1.setCell ⟨pb, 6, none⟩ (Value.slice a' n' c')) t := fun t ht => ht.keep fun ad e => hK _ (ht.lt ad e) (fun ad2 e2 => (own_apart ht.2.1 h.q0.2.1 (by decide) ad ad2 e e2).symm) (ht.2.2 ad e).2.2
  have hT1 : ∀ t, TxO (Fb pb ga gb) w1 t → TxO (Fb pb ga gb) (w1.setCell ⟨pb, 6, none⟩ (Value.slice a' n' c')) t := fun t ht => ht.keep fun ad e => setp_keep (ht.2.2 ad e).2.2
  have hla : LinkP D1 (w1.setCell ⟨pb, 6, none⟩ (Value.slice a' n' c')) ga p.a := h.la.keep (by rw [hsz]; exact hs) fun k hd => hK k (h.la.lt k hd) (fun ad e e2 => (h.q0.2.2 ad e).1 (e2 ▸ hd)) (h.d1 k hd).2
  have hlb : LinkP D2 (w1.setCell ⟨pb, 6, none⟩ (Value.slice a' n' c')) gb p.b := h.lb.keep (by rw [hsz]; exact hs) fun k hd => hK k (h.lb.lt k hd) (fun ad e e2 => (h.q0.2.2 ad e).2.1 (e2 ▸ hd)) (h.d2 k hd).2
  have hbx := (h.box.keep hg.size (grown_keep hg h.box.1 (fun ad e => (h.q0.2.2 ad e).2.2))).put 6 (Value.slice a' n' c')
  have hbel : Below w0.heap.size w0 (w1.setCell ⟨pb, 6, none⟩ (Value.slice a' n' c')) := (h.bel.grown hg h.bel.size (fun k e => by
    cases hq : u0.a with
    | none => rw [hq] at e; cases e
    | some ad => rw [hq] at e; simp only [Value.ownBlock, Option.some.injEq] at e; rw [← e]; exact hrl ad hq)).setCell (p := ⟨pb, 6, none⟩) h.lo _
  have hwn : ∀ ad, a' = some ad → ¬ D1 ad.block ∧ ¬ D2 ad.block ∧ ad.block ≠ pb := fun ad e => by
    rcases hw with hw | hw
    · rw [hw] at e; exact h.q0.2.2 ad e
    · have h1 := hw ad e
      exact ⟨fun hd => by have := h.la.lt _ hd; omega, fun hd => by have := h.lb.lt _ hd; omega, by have := h.box.1; omega⟩
  have hz : ∀ {r : Rw}, Apt r u0 → RowZ w0 w D1 D2 pb r → RowZ w0 (w1.setCell ⟨pb, 6, none⟩ (.slice a' n' c')) D1 D2 pb r := fun {r} hap hr => hr.keep (fun ad e => hK _ (own_lt hr.2.1 ad e).2 (fun ad2 e2 => (hap ad ad2 e e2).symm) (hr.2.2 ad e).2.2) (fun _ _ h => h) (fun _ _ h => h)
  have hn2 : RowZ w0 (w1.setCell ⟨pb, 6, none⟩ (.slice a' n' c')) D1 D2 pb ⟨a', n', c', ts'⟩ := ⟨hn, own_keep ho fun ad e => setp_keep (hwn ad e).2.2, hwn⟩
  have hap : ∀ {r : Rw}, Apt r u0 → RowZ w0 w D1 D2 pb r → Apt r ⟨a', n', c', ts'⟩ := fun {r} hq hr ad ad' e e' => by
    rcases hw with hw | hw
    · exact hq ad ad' e (by rw [← hw]; exact e')
    · have h1 := hw ad' e'
      have h2 := (own_lt hr.2.1 ad e).2
      omega
  have hA1 : ∀ t, ArgT w0 w1 t → ArgT w0 (w1.setCell ⟨pb, 6, none⟩ (.slice a' n' c')) t := fun t ht => ht.keep fun k hk => setp_keep (by have := h.lo; omega)
  exact ⟨h.lo, hbx, hla, hlb, h.dis, h.d1, h.d2, hbel, h.wp, own_keep h.wo (fun ad e => hK _ (own_lt h.wo ad e).2 (fun ad2 e2 => (own_apart h.wo h.q0.2.1 (by decide) ad ad2 e e2).symm) (h.wn ad e).2.2), h.wn, fun x hx => hT _ (h.wl x hx), hz (h.a2) h.r0, hz (h.a4) h.r1, hn2, hz (h.a6.symm) h.q1, ⟨h.m0.1, fun t ht => hT t (h.m0.2 t ht)⟩, ⟨h.m1.1, fun t ht => hT t (h.m1.2 t ht)⟩, ⟨rfl, fun t ht => hA1 t (hl t ht)⟩, ⟨h.n1.1, fun t ht => hA t (h.n1.2 t ht)⟩, h.a1, hap (h.a2) h.r0, h.a3, hap (h.a4) h.r1, h.a5, (hap (h.a6.symm) h.q1).symm⟩
/-- A row of loads is put anew. -/
theorem PairS.set_u1 {w0 w w1 : World} {pb ga gb : Nat} {D1 D2 : Nat → Prop} {p : Pr} {aw : Option Addr} {cw : Nat} {l : List Fm} {t0 t1 u0 u1 : Rw} {a' : Option Addr} {n' c' : Nat} {ts' : List Txt} (h : PairS w0 w pb ga gb D1 D2 p aw cw l t0 t1 u0 u1) (hg : w.grownBy w1 (Value.slice u1.a u1.n u1.c).ownBlock) (hn : ts'.length = n') (ho : w1.ownsRow w0.heap.size 32 1 (.slice a' n' c') n' (sV ts')) (hw : a' = u1.a ∨ ∀ ad, a' = some ad → w.heap.size ≤ ad.block) (hl : ∀ t ∈ ts', ArgT w0 w1 t) : PairS w0 (w1.setCell ⟨pb, 7, none⟩ (.slice a' n' c')) pb ga gb D1 D2 { p with s1 := ts'.map Txt.bs } aw cw l t0 t1 u0 ⟨a', n', c', ts'⟩ := by
  have hsz : (w1.setCell ⟨pb, 7, none⟩ (Value.slice a' n' c')).heap.size = w1.heap.size := size_set _ _ _
  have hs := hg.size
  have hK : ∀ k, k < w.heap.size → (∀ ad, u1.a = some ad → ad.block ≠ k) → k ≠ pb → (w1.setCell ⟨pb, 7, none⟩ (Value.slice a' n' c')).heap[k]? = w.heap[k]? := fun k h1 h2 h3 => (setp_keep h3).trans (grown_keep hg h1 h2)
  have hrl : ∀ ad, u1.a = some ad → w0.heap.size ≤ ad.block := fun ad e => (own_lt h.q1.2.1 ad e).1
  have hA : ∀ t, ArgT w0 w t → ArgT w0 (w1.setCell ⟨pb, 7, none⟩ (Value.slice a' n' c')) t := fun t ht => ht.keep fun k hk => hK k (by have := h.bel.size; omega) (fun ad e => by have := hrl ad e; omega) (by have := h.lo; omega)
  have hT : ∀ t, TxO (Fb pb ga gb) w t → TxO (Fb pb ga gb) (w1.setCell ⟨pb, 7, none⟩ (Value.slice a' n' c')) t := fun t ht => ht.keep fun ad e => hK _ (ht.lt ad e) (fun ad2 e2 => (own_apart ht.2.1 h.q1.2.1 (by decide) ad ad2 e e2).symm) (ht.2.2 ad e).2.2
  have hT1 : ∀ t, TxO (Fb pb ga gb) w1 t → TxO (Fb pb ga gb) (w1.setCell ⟨pb, 7, none⟩ (Value.slice a' n' c')) t := fun t ht => ht.keep fun ad e => setp_keep (ht.2.2 ad e).2.2
  have hla : LinkP D1 (w1.setCell ⟨pb, 7, none⟩ (Value.slice a' n' c')) ga p.a := h.la.keep (by rw [hsz]; exact hs) fun k hd => hK k (h.la.lt k hd) (fun ad e e2 => (h.q1.2.2 ad e).1 (e2 ▸ hd)) (h.d1 k hd).2
  have hlb : LinkP D2 (w1.setCell ⟨pb, 7, none⟩ (Value.slice a' n' c')) gb p.b := h.lb.keep (by rw [hsz]; exact hs) fun k hd => hK k (h.lb.lt k hd) (fun ad e e2 => (h.q1.2.2 ad e).2.1 (e2 ▸ hd)) (h.d2 k hd).2
  have hbx := (h.box.keep hg.size (grown_keep hg h.box.1 (fun ad e => (h.q1.2.2 ad e).2.2))).put 7 (Value.slice a' n' c')
  have hbel : Below w0.heap.size w0 (w1.setCell ⟨pb, 7, none⟩ (Value.slice a' n' c')) := (h.bel.grown hg h.bel.size (fun k e => by
    cases hq : u1.a with
    | none => rw [hq] at e; cases e
    | some ad => rw [hq] at e; simp only [Value.ownBlock, Option.some.injEq] at e; rw [← e]; exact hrl ad hq)).setCell (p := ⟨pb, 7, none⟩) h.lo _
  have hwn : ∀ ad, a' = some ad → ¬ D1 ad.block ∧ ¬ D2 ad.block ∧ ad.block ≠ pb := fun ad e => by
    rcases hw with hw | hw
    · rw [hw] at e; exact h.q1.2.2 ad e
    · have h1 := hw ad e
      exact ⟨fun hd => by have := h.la.lt _ hd; omega, fun hd => by have := h.lb.lt _ hd; omega, by have := h.box.1; omega⟩
  have hz : ∀ {r : Rw}, Apt r u1 → RowZ w0 w D1 D2 pb r → RowZ w0 (w1.setCell ⟨pb, 7, none⟩ (.slice a' n' c')) D1 D2 pb r := fun {r} hap hr => hr.keep (fun ad e => hK _ (own_lt hr.2.1 ad e).2 (fun ad2 e2 => (hap ad ad2 e e2).symm) (hr.2.2 ad e).2.2) (fun _ _ h => h) (fun _ _ h => h)
  have hn2 : RowZ w0 (w1.setCell ⟨pb, 7, none⟩ (.slice a' n' c')) D1 D2 pb ⟨a', n', c', ts'⟩ := ⟨hn, own_keep ho fun ad e => setp_keep (hwn ad e).2.2, hwn⟩
  have hap : ∀ {r : Rw}, Apt r u1 → RowZ w0 w D1 D2 pb r → Apt r ⟨a', n', c', ts'⟩ := fun {r} hq hr ad ad' e e' => by
    rcases hw with hw | hw
    · exact hq ad ad' e (by rw [← hw]; exact e')
    · have h1 := hw ad' e'
      have h2 := (own_lt hr.2.1 ad e).2
      omega
  have hA1 : ∀ t, ArgT w0 w1 t → ArgT w0 (w1.setCell ⟨pb, 7, none⟩ (.slice a' n' c')) t := fun t ht => ht.keep fun k hk => setp_keep (by have := h.lo; omega)
  exact ⟨h.lo, hbx, hla, hlb, h.dis, h.d1, h.d2, hbel, h.wp, own_keep h.wo (fun ad e => hK _ (own_lt h.wo ad e).2 (fun ad2 e2 => (own_apart h.wo h.q1.2.1 (by decide) ad ad2 e e2).symm) (h.wn ad e).2.2), h.wn, fun x hx => hT _ (h.wl x hx), hz (h.a3) h.r0, hz (h.a5) h.r1, hz (h.a6) h.q0, hn2, ⟨h.m0.1, fun t ht => hT t (h.m0.2 t ht)⟩, ⟨h.m1.1, fun t ht => hT t (h.m1.2 t ht)⟩, ⟨h.n0.1, fun t ht => hA t (h.n0.2 t ht)⟩, ⟨rfl, fun t ht => hA1 t (hl t ht)⟩, h.a1, h.a2, hap (h.a3) h.r0, h.a4, hap (h.a5) h.r1, hap (h.a6) h.q0⟩
/-- The time goes on. -/
theorem PairS.setNow {w0 w : World} {pb ga gb : Nat} {D1 D2 : Nat → Prop} {p : Pr} {aw : Option Addr} {cw : Nat} {l : List Fm} {t0 t1 u0 u1 : Rw} (h : PairS w0 w pb ga gb D1 D2 p aw cw l t0 t1 u0 u1) (n : Nat) : PairS w0 (w.setCell ⟨pb, 3, none⟩ (.int .i64 (n : Int))) pb ga gb D1 D2 { p with now := n } aw cw l t0 t1 u0 u1 := by
  have hsz : (w.setCell ⟨pb, 3, none⟩ (.int .i64 (n : Int))).heap.size = w.heap.size := size_set _ _ _
  have hA : ∀ t, ArgT w0 w t → ArgT w0 (w.setCell ⟨pb, 3, none⟩ (.int .i64 (n : Int))) t := fun t ht => ht.keep fun k hk => setp_keep (by have := h.lo; omega)
  have hT : ∀ t, TxO (Fb pb ga gb) w t → TxO (Fb pb ga gb) (w.setCell ⟨pb, 3, none⟩ (.int .i64 (n : Int))) t := fun t ht => ht.keep fun ad e => setp_keep (ht.2.2 ad e).2.2
  have hz : ∀ {r : Rw}, RowZ w0 w D1 D2 pb r → RowZ w0 (w.setCell ⟨pb, 3, none⟩ (.int .i64 (n : Int))) D1 D2 pb r := fun {r} hr => hr.keep (fun ad e => setp_keep (hr.2.2 ad e).2.2) (fun _ _ h => h) (fun _ _ h => h)
  exact ⟨h.lo, h.box.put 3 _, h.la.keep (by rw [hsz]; exact Nat.le_refl _) fun k hd => setp_keep (h.d1 k hd).2, h.lb.keep (by rw [hsz]; exact Nat.le_refl _) fun k hd => setp_keep (h.d2 k hd).2, h.dis, h.d1, h.d2, h.bel.setCell (p := ⟨pb, 3, none⟩) h.lo _, h.wp, own_keep h.wo (fun ad e => setp_keep (h.wn ad e).2.2), h.wn, fun x hx => hT _ (h.wl x hx), hz h.r0, hz h.r1, hz h.q0, hz h.q1, ⟨h.m0.1, fun t ht => hT t (h.m0.2 t ht)⟩, ⟨h.m1.1, fun t ht => hT t (h.m1.2 t ht)⟩, ⟨h.n0.1, fun t ht => hA t (h.n0.2 t ht)⟩, ⟨h.n1.1, fun t ht => hA t (h.n1.2 t ht)⟩, h.a1, h.a2, h.a3, h.a4, h.a5, h.a6⟩
/-- The pair in memory. -/
def PairM (w0 w : World) (pb ga gb : Nat) (p : Pr) : Prop := ∃ D1 D2 aw cw l t0 t1 u0 u1, PairS w0 w pb ga gb D1 D2 p aw cw l t0 t1 u0 u1
theorem PairM.below {w0 w w' : World} {pb ga gb : Nat} {p : Pr} (h : PairM w0 w pb ga gb p) (hb : Below w.heap.size w w') : PairM w0 w' pb ga gb p := by
  obtain ⟨D1, D2, aw, cw, l, t0, t1, u0, u1, h⟩ := h
  exact ⟨D1, D2, aw, cw, l, t0, t1, u0, u1, h.below hb⟩
theorem PairS.cells {w0 w : World} {pb ga gb : Nat} {D1 D2 : Nat → Prop} {p : Pr} {aw : Option Addr} {cw : Nat} {l : List Fm} {t0 t1 u0 u1 : Rw} (h : PairS w0 w pb ga gb D1 D2 p aw cw l t0 t1 u0 u1) : w.cell? ⟨pb, 0, none⟩ = some (.pointer (some ⟨ga, 0, none⟩)) ∧ w.cell? ⟨pb, 1, none⟩ = some (.pointer (some ⟨gb, 0, none⟩)) ∧ w.cell? ⟨pb, 2, none⟩ = some (.slice aw p.way.length cw) ∧ w.cell? ⟨pb, 3, none⟩ = some (.int .i64 (p.now : Int)) ∧ w.cell? ⟨pb, 4, none⟩ = some (.slice t0.a t0.n t0.c) ∧ w.cell? ⟨pb, 5, none⟩ = some (.slice t1.a t1.n t1.c) ∧ w.cell? ⟨pb, 6, none⟩ = some (.slice u0.a u0.n u0.c) ∧ w.cell? ⟨pb, 7, none⟩ = some (.slice u1.a u1.n u1.c) ∧ ∀ j, j < 8 → w.frozen? ⟨pb, j, none⟩ = false :=
  ⟨(h.box.2 0 (by simp)).1, (h.box.2 1 (by simp)).1, (h.box.2 2 (by simp)).1, (h.box.2 3 (by simp)).1, (h.box.2 4 (by simp)).1, (h.box.2 5 (by simp)).1, (h.box.2 6 (by simp)).1, (h.box.2 7 (by simp)).1, fun j hj => (h.box.2 j hj).2⟩
end linkBrings
end Go.Proofs.Ytofigofaiadffaa
