/- The document's link: what Out's rounds do to memory. -/
import Derived.Test.YtofigofaiadffaaRfr
namespace Go.Proofs.Ytofigofaiadffaa
open Go.RowKit Go.ChangeShapes Go.WideShapes Go.ChangeAt Go.Deep

/-- A frame more, at the operation. -/
theorem app_rf {w : World} {o : Oper} {act : Act} {K : Act → World → Prop} {Q : Exit → Act → World → Prop} (s x : Operand)
    (ho : o.op = .call { callee := .builtin .append, args := #[s, x], argTypes := #[53, 53] }) (B : Nat) (a : Option Addr) (n c : Nat) (l : List Fm) (hs : act.eval s = .slice a n c) (hR : RowF B w a n c l) (hn : n ≤ 1000000) (hB : B ≤ w.heap.size)
    (bk : Nat) (y : Fm) (hx : act.eval x = .slice (some ⟨bk, 0, none⟩) 1 1) (hb : Reads w (some ⟨bk, 0, none⟩) y.cs) (hy : TxO (fun k => B ≤ k ∧ k < w.heap.size) w y.t)
    (h : ∀ a' c' w', RowF B w' a' (n + 1) c' (l ++ [y]) → w.grownBy w' (Value.slice a n c).ownBlock → (∀ ad, a = some ad → B ≤ ad.block) → K (act.put o.dst (.slice a' (n + 1) c')) w') : o.wp Try.prog act w K Q := by
  obtain ⟨i0, hi, hz0, hz1, hz2⟩ := info_parts Try.info34
  have hbk : ∀ j u, y.cs[j]? = some u → w.cell? ((⟨bk, 0, none⟩ : Addr).add j) = some u := by
    rcases hb with e | ⟨b, o, e, hr⟩
    · simp [Fm.cs] at e
    · simp only [Option.some.injEq, Addr.mk.injEq] at e
      obtain ⟨rfl, rfl, _⟩ := e
      intro j u hu
      rw [add_none]; exact hr j u hu
  refine wp_append_lies w s x 53 ho B 34 i0 (.agg #[.int .i64 0, .int .i64 0, .int .i64 0, .int .i64 0, .int .i64 0, .slice none 0 0]) 6 64 Try.underlying53 hi hz0 hz1 hz2 rfl (by omega) (.slice a n c) n (fV l) hs hR.2.1 ⟨bk, 0, none⟩ 1 1 y.cs hx rfl hbk (fun u hu => fV_one [y] u (by simpa [fV] using hu)) (by omega) (by unfold maxLen; omega) (by omega) hB w.heap.size rfl ?_
  intro g c' w' ho' hg' hat _
  have e : fV l ++ y.cs = fV (l ++ [y]) := by rw [fV_app]; simp [fV]
  rw [e] at ho'
  have hkp : ∀ z : Txt, TxO (fun k => B ≤ k ∧ k < w.heap.size) w z → TxO (fun k => B ≤ k ∧ k < w'.heap.size) w' z := fun z hz => (hz.keep fun ad e => hg'.block _ (hz.lt ad e) (fun e2 => by
    cases a with
    | none => simp [Value.ownBlock] at e2
    | some ad2 => simp only [Value.ownBlock, Option.some.injEq] at e2; exact own_apart hz.2.1 hR.2.1 (by decide) ad ad2 e rfl e2)).mono fun q hq => ⟨hq.1, Nat.lt_of_lt_of_le hq.2 hg'.size⟩
  refine h _ c' w' ⟨by simp [hR.1], ho', fun z hz => ?_⟩ hg' (fun ad e => (own_lt hR.2.1 ad e).1)
  rw [List.mem_append, List.mem_singleton] at hz
  rcases hz with hz | rfl
  · exact hkp _ (hR.2.2 z hz)
  · exact hkp _ hy

theorem orV_set (l : List OpM) : ∀ (i : Nat) (h : i < l.length) (x1 x2 : Int), (((orV l).set (i * 4 + 2) (.int .i64 x2)).set (i * 4 + 1) (.int .i64 x1)) = orV (l.set i { l[i] with tt := x1, n := x2 }) := by
  induction l with
  | nil => intro i h; simp at h
  | cons a r ih =>
    intro i h x1 x2
    have e : orV (a :: r) = .int .i64 a.sq :: .int .i64 a.tt :: .int .i64 a.n :: .slice a.t.a a.t.len a.t.cap :: orV r := by simp [orV, OpM.cs]
    rw [e]
    cases i with
    | zero => simp [orV, OpM.cs]
    | succ i =>
      have h2 := ih i (by simpa using h) x1 x2
      rw [show (i + 1) * 4 + 2 = (i * 4 + 2) + 1 + 1 + 1 + 1 by omega, show (i + 1) * 4 + 1 = (i * 4 + 1) + 1 + 1 + 1 + 1 by omega]
      simp only [List.set_cons_succ, List.getElem_cons_succ]
      rw [h2]
      simp [orV, OpM.cs]
/-- How often it was out, and when, are stored. -/
def putT (w : World) (b o : Nat) (now n : Int) : World := (w.setCell ⟨b, o + 2, none⟩ (.int .i64 n)).setCell ⟨b, o + 1, none⟩ (.int .i64 now)
theorem putT_keep {w : World} {b o j : Nat} {x y : Int} (h : j ≠ b) : (putT w b o x y).heap[j]? = w.heap[j]? := by
  unfold putT
  rw [Below.heap_setCell _ _ _ _ (by exact h), Below.heap_setCell _ _ _ _ (by exact h)]
theorem putT_size {w : World} {b o : Nat} {x y : Int} : (putT w b o x y).heap.size = w.heap.size := by
  unfold putT
  rw [size_set, size_set]
theorem RowO.isAt {E : Nat → Prop} {B : Nat} {w : World} {a : Option Addr} {n c : Nat} {l : List OpM} (h : RowO E B w a n c l) (h0 : 0 < n) : ∃ b, a = some ⟨b, 0, none⟩ ∧ b < w.heap.size ∧ E b := by
  rcases h.2.1.2 with ⟨e, h1⟩ | ⟨g, cap, cur, e, h1, h2, _⟩
  · omega
  · simp only [Value.slice.injEq] at e
    exact ⟨g, e.1, (Array.getElem?_eq_some_iff.1 h2).1, h.2.2.1 _ e.1⟩
theorem RowO.at {E : Nat → Prop} {B : Nat} {w : World} {b n c k : Nat} {l : List OpM} (h : RowO E B w (some ⟨b, 0, none⟩) n c l) (hk : k < l.length) : w.cell? ⟨b, k * 4, none⟩ = some (.int .i64 l[k].sq) ∧ w.cell? ⟨b, k * 4 + 1, none⟩ = some (.int .i64 l[k].tt) ∧ w.cell? ⟨b, k * 4 + 2, none⟩ = some (.int .i64 l[k].n) ∧ w.cell? ⟨b, k * 4 + 3, none⟩ = some (.slice l[k].t.a l[k].t.len l[k].t.cap) := by
  have hc := fun j u hu => h.2.1.cells (g := b) rfl j u hu
  simp only [add_none, Nat.zero_add] at hc
  have h0 := orV_at l k 0 hk (by omega)
  have h1 := orV_at l k 1 hk (by omega)
  have h2 := orV_at l k 2 hk (by omega)
  have h3 := orV_at l k 3 hk (by omega)
  simp only [OpM.cs, List.getElem?_cons_zero, List.getElem?_cons_succ, Nat.add_zero] at h0 h1 h2 h3
  exact ⟨hc _ _ h0, hc _ _ h1, hc _ _ h2, hc _ _ h3⟩
theorem RowO.go {E : Nat → Prop} {B : Nat} {w : World} {b n c k : Nat} {l : List OpM} (h : RowO E B w (some ⟨b, 0, none⟩) n c l) (hk : k < l.length) (x1 x2 : Int) : RowO E B (putT w b (k * 4) x1 x2) (some ⟨b, 0, none⟩) n c (l.set k { l[k] with tt := x1, n := x2 }) := by
  have ho := ((h.2.1.stored (k * 4 + 2) (.int .i64 x2)).1.stored (k * 4 + 1) (.int .i64 x1)).1
  rw [orV_set l k hk] at ho
  refine ⟨by rw [List.length_set]; exact h.1, ho, h.2.2.1, fun x hx => ?_⟩
  have key : ∀ y ∈ l, TxO E (putT w b (k * 4) x1 x2) y.t := fun y hy => (h.2.2.2 y hy).keep fun ad e => putT_keep (fun e2 => own_apart (h.2.2.2 y hy).2.1 h.2.1 (by decide) ad _ e rfl e2)
  rcases List.mem_or_eq_of_mem_set hx with h2 | h2
  · exact key x h2
  · subst h2
    exact key l[k] (List.getElem_mem _)

def rfr (k : Kc) (r : Rl) (p : Nat × List Nat) : Fr := ⟨k.self, k.peer, k.life, p.1, r.all, p.2⟩
def rgoI (now : Int) (r : Rl) (i : Nat) : Rl := { r with op := (r.op.take i).map (rgo now) ++ r.op.drop i }

/-- Where Out stands: i loads looked at, the frames so far in a row of new memory. -/
def ROS (E : Nat → Prop) (w wr : World) (g : Nat) (k : Kc) (r : Rl) (now : Int) (i : Nat) (a : Option Addr) (n c : Nat) : Prop :=
  ∃ l, RowF w.heap.size wr a n c l ∧ l.map Fm.p = (rdueF now (r.op.take i)).map (rfr k r) ∧ RLk E wr g k (rgoI now r i) ∧ Kp E w wr ∧ ∀ j, E j → j < w.heap.size

theorem ROS.begin {E : Nat → Prop} {w : World} {g : Nat} {k : Kc} {r : Rl} (now : Int) (h : RLk E w g k r) : ROS E w w g k r now 0 none 0 0 := by
  have h7 := h
  obtain ⟨oa, on, oc, ka, kn, kc, lo, lk, -, -, -, -, -, -, h7⟩ := h7
  exact ⟨[], RowF.nil _ _, rfl, by simpa [rgoI] using h, Kp.refl _ _, h7⟩

theorem RLk.cells {E : Nat → Prop} {w : World} {g : Nat} {k : Kc} {r : Rl} (h : RLk E w g k r) : w.cell? ⟨g, 0, none⟩ = some (.int .i64 k.self) ∧ w.cell? ⟨g, 1, none⟩ = some (.int .i64 k.peer) ∧ w.cell? ⟨g, 2, none⟩ = some (.int .i64 k.life) ∧ w.cell? ⟨g, 6, none⟩ = some (.int .i64 (r.all : Nat)) ∧ w.cell? ⟨g, 9, none⟩ = some (.bool r.ow) ∧ w.frozen? ⟨g, 9, none⟩ = false ∧ ∃ oa oc, w.cell? ⟨g, 7, none⟩ = some (.slice oa r.op.length oc) := by
  obtain ⟨oa, on, oc, ka, kn, kc, lo, lk, hbx, hro, hrk, hlo, hlk, hEg, hlt⟩ := h
  have HLO : on = r.op.length := by rw [← hro.1]; have := congrArg List.length hlo; simpa using this
  subst HLO
  have c := fun j hj => (hbx.2 j hj).1
  exact ⟨c 0 (by simp [lkCs]), c 1 (by simp [lkCs]), c 2 (by simp [lkCs]), c 6 (by simp [lkCs]), c 9 (by simp [lkCs]), (hbx.2 9 (by simp [lkCs])).2, oa, oc, c 7 (by simp [lkCs])⟩

/-- The load that is looked at. -/
theorem RLk.load {E : Nat → Prop} {w : World} {g i : Nat} {k : Kc} {r : Rl} (h : RLk E w g k r) (hi : i < r.op.length) : ∃ b oc, b ≠ g ∧ E b ∧ w.cell? ⟨g, 7, none⟩ = some (.slice (some ⟨b, 0, none⟩) r.op.length oc) ∧ (∀ j, w.frozen? ⟨b, j, none⟩ = false) ∧
    ∃ t : Txt, t.bs = r.op[i].x ∧ TxO (fun j => E j ∧ j ≠ g) w t ∧ (∀ ad, t.a = some ad → ad.block ≠ b) ∧ w.cell? ⟨b, i * 4, none⟩ = some (.int .i64 (r.op[i].sq : Nat)) ∧ w.cell? ⟨b, i * 4 + 1, none⟩ = some (.int .i64 r.op[i].tt) ∧ w.cell? ⟨b, i * 4 + 2, none⟩ = some (.int .i64 (r.op[i].n : Nat)) ∧ w.cell? ⟨b, i * 4 + 3, none⟩ = some (.slice t.a t.len t.cap) ∧
    ∀ now : Int, RLk E (putT w b (i * 4) now ((r.op[i].n : Int) + 1)) g k { r with op := r.op.set i ⟨r.op[i].sq, now, r.op[i].n + 1, r.op[i].x⟩ } := by
  obtain ⟨oa, on, oc, ka, kn, kc, lo, lk, hbx, hro, hrk, hlo, hlk, hEg, hlt⟩ := h
  have HLO : on = r.op.length := by rw [← hro.1]; have := congrArg List.length hlo; simpa using this
  subst HLO
  obtain ⟨b, rfl, hb, hE⟩ := hro.isAt (by omega)
  have hil : i < lo.length := by rw [hro.1]; exact hi
  obtain ⟨y0, y1, y2, y3⟩ := hro.at hil
  have e : lo[i].q = r.op[i].q := by
    have h5 : (lo.map OpM.q)[i]? = (r.op.map Ro.q)[i]? := by rw [hlo]
    simpa [hil, hi] using h5
  simp only [OpM.q, Ro.q, Prod.mk.injEq] at e
  obtain ⟨e0, e1, e2, e3⟩ := e
  rw [e0] at y0
  rw [e1] at y1
  rw [e2] at y2
  have ht := hro.2.2.2 lo[i] (List.getElem_mem _)
  refine ⟨b, oc, hE.2, hE.1, (hbx.2 7 (by simp [lkCs])).1, fun j => hro.2.1.frozenAt j, lo[i].t, e3, ht, fun ad e => own_apart ht.2.1 hro.2.1 (by decide) ad _ e rfl, y0, y1, y2, y3, fun now => ?_⟩
  refine ⟨some ⟨b, 0, none⟩, r.op.length, oc, ka, kn, kc, lo.set i { lo[i] with tt := now, n := (r.op[i].n : Int) + 1 }, lk, ?_, hro.go hil _ _, ?_, ?_, hlk, hEg, fun j hj => by rw [putT_size]; exact hlt j hj⟩
  · have := hbx.keep (w' := putT w b (i * 4) now ((r.op[i].n : Int) + 1)) (by rw [putT_size]; exact Nat.le_refl _) (putT_keep (fun e => hE.2 e.symm))
    simpa [lkCs] using this
  · refine ⟨hrk.1, own_keep hrk.2.1 fun ad e => putT_keep (fun e2 => own_apart hro.2.1 hrk.2.1 (by decide) _ ad rfl e e2.symm), hrk.2.2.1, fun z hz => (hrk.2.2.2 z hz).keep fun ad e => putT_keep (fun e2 => own_apart (hrk.2.2.2 z hz).2.1 hro.2.1 (by decide) ad _ e rfl e2)⟩
  · rw [List.map_set, List.map_set, hlo]
    congr 1
    simp [OpM.q, Ro.q, e0, e3]
end Go.Proofs.Ytofigofaiadffaa
