/- isDue, goOut. -/
import Derived.Test.YtofigofaiadffaaSe2
namespace Go.Proofs.Ytofigofaiadffaa
open Go.RowKit Go.ChangeShapes Go.WideShapes Go.ChangeAt Go.Deep

theorem wrap_in {x : Int} (h : I64 x) : IntKind.i64.wrap x = x := by
  unfold I64 at h
  unfold IntKind.wrap
  simp [IntKind.signed, IntKind.bits]
  omega
set_option linter.unusedSimpArgs false in
set_option maxRecDepth 100000 in
set_option maxHeartbeats 1000000 in
theorem isDue_any (g p : Nat) (o : Op) (now : Int) (w : World) (ht : I64 o.tm ∧ 0 ≤ o.wt ∧ o.wt ≤ 64) (hn : I64 now) (y1 : w.cell? ⟨g, p + 1, none⟩ = some (.int .i64 o.tm)) (y2 : w.cell? ⟨g, p + 2, none⟩ = some (.int .i64 o.wt)) :
    Calls Try.prog 37 #[.pointer (some ⟨g, p, none⟩), .int .i64 now] w fun e w' => e = .returned (.bool (dueB o now)) ∧ Below w.heap.size w w' := by
  obtain ⟨x, tm, wt⟩ := o
  simp only at ht y1 y2
  obtain ⟨h1, h2, h3⟩ := ht
  by_cases h0 : wt = 0
  · have HE := hide (show dueB ⟨x, tm, wt⟩ now = true by simp [dueB, h0])
    clear h1 h2 h3 hn
    subst h0
    go_enter Try.func37, Try.ntmps37
    go_wp2
    go_ret
    exact ⟨by rw [HE.out]; rfl, Below.refl _ _⟩
  · have hw1 : IntKind.i64.wrap (9223372036854775807 - wt) = 9223372036854775807 - wt := wrap_in (by unfold I64; omega)
    have q0 : (wt == 0) = false := by simpa using h0
    by_cases h4 : tm ≤ 9223372036854775807 - wt
    · have hw2 : IntKind.i64.wrap (tm + wt) = tm + wt := wrap_in (by unfold I64 at *; omega)
      have HE := hide (show dueB ⟨x, tm, wt⟩ now = decide (tm + wt ≤ now) by simp [dueB, h0])
      have q1 : decide (tm ≤ 9223372036854775807 - wt) = true := by simpa using h4
      clear h1 h2 h3 hn h0
      go_enter Try.func37, Try.ntmps37
      go_wp2_with fail
      go_big_quiet (fail)
      go_wp2_with fail
      go_ret
      exact ⟨by rw [HE.out]; rfl, below_drewN (Below.refl _ _) _⟩
    · have HE := hide (show dueB ⟨x, tm, wt⟩ now = false by unfold I64 at *; simp [dueB, h0]; omega)
      have q1 : decide (tm ≤ 9223372036854775807 - wt) = false := by simpa using h4
      clear h1 h2 h3 hn h0
      go_enter Try.func37, Try.ntmps37
      go_wp2_with fail
      go_big_quiet (fail)
      go_wp2_with fail
      go_ret
      exact ⟨by rw [HE.out]; rfl, below_drewN (Below.refl _ _) _⟩
set_option linter.unusedSimpArgs false in
set_option maxRecDepth 100000 in
set_option maxHeartbeats 1000000 in
theorem goOut_any (g p : Nat) (tm wt now : Int) (w : World) (h2 : 0 ≤ wt ∧ wt ≤ 64) (y1 : w.cell? ⟨g, p + 1, none⟩ = some (.int .i64 tm)) (y2 : w.cell? ⟨g, p + 2, none⟩ = some (.int .i64 wt)) (f1 : w.frozen? ⟨g, p + 1, none⟩ = false) (f2 : w.frozen? ⟨g, p + 2, none⟩ = false) :
    Calls Try.prog 38 #[.pointer (some ⟨g, p, none⟩), .int .i64 now] w fun e w' => e = .returned (.tuple #[]) ∧ w' = (w.setCell ⟨g, p + 1, none⟩ (.int .i64 now)).setCell ⟨g, p + 2, none⟩ (.int .i64 (min (max 4 (2 * wt)) 64)) := by
  obtain ⟨h3, h4⟩ := h2
  have y2' : (w.setCell ⟨g, p + 1, none⟩ (.int .i64 now)).cell? ⟨g, p + 2, none⟩ = some (.int .i64 wt) := by rw [cset (by omega)]; exact y2
  go_enter Try.func38, Try.ntmps38
  go_wp2
  all_goals (go_end0; refine ⟨rfl, ?_⟩; congr 2; omega)
/-- An open load's two numbers are stored. -/
def put2t (w : World) (g k : Nat) (tm wt : Int) : World := (w.setCell ⟨g, 3 + k * 3 + 1, none⟩ (.int .i64 tm)).setCell ⟨g, 3 + k * 3 + 2, none⟩ (.int .i64 wt)
theorem LinkC.put_t {w : World} {g : Nat} {m : Lm} (h : LinkC w g m) (k : Nat) (hk : k < 8) (tm wt : Int) : LinkC (put2t w g k tm wt) g { m with os := upd m.os k ⟨(m.os k).t, tm, wt⟩ } := by
  have s0 : ∀ j, j ≠ 3 + k * 3 + 1 → j ≠ 3 + k * 3 + 2 → (put2t w g k tm wt).cell? ⟨g, j, none⟩ = w.cell? ⟨g, j, none⟩ := fun j h1 h2 => by
    unfold put2t
    rw [cset h2, cset h1]
  constructor
  · unfold put2t; rw [size_set, size_set]; exact h.lt
  · intro j hj; unfold put2t; rw [World.frozen?_setCell, World.frozen?_setCell]; exact h.fz j hj
  · rw [s0 _ (by omega) (by omega)]; exact h.last
  · rw [s0 _ (by omega) (by omega)]; exact h.used
  · rw [s0 _ (by omega) (by omega)]; exact h.acked
  · intro j hj
    rw [s0 _ (by omega) (by omega)]
    by_cases e : j = k
    · subst e
      simp only [upd_same]
      exact h.o0 j hj
    · simp only [upd_ne m.os k j _ e]
      exact h.o0 j hj
  · intro j hj
    by_cases e : j = k
    · subst e
      simp only [upd_same]
      unfold put2t
      rw [cset (by omega)]
      exact World.cell?_setCell_same _ _ _ (h.o1 j hj)
    · simp only [upd_ne m.os k j _ e]
      rw [s0 _ (by omega) (by omega)]; exact h.o1 j hj
  · intro j hj
    by_cases e : j = k
    · subst e
      simp only [upd_same]
      unfold put2t
      exact World.cell?_setCell_same _ _ _ (by rw [cset (by omega)]; exact h.o2 j hj)
    · simp only [upd_ne m.os k j _ e]
      rw [s0 _ (by omega) (by omega)]; exact h.o2 j hj
  · rw [s0 _ (by omega) (by omega)]; exact h.came
  · intro j hj; rw [s0 _ (by omega) (by omega)]; exact h.e0 j hj
  · intro j hj; rw [s0 _ (by omega) (by omega)]; exact h.e1 j hj
  · rw [s0 _ (by omega) (by omega)]; exact h.owed
  · rw [s0 _ (by omega) (by omega)]; exact h.self
  · rw [s0 _ (by omega) (by omega)]; exact h.peer
  · rw [s0 _ (by omega) (by omega)]; exact h.life
  · rw [s0 _ (by omega) (by omega)]; exact h.theirs
theorem Rel.goOut {s : Lk} {m : Lm} (h : Rel s m) {i : Nat} (hi : i < s.op.length) {now : Int} (hn : I64 now) : Rel { s with op := s.op.set i (goO s.op[i] now) } { m with os := upd m.os ((s.acked + 1 + i) % 8) ⟨(m.os ((s.acked + 1 + i) % 8)).t, now, min (max 4 (2 * s.op[i].wt)) 64⟩ } := by
  have hl := h.len
  refine ⟨h.last, by simp only [List.length_set]; exact h.used, h.acked, h.came, h.owed, h.self, h.peer, h.life, h.theirs, by simp only [List.length_set]; exact hl, fun j hj => ?_, fun j hj => ?_, h.ea, h.far⟩
  · have hj : j < s.op.length := by simpa using hj
    by_cases e : j = i
    · subst e
      simp only [upd_same, List.getElem_set_self, goO, and_self, and_true]
      exact (h.op j hi).1
    · simp only
      rw [upd_ne _ _ _ _ (mod_ne (by omega) (by omega) e), List.getElem_set_ne (by omega)]
      exact h.op j hj
  · have hj : j < s.op.length := by simpa using hj
    by_cases e : j = i
    · subst e
      simp only [List.getElem_set_self, goO]
      have := (h.opb j hi).2
      exact ⟨hn, by omega, by omega⟩
    · rw [List.getElem_set_ne (by omega)]
      exact h.opb j hj
theorem OwnL.put_t {D : Nat → Prop} {w : World} {g : Nat} {m : Lm} (h : OwnL D w g m) (k : Nat) (hk : k < 8) (tm wt : Int) : OwnL D w g { m with os := upd m.os k ⟨(m.os k).t, tm, wt⟩ } := h.put_o k _ (h.o k hk).1 (h.o k hk).2

/-- A frame in memory. -/
structure Fm where
  fr : Int
  tt : Int
  lf : Int
  sq : Int
  ak : Int
  t : Txt
def Fm.cs (x : Fm) : List Value := [.int .i64 x.fr, .int .i64 x.tt, .int .i64 x.lf, .int .i64 x.sq, .int .i64 x.ak, .slice x.t.a x.t.len x.t.cap]
def Fm.p (x : Fm) : Fr := ⟨x.fr, x.tt, x.lf, x.sq, x.ak, x.t.bs⟩
def fV (l : List Fm) : List Value := l.flatMap Fm.cs
theorem fV_len (l : List Fm) : (fV l).length = l.length * 6 := by
  induction l with
  | nil => rfl
  | cons a r ih => show (Fm.cs a ++ fV r).length = _; simp [ih, Fm.cs]; omega
theorem fV_app (a b : List Fm) : fV (a ++ b) = fV a ++ fV b := by simp [fV]
theorem fV_one (l : List Fm) : ∀ u ∈ fV l, u.oneCell' = true := fun u hu => by
  simp only [fV, List.mem_flatMap] at hu
  obtain ⟨y, _, hy⟩ := hu
  simp [Fm.cs] at hy
  rcases hy with rfl | rfl | rfl | rfl | rfl | rfl <;> rfl
/-- A row of frames of one's own, from block B on; each load is one's own. -/
def RowF (B : Nat) (w : World) (a : Option Addr) (n c : Nat) (l : List Fm) : Prop :=
  l.length = n ∧ w.ownsRow B 34 6 (.slice a n c) n (fV l) ∧ ∀ x ∈ l, TxO (fun k => B ≤ k ∧ k < w.heap.size) w x.t
theorem RowF.nil (B : Nat) (w : World) : RowF B w none 0 0 [] := ⟨rfl, World.ownsRow_nil _ _ _ _, fun x hx => by cases hx⟩
theorem RowF.keep {B : Nat} {w w' : World} {a : Option Addr} {n c : Nat} {l : List Fm} (h : RowF B w a n c l) (hs : w.heap.size ≤ w'.heap.size) (hk : ∀ k, B ≤ k → k < w.heap.size → w'.heap[k]? = w.heap[k]?) : RowF B w' a n c l :=
  ⟨h.1, own_keep h.2.1 fun ad e => by have := own_lt h.2.1 ad e; exact hk _ this.1 this.2, fun x hx => ((h.2.2 x hx).keep fun ad e => by have := (h.2.2 x hx).2.2 ad e; exact hk _ this.1 this.2).mono fun k hk => ⟨hk.1, Nat.lt_of_lt_of_le hk.2 hs⟩⟩
theorem RowF.below {B : Nat} {w w' : World} {a : Option Addr} {n c : Nat} {l : List Fm} (h : RowF B w a n c l) (hb : Below w.heap.size w w') : RowF B w' a n c l := h.keep hb.size fun k _ hk => hb.block k hk
theorem Try.info34 : (Try.prog.info? 34).map (fun i => (i.zero, i.size, i.bytes)) = some (some (.agg #[.int .i64 0, .int .i64 0, .int .i64 0, .int .i64 0, .int .i64 0, .slice none 0 0]), 6, 64) := by kernel_rfl
theorem own_opens {w : World} {B T z n : Nat} {v : Value} {xs : List Value} (h : w.ownsRow B T z v n xs) : ∃ a c, v = .slice a n c := by
  rcases h.2 with ⟨rfl, rfl⟩ | ⟨g, cap, cur, rfl, _⟩
  · exact ⟨_, _, rfl⟩
  · exact ⟨_, _, rfl⟩
/-- One frame is put behind a row of one's own. -/
theorem append_f {w : World} {ops : Array Oper} {rest : List Oper} {o : Oper} {act : Act} {Q : Exit → Act → World → Prop} (hgd : o.guard = none) (s x : Operand)
    (ho : o.op = .call { callee := .builtin .append, args := #[s, x], argTypes := #[53, 53] }) (B : Nat) (a : Option Addr) (n c : Nat) (l : List Fm) (hs : act.eval s = .slice a n c) (hR : RowF B w a n c l) (hn : n ≤ 1000000) (hB : B ≤ w.heap.size)
    (bk : Nat) (y : Fm) (hx : act.eval x = .slice (some ⟨bk, 0, none⟩) 1 1) (hb : Reads w (some ⟨bk, 0, none⟩) y.cs) (hy : TxO (fun k => B ≤ k ∧ k < w.heap.size) w y.t)
    (h : ∀ a' c' w', RowF B w' a' (n + 1) c' (l ++ [y]) → w.grownBy w' (Value.slice a n c).ownBlock → (∀ ad, a = some ad → B ≤ ad.block) → wpList Try.prog ops Q rest (act.put o.dst (.slice a' (n + 1) c')) w') : wpList Try.prog ops Q (o :: rest) act w := by
  obtain ⟨i0, hi, hz0, hz1, hz2⟩ := info_parts Try.info34
  have hbk : ∀ j u, y.cs[j]? = some u → w.cell? ((⟨bk, 0, none⟩ : Addr).add j) = some u := by
    rcases hb with e | ⟨b, o, e, hr⟩
    · simp [Fm.cs] at e
    · simp only [Option.some.injEq, Addr.mk.injEq] at e
      obtain ⟨rfl, rfl, _⟩ := e
      intro j u hu
      rw [add_none]; exact hr j u hu
  refine wpList_append_own _ hgd s x 53 ho B 34 i0 (.agg #[.int .i64 0, .int .i64 0, .int .i64 0, .int .i64 0, .int .i64 0, .slice none 0 0]) 6 64 Try.underlying53 hi hz0 hz1 hz2 rfl (by omega) (.slice a n c) n (fV l) hs hR.2.1 ⟨bk, 0, none⟩ 1 1 y.cs hx rfl hbk (fun u hu => fV_one [y] u (by simpa [fV] using hu)) (by unfold maxLen; omega) (by omega) hB ?_
  intro v' w' ho' hg' _
  obtain ⟨a', c', rfl⟩ := own_opens ho'
  have e : fV l ++ y.cs = fV (l ++ [y]) := by rw [fV_app]; simp [fV]
  rw [e] at ho'
  have hkp : ∀ z : Txt, TxO (fun k => B ≤ k ∧ k < w.heap.size) w z → TxO (fun k => B ≤ k ∧ k < w'.heap.size) w' z := fun z hz => (hz.keep fun ad e => hg'.block _ (hz.lt ad e) (fun e2 => by
    cases a with
    | none => simp [Value.ownBlock] at e2
    | some ad2 => simp only [Value.ownBlock, Option.some.injEq] at e2; exact own_apart hz.2.1 hR.2.1 (by decide) ad ad2 e rfl e2)).mono fun k hk => ⟨hk.1, Nat.lt_of_lt_of_le hk.2 hg'.size⟩
  refine h a' c' w' ⟨by simp [hR.1], ho', fun z hz => ?_⟩ hg' (fun ad e => (own_lt hR.2.1 ad e).1)
  rw [List.mem_append, List.mem_singleton] at hz
  rcases hz with hz | rfl
  · exact hkp _ (hR.2.2 z hz)
  · exact hkp _ hy
end Go.Proofs.Ytofigofaiadffaa
