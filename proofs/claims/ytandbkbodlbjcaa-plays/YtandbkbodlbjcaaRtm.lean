/- The document's own table in memory. -/
import Derived.Test.YtandbkbodlbjcaaRfA
import Derived.Deep.AppendLies
namespace Go.Proofs.Ytandbkbodlbjcaa
open Go.RowKit Go.ChangeShapes Go.WideShapes Go.ChangeAt Go.Deep Go.Maps Go.Sort

/-- The document's table, plain. -/
structure Rt where
  mx : Int
  rdy : List ByteArray
  goi : List ByteArray
  prk : Pk
def pcs (q : ByteArray × ByteArray) : List Value := [.string q.1, .string q.2]
def pV (p : Pk) : List Value := p.flatMap pcs
theorem pV_len (l : Pk) : (pV l).length = l.length * 2 := by
  induction l with
  | nil => rfl
  | cons a r ih => show (pcs a ++ pV r).length = _; simp [ih, pcs]; omega
theorem pV_app (a b : Pk) : pV (a ++ b) = pV a ++ pV b := by simp [pV]
theorem pV_one (q : ByteArray × ByteArray) : pV [q] = pcs q := by simp [pV]
theorem pcs_cells (q : ByteArray × ByteArray) : ∀ u ∈ pcs q, u.oneCell' = true := fun u hu => by
  simp [pcs] at hu
  rcases hu with rfl | rfl <;> rfl
theorem pV_at (l : Pk) {k : Nat} {q : ByteArray × ByteArray} (hk : l[k]? = some q) : (pV l)[k * 2]? = some (.string q.1) ∧ (pV l)[k * 2 + 1]? = some (.string q.2) := by
  induction l generalizing k with
  | nil => simp at hk
  | cons a r ih =>
    have e : pV (a :: r) = pcs a ++ pV r := by simp [pV]
    have hl : (pcs a).length = 2 := rfl
    rw [e]
    cases k with
    | zero =>
      simp at hk
      subst hk
      constructor <;> rfl
    | succ k =>
      have := ih (k := k) (by simpa using hk)
      rw [List.getElem?_append_right (by omega), hl, show (k + 1) * 2 - 2 = k * 2 by omega, List.getElem?_append_right (by omega), hl, show (k + 1) * 2 + 1 - 2 = k * 2 + 1 by omega]
      exact this

theorem ownK {w w' : World} {B T z n : Nat} {v : Value} {xs : List Value} (h : w.ownsRow B T z v n xs) (hk : ∀ b, v.ownBlock = some b → w'.heap[b]? = w.heap[b]?) : w'.ownsRow B T z v n xs := by
  refine ⟨h.1, ?_⟩
  rcases h.2 with h2 | ⟨g, cap, cur, e, h1, h2, h3⟩
  · exact .inl h2
  · exact .inr ⟨g, cap, cur, e, h1, (hk g (by rw [e]; rfl)).trans h2, h3⟩
theorem own_base {w : World} {B B' T z n : Nat} {v : Value} {xs : List Value} (h : w.ownsRow B T z v n xs) (hB : B' ≤ B) : w.ownsRow B' T z v n xs := by
  refine ⟨h.1, ?_⟩
  rcases h.2 with h2 | ⟨g, cap, cur, e, h1, h2⟩
  · exact .inl h2
  · exact .inr ⟨g, cap, cur, e, Nat.le_trans hB h1, h2⟩

/-- The document's table in memory, its blocks in colours. -/
structure RtC (κ : Cl) (w : World) (cb : Nat) (U : Rt) (vr vg vp : Value) : Prop where
  lt : ∀ k, κ k ≠ none → k < w.heap.size
  hc : κ cb = some .box
  box : BoxL w cb [.int .i64 U.mx, vr, vg, vp]
  r : w.ownsRow 0 31 1 vr U.rdy.length (nV U.rdy)
  rc : ∀ b, vr.ownBlock = some b → κ b = some .row
  g : w.ownsRow 0 31 1 vg U.goi.length (nV U.goi)
  gc : ∀ b, vg.ownBlock = some b → κ b = some .go
  p : w.ownsRow 0 73 2 vp U.prk.length (pV U.prk)
  pc : ∀ b, vp.ownBlock = some b → κ b = some .pk
def RtM (κ : Cl) (w : World) (cb : Nat) (U : Rt) : Prop := ∃ vr vg vp, RtC κ w cb U vr vg vp

theorem RtC.keep {κ : Cl} {w w' : World} {cb : Nat} {U : Rt} {vr vg vp : Value} (h : RtC κ w cb U vr vg vp) (hs : w.heap.size ≤ w'.heap.size) (hk : ∀ k, k < w.heap.size → κ k ≠ none → w'.heap[k]? = w.heap[k]?) : RtC κ w' cb U vr vg vp :=
  ⟨fun k hc => Nat.lt_of_lt_of_le (h.lt k hc) hs, h.hc, h.box.keep hs (hk cb h.box.1 (by rw [h.hc]; simp)), ownK h.r (fun b hb => hk b (h.r.lt b hb).2 (by rw [h.rc b hb]; simp)), h.rc, ownK h.g (fun b hb => hk b (h.g.lt b hb).2 (by rw [h.gc b hb]; simp)), h.gc, ownK h.p (fun b hb => hk b (h.p.lt b hb).2 (by rw [h.pc b hb]; simp)), h.pc⟩
theorem RtC.below {κ : Cl} {w w' : World} {cb : Nat} {U : Rt} {vr vg vp : Value} (h : RtC κ w cb U vr vg vp) (hb : Below w.heap.size w w') : RtC κ w' cb U vr vg vp := h.keep hb.size (fun k hk _ => hb.block k hk)
theorem RtM.keep {κ : Cl} {w w' : World} {cb : Nat} {U : Rt} (h : RtM κ w cb U) (hs : w.heap.size ≤ w'.heap.size) (hk : ∀ k, k < w.heap.size → κ k ≠ none → w'.heap[k]? = w.heap[k]?) : RtM κ w' cb U := by
  obtain ⟨a, b, c, h⟩ := h
  exact ⟨a, b, c, h.keep hs hk⟩
theorem RtM.below {κ : Cl} {w w' : World} {cb : Nat} {U : Rt} (h : RtM κ w cb U) (hb : Below w.heap.size w w') : RtM κ w' cb U := h.keep hb.size (fun k hk _ => hb.block k hk)
theorem RtM.other {κ κ1 κ2 : Cl} {w w' : World} {cb : Nat} {U : Rt} (h : RtM κ w cb U) (hs : Stp κ1 κ2 w w') (hd : ∀ k, κ k ≠ none → κ1 k = none) : RtM κ w' cb U :=
  h.keep hs.kp.size (fun k hk hc => hs.kp.block k hk (fun e => e (hd k hc)))

/-- The colours behind a new value. -/
def hue (κ : Cl) (v : Value) (t : Tag) : Cl := fun k => if v.ownBlock = some k then some t else κ k
theorem hue_at {κ : Cl} {v : Value} {t : Tag} {b : Nat} (h : v.ownBlock = some b) : hue κ v t b = some t := by simp [hue, h]
theorem hue_not {κ : Cl} {v : Value} {t : Tag} {b : Nat} (h : v.ownBlock ≠ some b) : hue κ v t b = κ b := by simp [hue, h]

theorem RtC.setR {κ : Cl} {w w1 : World} {cb : Nat} {U : Rt} {vr vg vp v' : Value} (h : RtC κ w cb U vr vg vp) (L' : List ByteArray) (ho : w1.ownsRow 0 31 1 v' L'.length (nV L')) (hk : Kp (fun k => vr.ownBlock = some k) w w1) (hf : ∀ b, v'.ownBlock = some b → vr.ownBlock = some b ∨ w.heap.size ≤ b) :
    RtC (hue κ v' .row) (w1.setCell ⟨cb, 1, none⟩ v') cb { U with rdy := L' } v' vg vp ∧ Stp κ (hue κ v' .row) w (w1.setCell ⟨cb, 1, none⟩ v') := by
  have hs := hk.size
  have hsz : (w1.setCell ⟨cb, 1, none⟩ v').heap.size = w1.heap.size := by simp [World.setCell]
  have cl : ∀ k, k < w.heap.size → hue κ v' .row k = κ k := fun k hlt => by
    by_cases e : v'.ownBlock = some k
    · rw [hue_at e]
      rcases hf k e with e1 | e1
      · exact (h.rc k e1).symm
      · omega
    · exact hue_not e
  have hcb : ∀ k t, κ k = some t → t ≠ .box → k ≠ cb := fun k t e n e1 => by
    subst e1; rw [h.hc] at e; cases e; exact n rfl
  have q : ∀ k, k < w.heap.size → ∀ t, κ k = some t → t ≠ .box → t ≠ .row → (w1.setCell ⟨cb, 1, none⟩ v').heap[k]? = w.heap[k]? := fun k hlt t e n1 n2 => by
    rw [Below.heap_setCell _ _ _ _ (hcb k t e n1)]
    exact hk.block k hlt (fun e1 => by have := h.rc k e1; rw [e] at this; cases this; exact n2 rfl)
  have hb1 : w1.heap[cb]? = w.heap[cb]? := hk.block cb h.box.1 (fun e => by have := h.rc cb e; rw [h.hc] at this; cases this)
  have hvb : ∀ b, v'.ownBlock = some b → b ≠ cb := fun b e e1 => by
    subst e1
    rcases hf b e with e2 | e2
    · have := h.rc b e2; rw [h.hc] at this; cases this
    · have := h.box.1; omega
  have own_put : (w1.setCell ⟨cb, 1, none⟩ v').ownsRow 0 31 1 v' L'.length (nV L') := ownK ho (fun b e => Below.heap_setCell _ _ _ _ (hvb b e))
  refine ⟨⟨fun k hc => ?_, (cl cb h.box.1).trans h.hc, (h.box.keep hs hb1).put 1 v', own_put, fun b hb => hue_at hb, ownK h.g (fun b hb => q b (h.g.lt b hb).2 _ (h.gc b hb) (by simp) (by simp)), fun b hb => (cl b (h.g.lt b hb).2).trans (h.gc b hb), ownK h.p (fun b hb => q b (h.p.lt b hb).2 _ (h.pc b hb) (by simp) (by simp)), fun b hb => (cl b (h.p.lt b hb).2).trans (h.pc b hb)⟩, ⟨⟨hk.os, hk.tape, hk.output, by rw [hsz]; exact hs, fun k hlt hn => ?_⟩, cl⟩⟩
  · rw [hsz]
    by_cases e : v'.ownBlock = some k
    · exact (ho.lt k e).2
    · rw [hue_not e] at hc; exact Nat.lt_of_lt_of_le (h.lt k hc) hs
  · rw [Below.heap_setCell _ _ _ _ (fun e => hn (by subst e; rw [h.hc]; simp))]
    exact hk.block k hlt (fun e => hn (by rw [h.rc k e]; simp))

theorem RtC.setG {κ : Cl} {w w1 : World} {cb : Nat} {U : Rt} {vr vg vp v' : Value} (h : RtC κ w cb U vr vg vp) (L' : List ByteArray) (ho : w1.ownsRow 0 31 1 v' L'.length (nV L')) (hk : Kp (fun k => vg.ownBlock = some k) w w1) (hf : ∀ b, v'.ownBlock = some b → vg.ownBlock = some b ∨ w.heap.size ≤ b) :
    RtC (hue κ v' .go) (w1.setCell ⟨cb, 2, none⟩ v') cb { U with goi := L' } vr v' vp ∧ Stp κ (hue κ v' .go) w (w1.setCell ⟨cb, 2, none⟩ v') := by
  have hs := hk.size
  have hsz : (w1.setCell ⟨cb, 2, none⟩ v').heap.size = w1.heap.size := by simp [World.setCell]
  have cl : ∀ k, k < w.heap.size → hue κ v' .go k = κ k := fun k hlt => by
    by_cases e : v'.ownBlock = some k
    · rw [hue_at e]
      rcases hf k e with e1 | e1
      · exact (h.gc k e1).symm
      · omega
    · exact hue_not e
  have hcb : ∀ k t, κ k = some t → t ≠ .box → k ≠ cb := fun k t e n e1 => by
    subst e1; rw [h.hc] at e; cases e; exact n rfl
  have q : ∀ k, k < w.heap.size → ∀ t, κ k = some t → t ≠ .box → t ≠ .go → (w1.setCell ⟨cb, 2, none⟩ v').heap[k]? = w.heap[k]? := fun k hlt t e n1 n2 => by
    rw [Below.heap_setCell _ _ _ _ (hcb k t e n1)]
    exact hk.block k hlt (fun e1 => by have := h.gc k e1; rw [e] at this; cases this; exact n2 rfl)
  have hb1 : w1.heap[cb]? = w.heap[cb]? := hk.block cb h.box.1 (fun e => by have := h.gc cb e; rw [h.hc] at this; cases this)
  have hvb : ∀ b, v'.ownBlock = some b → b ≠ cb := fun b e e1 => by
    subst e1
    rcases hf b e with e2 | e2
    · have := h.gc b e2; rw [h.hc] at this; cases this
    · have := h.box.1; omega
  have own_put : (w1.setCell ⟨cb, 2, none⟩ v').ownsRow 0 31 1 v' L'.length (nV L') := ownK ho (fun b e => Below.heap_setCell _ _ _ _ (hvb b e))
  refine ⟨⟨fun k hc => ?_, (cl cb h.box.1).trans h.hc, (h.box.keep hs hb1).put 2 v', ownK h.r (fun b hb => q b (h.r.lt b hb).2 _ (h.rc b hb) (by simp) (by simp)), fun b hb => (cl b (h.r.lt b hb).2).trans (h.rc b hb), own_put, fun b hb => hue_at hb, ownK h.p (fun b hb => q b (h.p.lt b hb).2 _ (h.pc b hb) (by simp) (by simp)), fun b hb => (cl b (h.p.lt b hb).2).trans (h.pc b hb)⟩, ⟨⟨hk.os, hk.tape, hk.output, by rw [hsz]; exact hs, fun k hlt hn => ?_⟩, cl⟩⟩
  · rw [hsz]
    by_cases e : v'.ownBlock = some k
    · exact (ho.lt k e).2
    · rw [hue_not e] at hc; exact Nat.lt_of_lt_of_le (h.lt k hc) hs
  · rw [Below.heap_setCell _ _ _ _ (fun e => hn (by subst e; rw [h.hc]; simp))]
    exact hk.block k hlt (fun e => hn (by rw [h.gc k e]; simp))

theorem RtC.setP {κ : Cl} {w w1 : World} {cb : Nat} {U : Rt} {vr vg vp v' : Value} (h : RtC κ w cb U vr vg vp) (L' : Pk) (ho : w1.ownsRow 0 73 2 v' L'.length (pV L')) (hk : Kp (fun k => vp.ownBlock = some k) w w1) (hf : ∀ b, v'.ownBlock = some b → vp.ownBlock = some b ∨ w.heap.size ≤ b) :
    RtC (hue κ v' .pk) (w1.setCell ⟨cb, 3, none⟩ v') cb { U with prk := L' } vr vg v' ∧ Stp κ (hue κ v' .pk) w (w1.setCell ⟨cb, 3, none⟩ v') := by
  have hs := hk.size
  have hsz : (w1.setCell ⟨cb, 3, none⟩ v').heap.size = w1.heap.size := by simp [World.setCell]
  have cl : ∀ k, k < w.heap.size → hue κ v' .pk k = κ k := fun k hlt => by
    by_cases e : v'.ownBlock = some k
    · rw [hue_at e]
      rcases hf k e with e1 | e1
      · exact (h.pc k e1).symm
      · omega
    · exact hue_not e
  have hcb : ∀ k t, κ k = some t → t ≠ .box → k ≠ cb := fun k t e n e1 => by
    subst e1; rw [h.hc] at e; cases e; exact n rfl
  have q : ∀ k, k < w.heap.size → ∀ t, κ k = some t → t ≠ .box → t ≠ .pk → (w1.setCell ⟨cb, 3, none⟩ v').heap[k]? = w.heap[k]? := fun k hlt t e n1 n2 => by
    rw [Below.heap_setCell _ _ _ _ (hcb k t e n1)]
    exact hk.block k hlt (fun e1 => by have := h.pc k e1; rw [e] at this; cases this; exact n2 rfl)
  have hb1 : w1.heap[cb]? = w.heap[cb]? := hk.block cb h.box.1 (fun e => by have := h.pc cb e; rw [h.hc] at this; cases this)
  have hvb : ∀ b, v'.ownBlock = some b → b ≠ cb := fun b e e1 => by
    subst e1
    rcases hf b e with e2 | e2
    · have := h.pc b e2; rw [h.hc] at this; cases this
    · have := h.box.1; omega
  have own_put : (w1.setCell ⟨cb, 3, none⟩ v').ownsRow 0 73 2 v' L'.length (pV L') := ownK ho (fun b e => Below.heap_setCell _ _ _ _ (hvb b e))
  refine ⟨⟨fun k hc => ?_, (cl cb h.box.1).trans h.hc, (h.box.keep hs hb1).put 3 v', ownK h.r (fun b hb => q b (h.r.lt b hb).2 _ (h.rc b hb) (by simp) (by simp)), fun b hb => (cl b (h.r.lt b hb).2).trans (h.rc b hb), ownK h.g (fun b hb => q b (h.g.lt b hb).2 _ (h.gc b hb) (by simp) (by simp)), fun b hb => (cl b (h.g.lt b hb).2).trans (h.gc b hb), own_put, fun b hb => hue_at hb⟩, ⟨⟨hk.os, hk.tape, hk.output, by rw [hsz]; exact hs, fun k hlt hn => ?_⟩, cl⟩⟩
  · rw [hsz]
    by_cases e : v'.ownBlock = some k
    · exact (ho.lt k e).2
    · rw [hue_not e] at hc; exact Nat.lt_of_lt_of_le (h.lt k hc) hs
  · rw [Below.heap_setCell _ _ _ _ (fun e => hn (by subst e; rw [h.hc]; simp))]
    exact hk.block k hlt (fun e => hn (by rw [h.pc k e]; simp))

/-- One more, and where the row lies. -/
theorem app_own {w : World} {ops : Array Oper} {rest : List Oper} {o : Oper} {act : Act} {Q : Exit → Act → World → Prop} (hgd : o.guard = none) (s x : Operand)
    (ho : o.op = .call { callee := .builtin .append, args := #[s, x], argTypes := #[27, 27] }) (v : Value) (n : Nat) (xs : List ByteArray) (hs : act.eval s = v) (hown : w.ownsRow 0 31 1 v n (nV xs)) (hn : n ≤ 1000000)
    (bk : Nat) (y : ByteArray) (hx : act.eval x = .slice (some ⟨bk, 0, none⟩) 1 1) (hy : Reads w (some ⟨bk, 0, none⟩) (nV [y]))
    (h : ∀ v' w', w'.ownsRow 0 31 1 v' (n + 1) (nV (xs ++ [y])) → w.grownBy w' v.ownBlock → (∀ b, v'.ownBlock = some b → v.ownBlock = some b ∨ b = w.heap.size) → wpList Try.prog ops Q rest (act.put o.dst v') w') : wpList Try.prog ops Q (o :: rest) act w := by
  obtain ⟨i0, hi, hz0, hz1, hz2⟩ := info_parts Try.info31
  have hbk : ∀ j u, (nV [y])[j]? = some u → w.cell? ((⟨bk, 0, none⟩ : Addr).add j) = some u := by
    rcases hy with e | ⟨b, o, e, hr⟩
    · simp [nV] at e
    · simp only [Option.some.injEq, Addr.mk.injEq, and_true] at e
      obtain ⟨rfl, rfl⟩ := e
      intro j u hu
      rw [add_none]; exact hr j u hu
  refine wpList_append_lies w hgd s x 27 ho 0 31 i0 (.string ⟨#[]⟩) 1 16 Try.underlying27 hi hz0 hz1 hz2 rfl (by decide) v n (nV xs) hs hown ⟨bk, 0, none⟩ 1 1 (nV [y]) hx rfl hbk (nV_one _) (by omega) (by unfold maxLen; omega) (by omega) (Nat.zero_le _) w.heap.size rfl ?_
  intro g c' w' ho' hg' hat _
  refine h _ w' (by have e : nV xs ++ nV [y] = nV (xs ++ [y]) := by simp [nV]
                    rw [← e]; exact ho') hg' (fun b hb => ?_)
  simp [Value.ownBlock] at hb
  subst hb
  exact hat
theorem Try.info73 : (Try.prog.info? 73).map (fun i => (i.zero, i.size, i.bytes)) = some (some (.agg #[.string ⟨#[]⟩, .string ⟨#[]⟩]), 2, 32) := by kernel_rfl
theorem app_pair {w : World} {ops : Array Oper} {rest : List Oper} {o : Oper} {act : Act} {Q : Exit → Act → World → Prop} (hgd : o.guard = none) (s x : Operand)
    (ho : o.op = .call { callee := .builtin .append, args := #[s, x], argTypes := #[28, 28] }) (B : Nat) (v : Value) (n : Nat) (xs : Pk) (hs : act.eval s = v) (hown : w.ownsRow B 73 2 v n (pV xs)) (hn : n ≤ 1000000) (hB : B ≤ w.heap.size)
    (bk : Nat) (y : ByteArray × ByteArray) (hx : act.eval x = .slice (some ⟨bk, 0, none⟩) 1 1) (hy : Reads w (some ⟨bk, 0, none⟩) (pcs y))
    (h : ∀ v' w', w'.ownsRow B 73 2 v' (n + 1) (pV (xs ++ [y])) → w.grownBy w' v.ownBlock → (∀ b, v'.ownBlock = some b → v.ownBlock = some b ∨ b = w.heap.size) → wpList Try.prog ops Q rest (act.put o.dst v') w') : wpList Try.prog ops Q (o :: rest) act w := by
  obtain ⟨i0, hi, hz0, hz1, hz2⟩ := info_parts Try.info73
  have hbk : ∀ j u, (pcs y)[j]? = some u → w.cell? ((⟨bk, 0, none⟩ : Addr).add j) = some u := by
    rcases hy with e | ⟨b, o, e, hr⟩
    · simp [pcs] at e
    · simp only [Option.some.injEq, Addr.mk.injEq, and_true] at e
      obtain ⟨rfl, rfl⟩ := e
      intro j u hu
      rw [add_none]; exact hr j u hu
  refine wpList_append_lies w hgd s x 28 ho B 73 i0 (.agg #[.string ⟨#[]⟩, .string ⟨#[]⟩]) 2 32 Try.underlying28 hi hz0 hz1 hz2 rfl (by decide) v n (pV xs) hs hown ⟨bk, 0, none⟩ 1 1 (pcs y) hx rfl hbk (pcs_cells y) (by omega) (by unfold maxLen; omega) (by omega) hB w.heap.size rfl ?_
  intro g c' w' ho' hg' hat _
  refine h _ w' (by rw [pV_app, pV_one]; exact ho') hg' (fun b hb => ?_)
  simp [Value.ownBlock] at hb
  subst hb
  exact hat
end Go.Proofs.Ytandbkbodlbjcaa
