/- The document's link: Send. -/
import Derived.Test.YtofigofaiadffaaRkm
namespace Go.Proofs.Ytofigofaiadffaa
open Go.RowKit Go.ChangeShapes Go.WideShapes Go.ChangeAt Go.Deep

def OpM.q (x : OpM) : Int × Int × Int × List Nat := (x.sq, x.tt, x.n, x.t.bs)
def Ro.q (p : Ro) : Int × Int × Int × List Nat := (p.sq, p.tt, p.n, p.x)
def KpM.q (x : KpM) : Int × List Nat := (x.sq, x.t.bs)
def kq (p : Nat × List Nat) : Int × List Nat := (p.1, p.2)

structure Kc where
  self : Int
  peer : Int
  life : Int
  theirs : Int
  last : Int

def lkCs (k : Kc) (r : Rl) (oa : Option Addr) (on oc : Nat) (ka : Option Addr) (kn kc : Nat) : List Value :=
  [.int .i64 k.self, .int .i64 k.peer, .int .i64 k.life, .int .i64 k.theirs, .int .i64 k.last, .int .i64 r.seq, .int .i64 r.all, .slice oa on oc, .slice ka kn kc, .bool r.ow]

/-- The document's link, at block g, with all that it has in blocks of E. -/
def RLk (E : Nat → Prop) (w : World) (g : Nat) (k : Kc) (r : Rl) : Prop :=
  ∃ oa on oc ka kn kc lo lk, BoxL w g (lkCs k r oa on oc ka kn kc) ∧ RowO (fun j => E j ∧ j ≠ g) 0 w oa on oc lo ∧ RowK (fun j => E j ∧ j ≠ g) 0 w ka kn kc lk ∧
    lo.map OpM.q = r.op.map Ro.q ∧ lk.map KpM.q = r.kp.map kq ∧ E g ∧ ∀ j, E j → j < w.heap.size

theorem RLk.keep {E : Nat → Prop} {w w' : World} {g : Nat} {k : Kc} {r : Rl} (h : RLk E w g k r) (hs : w.heap.size ≤ w'.heap.size) (hk : ∀ j, E j → w'.heap[j]? = w.heap[j]?) : RLk E w' g k r := by
  obtain ⟨oa, on, oc, ka, kn, kc, lo, lk, h1, h2, h3, h4, h5, h6, h7⟩ := h
  exact ⟨oa, on, oc, ka, kn, kc, lo, lk, h1.keep hs (hk g h6), h2.keep (fun j hj _ => hk j hj.1), h3.keep (fun j hj _ => hk j hj.1), h4, h5, h6, fun j hj => Nat.lt_of_lt_of_le (h7 j hj) hs⟩

theorem RLk.below {E : Nat → Prop} {w w' : World} {g : Nat} {k : Kc} {r : Rl} (h : RLk E w g k r) (hb : Below w.heap.size w w') : RLk E w' g k r := by
  have h7 := h
  obtain ⟨oa, on, oc, ka, kn, kc, lo, lk, -, -, -, -, -, -, h7⟩ := h7
  exact h.keep hb.size (fun j hj => hb.block j (h7 j hj))

theorem RLk.mono {E E' : Nat → Prop} {w : World} {g : Nat} {k : Kc} {r : Rl} (h : RLk E w g k r) (hE : ∀ j, E j → E' j) (hl : ∀ j, E' j → j < w.heap.size) : RLk E' w g k r := by
  obtain ⟨oa, on, oc, ka, kn, kc, lo, lk, h1, h2, h3, h4, h5, h6, h7⟩ := h
  exact ⟨oa, on, oc, ka, kn, kc, lo, lk, h1, h2.mono (fun j hj => ⟨hE j hj.1, hj.2⟩) (Nat.le_refl _), h3.mono (fun j hj => ⟨hE j hj.1, hj.2⟩) (Nat.le_refl _), h4, h5, hE g h6, hl⟩

/-- A copy of a text. -/
theorem app_b {w : World} {o : Oper} {a : Act} {K : Act → World → Prop} {Q : Exit → Act → World → Prop} (s x : Operand)
    (ho : o.op = .call { callee := .builtin .append, args := #[s, x], argTypes := #[32, 32] }) (hs : a.eval s = .slice none 0 0)
    (ad : Option Addr) (m c : Nat) (ys : List Nat) (hx : a.eval x = .slice ad m c) (hnil : ad = none → m = 0 ∧ c = 0) (hl : ys.length = m) (hr : Reads w ad (bV ys)) (hb : m ≤ 1000000)
    (h : ∀ a' c' w', w'.ownsRow w.heap.size 5 1 (.slice a' m c') m (bV ys) → Below w.heap.size w w' → K (a.put o.dst (.slice a' m c')) w') : o.wp Try.prog a w K Q := by
  obtain ⟨i0, hi, hz0, hz1, hz2⟩ := info_parts Try.info5
  cases ad with
  | none =>
    obtain ⟨rfl, rfl⟩ := hnil rfl
    have hy : ys = [] := by cases ys with | nil => rfl | cons _ _ => simp at hl
    subst hy
    have hrun := run_append_owned_none (P := Try.prog) (w := w) w.heap.size 32 o.type 5 i0 1 Try.underlying32 hi (.slice none 0 0) 0 [] (World.ownsRow_nil _ _ _ _)
    unfold Oper.wp
    simp [execOp, ho, resolve, invoke, builtin, hs, hx, hrun, Result.andThen]
    exact h none 0 w (World.ownsRow_nil _ _ _ _) (Below.refl _ _)
  | some ad =>
    refine wp_append_own w s x 32 ho w.heap.size 5 i0 (.int .u8 0) 1 1 Try.underlying32 hi hz0 hz1 hz2 rfl (by decide) (.slice none 0 0) 0 [] hs (World.ownsRow_nil _ _ _ _) ad m c (bV ys) hx (by rw [bV_length]; omega) ?_ (bV_one ys) (by unfold maxLen; omega) (by omega) (Nat.le_refl _) ?_
    · rcases hr with hr | ⟨b, off, e, hr⟩
      · rw [hr]; simp
      · simp at e
        subst e
        intro j u hu
        rw [add_none]; exact hr j u hu
    · intro v' w' h1 h2 _
      obtain ⟨a', c', rfl⟩ := own_opens h1
      have hb' : Below w.heap.size w w' := ⟨h2.os, h2.tape, h2.output, h2.size, fun k hk => h2.block k hk (by simp [Value.ownBlock])⟩
      rw [Nat.zero_add] at h1 ⊢
      exact h a' c' w' (by simpa using h1) hb'

theorem below_undrew1 {w w' : World} (h : Below w.drew.heap.size w.drew w') : Below w.heap.size w w' := ⟨h.os, h.tape, h.output, h.size, h.block⟩
theorem reads_row (w : World) (xs : List Value) (t : TypeId) : Reads (w.alloc (.cells xs.toArray t)) (some ⟨w.heap.size, 0, none⟩) xs := by
  refine .inr ⟨_, _, rfl, fun j u hu => ?_⟩
  rw [World.cell?_alloc_at _ _ _ _ rfl]
  simpa using hu

def rsendE (k : Kc) (r : Rl) (x : List Nat) : Int := if 4096 < x.length then 3 else if k.last ≤ (r.seq : Int) then 32 else if 8 ≤ r.op.length then 31 else 0
def rsendL (k : Kc) (r : Rl) (x : List Nat) : Rl := if rsendE k r x = 0 then { r with seq := r.seq + 1, op := r.op ++ [⟨r.seq + 1, 0, 0, x⟩] } else r

def RSendQ (E : Nat → Prop) (w : World) (g : Nat) (k : Kc) (r : Rl) (xs : List Nat) (e : Ending) (w' : World) : Prop := e = .returned (.int .i64 (rsendE k r xs)) ∧ RLk (Ex E w w') w' g k (rsendL k r xs) ∧ Kp E w w'

theorem RLk.stay {E : Nat → Prop} {w w' : World} {g : Nat} {k : Kc} {r : Rl} (h : RLk E w g k r) (hb : Below w.heap.size w w') : RLk (Ex E w w') w' g k r ∧ Kp E w w' := by
  have h7 := h
  obtain ⟨oa, on, oc, ka, kn, kc, lo, lk, -, -, -, -, -, -, h7⟩ := h7
  exact ⟨(h.below hb).mono (fun _ hk => .inl hk) (fun j hj => hj.elim (fun h1 => Nat.lt_of_lt_of_le (h7 j h1) hb.size) fun h1 => h1.2), .of_below hb⟩

/-- The rows' set with all that comes. -/
def EE (E : Nat → Prop) (g B : Nat) (j : Nat) : Prop := (E j ∨ B ≤ j) ∧ j ≠ g

theorem rsend_end {E : Nat → Prop} {w w1 W w3 : World} {g : Nat} {k : Kc} {r : Rl} {oa a3 : Option Addr} {on oc c3 : Nat} {ka : Option Addr} {kn kc : Nat} {lo : List OpM} {lk : List KpM} {xs : List Nat} {y : OpM}
    (hbx : BoxL w g (lkCs k r oa on oc ka kn kc)) (hro : RowO (fun j => E j ∧ j ≠ g) 0 w oa on oc lo) (hrk : RowK (fun j => E j ∧ j ≠ g) 0 w ka kn kc lk)
    (hlo : lo.map OpM.q = r.op.map Ro.q) (hlk : lk.map KpM.q = r.kp.map kq) (hEg : E g) (hlt : ∀ j, E j → j < w.heap.size)
    (hw1 : ∃ q, w1 = (w.drewN q).setCell ⟨g, 5, none⟩ (.int .i64 ((r.seq : Int) + 1))) (hW : Below w1.heap.size w1 W) (hg : W.grownBy w3 (Value.slice oa on oc).ownBlock) (hr3 : RowO (EE E g w.heap.size) 0 w3 a3 (on + 1) c3 (lo ++ [y])) (hy : y.q = ((r.seq : Int) + 1, 0, 0, xs)) (hx : rsendE k r xs = 0) :
    RSendQ E w g k r xs (.returned (.int .i64 0)) (w3.setCell ⟨g, 7, none⟩ (.slice a3 (on + 1) c3)) := by
  obtain ⟨q, rfl⟩ := hw1
  have hsz : ((w.drewN q).setCell ⟨g, 5, none⟩ (.int .i64 ((r.seq : Int) + 1))).heap.size = w.heap.size := by simp [World.setCell]
  have hob : ∀ ad, oa = some ad → E ad.block ∧ ad.block ≠ g := fun ad e => hro.2.2.1 ad e
  have hgr : ∀ j, j < W.heap.size → (∀ ad, oa = some ad → ad.block ≠ j) → w3.heap[j]? = W.heap[j]? := fun j hj h => hg.block j hj (fun e => by
    cases oa with
    | none => simp [Value.ownBlock] at e
    | some ad => simp only [Value.ownBlock, Option.some.injEq] at e; exact h ad rfl e.symm)
  have hsW : w.heap.size ≤ W.heap.size := by have := hW.size; omega
  have hkeep : ∀ j, j < w.heap.size → j ≠ g → (∀ ad, oa = some ad → ad.block ≠ j) → (w3.setCell ⟨g, 7, none⟩ (.slice a3 (on + 1) c3)).heap[j]? = w.heap[j]? := fun j hj h1 h2 => by
    rw [Below.heap_setCell _ _ _ _ (by exact h1), hgr j (by omega) h2, hW.block j (by omega), Below.heap_setCell _ _ _ _ (by exact h1)]
    rfl
  have hs3 : w.heap.size ≤ w3.heap.size := Nat.le_trans hsW hg.size
  have hbg : BoxL w3 g (lkCs k { r with seq := r.seq + 1 } oa on oc ka kn kc) := by
    have b1 : BoxL ((w.drewN q).setCell ⟨g, 5, none⟩ (.int .i64 ((r.seq : Int) + 1))) g (lkCs k { r with seq := r.seq + 1 } oa on oc ka kn kc) := by
      have b0 : BoxL (w.drewN q) g (lkCs k r oa on oc ka kn kc) := hbx.keep (Nat.le_refl _) rfl
      have := b0.put 5 (.int .i64 ((r.seq : Int) + 1))
      simpa [lkCs] using this
    have b2 := b1.below hW
    exact b2.keep hg.size (hgr g b2.1 (fun ad e h => (hob ad e).2 h))
  refine ⟨by rw [hx], ?_, ⟨?_, ?_, ?_, ?_, ?_⟩⟩
  · have hb7 := hbg.put 7 (.slice a3 (on + 1) c3)
    unfold rsendL
    rw [if_pos hx]
    have hsz4 : (w3.setCell ⟨g, 7, none⟩ (.slice a3 (on + 1) c3)).heap.size = w3.heap.size := by simp [World.setCell]
    refine ⟨a3, on + 1, c3, ka, kn, kc, lo ++ [y], lk, by simpa [lkCs] using hb7, ?_, ?_, ?_, hlk, .inl hEg, ?_⟩
    · have h4 := hr3.other (grown_setCell w3 g 7 (.slice a3 (on + 1) c3)) (fun ad e => by have := (hr3.2.2.1 ad e).2; simpa using this) (fun z hz ad e => by have := ((hr3.2.2.2 z hz).2.2 ad e).2; simpa using this)
      refine ⟨h4.1, h4.2.1, fun ad e => ?_, fun z hz => ?_⟩
      · have h5 := hr3.2.2.1 ad e
        have h6 := (own_lt hr3.2.1 ad e).2
        exact ⟨h5.1.elim .inl (fun h => .inr ⟨h, by omega⟩), h5.2⟩
      · have h5 := h4.2.2.2 z hz
        refine ⟨h5.1, h5.2.1, fun ad e => ?_⟩
        have h7 := h5.2.2 ad e
        have h6 := h5.lt ad e
        exact ⟨h7.1.elim .inl (fun h => .inr ⟨h, by omega⟩), h7.2⟩
    · have h1 : RowK (fun j => E j ∧ j ≠ g) 0 (w3.setCell ⟨g, 7, none⟩ (.slice a3 (on + 1) c3)) ka kn kc lk := by
        refine ⟨hrk.1, own_keep hrk.2.1 fun ad e => ?_, hrk.2.2.1, fun z hz => (hrk.2.2.2 z hz).keep fun ad e => ?_⟩
        · exact hkeep _ (own_lt hrk.2.1 ad e).2 (hrk.2.2.1 ad e).2 (fun ad2 e2 => own_apart hro.2.1 hrk.2.1 (by decide) ad2 ad e2 e)
        · exact hkeep _ ((hrk.2.2.2 z hz).lt ad e) ((hrk.2.2.2 z hz).2.2 ad e).2 (fun ad2 e2 => own_apart hro.2.1 (hrk.2.2.2 z hz).2.1 (by decide) ad2 ad e2 e)
      exact h1.mono (fun j hj => ⟨.inl hj.1, hj.2⟩) (Nat.le_refl _)
    · simp [hlo, hy, Ro.q]
    · intro j hj
      rcases hj with hj | hj
      · have := hlt j hj; omega
      · omega
  · show w3.os = w.os
    rw [hg.os, hW.os]; rfl
  · show w3.tape = w.tape
    rw [hg.tape, hW.tape]; rfl
  · show w3.output = w.output
    rw [hg.output, hW.output]; rfl
  · simpa [World.setCell] using hs3
  · intro j hj hE
    exact hkeep j hj (fun e => hE (e ▸ hEg)) (fun ad e e2 => hE (e2 ▸ (hob ad e).1))

/-- What holds behind the first store, and later. -/
theorem rsend_mid {E : Nat → Prop} {w : World} {g : Nat} {k : Kc} {r : Rl} {oa : Option Addr} {on oc : Nat} {ka : Option Addr} {kn kc : Nat} {lo : List OpM} {a : Option Addr} {n : Nat} {xs : List Nat}
    (hbx : BoxL w g (lkCs k r oa on oc ka kn kc)) (hro : RowO (fun j => E j ∧ j ≠ g) 0 w oa on oc lo)
    (hl : xs.length = n) (hn : n ≤ 4096) (hB : Byt xs) (hr : Reads w a (bV xs)) (hne : ∀ ad, a = some ad → 0 < n → ad.block ≠ g) (q : Nat) (w1 : World) (e1 : (w.drewN q).setCell ⟨g, 5, none⟩ (.int .i64 ((r.seq : Int) + 1)) = w1) :
    w1.heap.size = w.heap.size ∧ (w1.cell? ⟨g, 5, none⟩ = some (.int .i64 ((r.seq : Int) + 1)) ∧ w1.cell? ⟨g, 7, none⟩ = some (.slice oa on oc) ∧ w1.frozen? ⟨g, 7, none⟩ = false) ∧ Reads w1 a (bV xs) ∧
    (∀ W, Below w1.heap.size w1 W → RowO (EE E g w.heap.size) 0 W oa on oc lo) ∧ (∀ W : World, w1.heap.size ≤ W.heap.size → ∀ j, W.heap.size ≤ j → EE E g w.heap.size j) ∧
    (∀ a1 c1 w2 W, w2.ownsRow w1.heap.size 5 1 (.slice a1 n c1) n (bV xs) → Below w1.heap.size w1 w2 → Below w2.heap.size w2 W → TxO (EE E g w.heap.size) W ⟨a1, n, c1, xs⟩) ∧
    (∀ W w3, Below w1.heap.size w1 W → W.grownBy w3 (Value.slice oa on oc).ownBlock → w3.cell? ⟨g, 5, none⟩ = some (.int .i64 ((r.seq : Int) + 1)) ∧ w3.cell? ⟨g, 7, none⟩ = some (.slice oa on oc) ∧ w3.frozen? ⟨g, 7, none⟩ = false) := by
  subst e1
  have hsz : ((w.drewN q).setCell ⟨g, 5, none⟩ (.int .i64 ((r.seq : Int) + 1))).heap.size = w.heap.size := by simp [World.setCell]
  have hb0 : ∀ j, j ≠ g → ((w.drewN q).setCell ⟨g, 5, none⟩ (.int .i64 ((r.seq : Int) + 1))).heap[j]? = w.heap[j]? := fun j hj => by
    rw [Below.heap_setCell _ _ _ _ (by exact hj)]; rfl
  have b1 : BoxL ((w.drewN q).setCell ⟨g, 5, none⟩ (.int .i64 ((r.seq : Int) + 1))) g (lkCs k { r with seq := r.seq + 1 } oa on oc ka kn kc) := by
    have b0 : BoxL (w.drewN q) g (lkCs k r oa on oc ka kn kc) := hbx.keep (Nat.le_refl _) rfl
    have := b0.put 5 (.int .i64 ((r.seq : Int) + 1))
    simpa [lkCs] using this
  have hob : ∀ ad, oa = some ad → E ad.block ∧ ad.block ≠ g := fun ad e => hro.2.2.1 ad e
  have hcs : ∀ {W : World}, BoxL W g (lkCs k { r with seq := r.seq + 1 } oa on oc ka kn kc) → W.cell? ⟨g, 5, none⟩ = some (.int .i64 ((r.seq : Int) + 1)) ∧ W.cell? ⟨g, 7, none⟩ = some (.slice oa on oc) ∧ W.frozen? ⟨g, 7, none⟩ = false := fun {W} h =>
    ⟨by simpa [lkCs] using (h.2 5 (by simp [lkCs])).1, by simpa [lkCs] using (h.2 7 (by simp [lkCs])).1, (h.2 7 (by simp [lkCs])).2⟩
  refine ⟨hsz, hcs b1, ?_, ?_, ?_, ?_, ?_⟩
  · rcases Nat.eq_zero_or_pos n with h0 | h0
    · have : xs = [] := List.eq_nil_of_length_eq_zero (by omega)
      subst this; exact .inl rfl
    · exact hr.keepN (fun ad e => hne ad e h0) (fun j hj _ => hb0 j hj)
  · intro W hW
    have h1 : RowO (fun j => E j ∧ j ≠ g) 0 W oa on oc lo := hro.keep fun j hj hlt' => by
      rw [hW.block j (by omega), hb0 j hj.2]
    exact h1.mono (fun j hj => ⟨.inl hj.1, hj.2⟩) (Nat.le_refl _)
  · intro W hs j hj
    exact ⟨.inr (by omega), by have := hbx.1; omega⟩
  · intro a1 c1 w2 W ho hb hb2
    have hb3 : ∀ ad, a1 = some ad → w.heap.size ≤ ad.block ∧ ad.block < w2.heap.size := fun ad e => by
      have := own_lt ho ad e
      omega
    exact ⟨⟨hl, hB, hn⟩, own_keep (own_base ho (Nat.zero_le _)) fun ad e => hb2.block _ (hb3 ad e).2, fun ad e => ⟨.inr (hb3 ad e).1, by have := hb3 ad e; have := hbx.1; show ad.block ≠ g; omega⟩⟩
  · intro W w3 hW hg
    have hbg := (b1.below hW).keep hg.size (hg.block g (b1.below hW).1 (fun e => by
      cases oa with
      | none => simp [Value.ownBlock] at e
      | some ad => simp only [Value.ownBlock, Option.some.injEq] at e; exact (hob ad rfl).2 e.symm))
    exact hcs hbg

set_option linter.unusedSimpArgs false in
set_option maxRecDepth 100000 in
set_option maxHeartbeats 4000000 in
theorem rsend_any (E : Nat → Prop) (g : Nat) (k : Kc) (r : Rl) (a : Option Addr) (n cc : Nat) (xs : List Nat) (w : World) (h : RLk E w g k r) (hu : r.seq ≤ 1000000) (hl : xs.length = n) (hB : Byt xs) (hr : Reads w a (bV xs)) (hnil : a = none → n = 0 ∧ cc = 0) (hne : ∀ ad, a = some ad → 0 < n → ad.block ≠ g) (hn9 : n ≤ 1000000) :
    Calls Try.prog 14 #[.pointer (some ⟨g, 0, none⟩), .slice a n cc] w (RSendQ E w g k r xs) := by
  have HST := hide (h.stay (Below.refl _ _))
  have HP := hide h
  obtain ⟨oa, on, oc, ka, kn, kc, lo, lk, hbx, hro, hrk, hlo, hlk, hEg, hlt⟩ := h
  have HLO := hide (show on = r.op.length by rw [← hro.1]; have := congrArg List.length hlo; simpa using this)
  have c4 := (hbx.2 4 (by simp [lkCs])).1
  have c5 := (hbx.2 5 (by simp [lkCs])).1
  have c7 := (hbx.2 7 (by simp [lkCs])).1
  have f5 := (hbx.2 5 (by simp [lkCs])).2
  have f7 := (hbx.2 7 (by simp [lkCs])).2
  simp only [lkCs, List.getElem_cons_succ, List.getElem_cons_zero] at c4 c5 c7
  have HE := hide (show rsendE k r xs = if 4096 < (n : Int) then 3 else if k.last ≤ (r.seq : Int) then 32 else if 8 ≤ (on : Int) then 31 else 0 by
    unfold rsendE
    rw [hl, ← HLO.out]
    have e1 : (4096 < n) ↔ (4096 < (n : Int)) := by omega
    have e2 : (8 ≤ on) ↔ (8 ≤ (on : Int)) := by omega
    simp only [e1, e2])
  have HNO := hide (show rsendE k r xs ≠ 0 → rsendL k r xs = r from fun e => by unfold rsendL; rw [if_neg e])
  have HYES := hide (show rsendE k r xs = 0 → rsendL k r xs = { r with seq := r.seq + 1, op := r.op ++ [⟨r.seq + 1, 0, 0, xs⟩] } from fun e => by unfold rsendL; rw [if_pos e])
  by_cases h1 : 4096 < (n : Int)
  · rw [if_pos h1] at HE
    have HN := hide (HNO.out (by rw [HE.out]; decide))
    clear hbx hro hrk hlo hlk hEg hlt c4 c5 c7 f5 f7 HNO HYES hr hnil hne hB hl
    go_enter Try.func14, Try.ntmps14
    go_wp2
    go_ret
    exact ⟨by rw [HE.out]; rfl, by rw [HN.out]; exact HST.out.1, HST.out.2⟩
  rw [if_neg h1] at HE
  by_cases h2 : k.last ≤ (r.seq : Int)
  · rw [if_pos h2] at HE
    have HN := hide (HNO.out (by rw [HE.out]; decide))
    have h2' : decide (k.last ≤ (r.seq : Int)) = true := by simpa using h2
    generalize k.last = kl at *
    generalize (r.seq : Int) = sq at *
    have HPB := hide (fun q => HP.out.stay (below_drewN (Below.refl w.heap.size w) q))
    clear hbx hro hrk hlo hlk hEg hlt c7 f5 f7 HNO HYES hr hnil hne hB hl HST
    go_enter Try.func14, Try.ntmps14
    go_upto_region 3 with fail
    go_big_quiet (fail)
    go_wp2
    go_ret
    exact ⟨by rw [HE.out]; rfl, by rw [HN.out]; exact (HPB.out _).1, (HPB.out _).2⟩
  rw [if_neg h2] at HE
  have h2' : decide (k.last ≤ (r.seq : Int)) = false := by simpa using h2
  by_cases h3 : 8 ≤ (on : Int)
  · rw [if_pos h3] at HE
    have HN := hide (HNO.out (by rw [HE.out]; decide))
    generalize k.last = kl at *
    generalize (r.seq : Int) = sq at *
    have HPB := hide (fun q => HP.out.stay (below_drewN (Below.refl w.heap.size w) q))
    clear hbx hro hrk hlo hlk hEg hlt f5 f7 HNO HYES hr hnil hne hB hl HST
    go_enter Try.func14, Try.ntmps14
    go_upto_region 3 with fail
    go_big_quiet (fail)
    go_wp2
    go_ret
    exact ⟨by rw [HE.out]; rfl, by rw [HN.out]; exact (HPB.out _).1, (HPB.out _).2⟩
  rw [if_neg h3] at HE
  have h3' : decide (8 ≤ (on : Int)) = false := by simpa using h3
  have HON := hide (show on < 8 by omega)
  have HSEQ := hide (fun q W w3 a3 c3 a1 c1 hW hg hr3 => rsend_end (xs := xs) (w1 := (w.drewN q).setCell ⟨g, 5, none⟩ (.int .i64 ((r.seq : Int) + 1))) (W := W) (w3 := w3) (a3 := a3) (c3 := c3) (y := ⟨(r.seq : Int) + 1, 0, 0, ⟨a1, n, c1, xs⟩⟩) hbx hro hrk hlo hlk hEg hlt ⟨q, rfl⟩ hW hg hr3 rfl HE.out)
  have HMID := hide (fun q w1 e => rsend_mid (xs := xs) (a := a) (n := n) hbx hro hl (by omega) hB hr hne q w1 e)
  have HNIL := hide hnil
  have HL := hide hl
  have hwr : IntKind.i64.wrap ((r.seq : Int) + 1) = (r.seq : Int) + 1 := by rw [IntKind.wrap_i64]; omega
  generalize hsq : (r.seq : Int) = sq at *
  generalize hkl : k.last = kl at *
  clear hbx hro hrk hlo hlk hEg hlt HNO HYES hr hnil hne hB hl HST hsq hkl hu HP HE
  go_enter Try.func14, Try.ntmps14
  go_upto_region 3 with fail
  go_big_quiet (fail)
  go_upto_region 8 with fail
  have HEND := hide (HSEQ.out nq)
  have HM := hide (HMID.out nq)
  clear HSEQ HMID c5 c7 f5 f7
  generalize e1 : (w.drewN nq).setCell ⟨g, 5, none⟩ (.int .i64 (sq + 1)) = w1 at *
  have HM := hide (HM.out w1 rfl)
  clear e1
  have HS1 := hide HM.out.1
  have c5 := HM.out.2.1.1
  have c7 := HM.out.2.1.2.1
  have f7 := HM.out.2.1.2.2
  have HR1 := hide HM.out.2.2.1
  have HROW := hide HM.out.2.2.2.1
  have HEE := hide HM.out.2.2.2.2.1
  have HTX := hide HM.out.2.2.2.2.2.1
  have HKG := hide HM.out.2.2.2.2.2.2
  clear HM
  refine wp_region_noPanic ?_
  refine wp_region_held_drew (S := fun W => W.cell? ⟨g, 5, none⟩ = some (.int .i64 ((sq : Int) + 1))) (by kernel_rfl) (by first | assumption | (rw [World.cell?_setCell_other (h := by simp)]; assumption)) (fun hHeld => ?_)
  refine takeD (i := 0) (d := some 33) (v := ?_) rfl rfl (by kernel_rfl) (by kernel_rfl) (by kernel_rfl) (fun _ _ _ h => h) (Or.inl ⟨by rfl, ?_⟩) (by assumption) ?_
  rotate_left
  · intro w hSw
    go_simp
    try (with_reducible rfl)
  try simp only [Act.put, List.setIfInBounds_toArray, List.set_cons_zero, List.set_cons_succ]
  refine takeD (i := 1) (d := some 34) (v := ?_) rfl rfl (by kernel_rfl) (by kernel_rfl) (by kernel_rfl) (fun _ _ _ h => h) (Or.inl ⟨by rfl, ?_⟩) (by assumption) ?_
  rotate_left
  · intro w hSw
    go_simp
    try (with_reducible rfl)
  try simp only [Act.put, List.setIfInBounds_toArray, List.set_cons_zero, List.set_cons_succ]
  refine takeD (i := 2) (d := some 35) (v := ?_) rfl rfl (by kernel_rfl) (by kernel_rfl) (by kernel_rfl) (fun _ _ _ h => h) (Or.inl ⟨by rfl, ?_⟩) (by assumption) ?_
  rotate_left
  · intro w hSw
    go_simp
    try (with_reducible rfl)
  try simp only [Act.put, List.setIfInBounds_toArray, List.set_cons_zero, List.set_cons_succ]
  refine takeD (i := 3) (d := some 36) (v := ?_) rfl rfl (by kernel_rfl) (by kernel_rfl) (by kernel_rfl) (fun _ _ _ h => h) (Or.inl ⟨by rfl, ?_⟩) (by assumption) ?_
  rotate_left
  · intro w hSw
    go_simp
    try (with_reducible rfl)
  try simp only [Act.put, List.setIfInBounds_toArray, List.set_cons_zero, List.set_cons_succ]
  refine takeD (i := 5) (d := some 38) (v := ?_) rfl rfl (by kernel_rfl) (by kernel_rfl) (by kernel_rfl) (fun _ _ _ h => h) (Or.inl ⟨by rfl, ?_⟩) (by assumption) ?_
  rotate_left
  · intro w hSw
    go_simp
    try (with_reducible rfl)
  try simp only [Act.put, List.setIfInBounds_toArray, List.set_cons_zero, List.set_cons_succ]
  refine takeD (i := 6) (d := some 39) (v := ?_) rfl rfl (by kernel_rfl) (by kernel_rfl) (by kernel_rfl) (fun _ _ _ h => h) (Or.inl ⟨by rfl, ?_⟩) (by assumption) ?_
  rotate_left
  · intro w hSw
    go_simp
    try (with_reducible rfl)
  try simp only [Act.put, List.setIfInBounds_toArray, List.set_cons_zero, List.set_cons_succ]
  refine takeD (i := 7) (d := some 40) (v := ?_) rfl rfl (by kernel_rfl) (by kernel_rfl) (by kernel_rfl) (fun _ _ _ h => h) (Or.inl ⟨by rfl, ?_⟩) (by assumption) ?_
  rotate_left
  · intro w hSw
    go_simp
    try (with_reducible rfl)
  try simp only [Act.put, List.setIfInBounds_toArray, List.set_cons_zero, List.set_cons_succ]
  refine takeD (i := 8) (d := some 41) (v := ?_) rfl rfl (by kernel_rfl) (by kernel_rfl) (by kernel_rfl) (fun _ _ _ h => h) (Or.inl ⟨by rfl, ?_⟩) (by assumption) ?_
  rotate_left
  · intro w hSw
    go_simp
    try (with_reducible rfl)
  try simp only [Act.put, List.setIfInBounds_toArray, List.set_cons_zero, List.set_cons_succ]
  refine takeD (i := 9) (d := some 42) (v := ?_) rfl rfl (by kernel_rfl) (by kernel_rfl) (by kernel_rfl) (fun _ _ _ h => h) (Or.inl ⟨by rfl, ?_⟩) (by assumption) ?_
  rotate_left
  · intro w hSw
    go_simp
    try (with_reducible rfl)
  try simp only [Act.put, List.setIfInBounds_toArray, List.set_cons_zero, List.set_cons_succ]
  refine wpAnyH_ready (rs := [4, 10]) (by kernel_rfl) (by simp) ?_
  refine AllReadyH.cons rfl (fun K hK => ?_) (AllReadyH.cons rfl (fun K hK => ?_) AllReadyH.nil)
  · skip
    go_simp
    go_wp2_with fail
    refine hK.out _ _ (by first | assumption | (rw [World.cell?_setCell_other (h := by simp)]; assumption)) (fun hHeld => ?_)
    clear hK K
    try simp only [Act.put, List.setIfInBounds_toArray, List.set_cons_zero, List.set_cons_succ]
    refine wpAnyH_ready (rs := [10]) (by kernel_rfl) (by simp) ?_
    refine AllReadyH.cons rfl (fun K hK => ?_) AllReadyH.nil
    refine app_b (.const (.slice none 0 0)) (.tmp 42) rfl rfl a n cc xs rfl HNIL.out HL.out (HR1.out.drew) (by omega) ?_
    intro a1 c1 w2 ho1 hb1
    have HO1 := hide ho1
    have HB1 := hide (below_undrew1 hb1)
    have b7 := keep_cell c7 HB1.out
    have b5 := keep_cell c5 HB1.out
    clear ho1 hb1
    refine hK.out _ _ (by first | assumption | (rw [World.cell?_setCell_other (h := by simp)]; assumption)) (fun hHeld => ?_)
    clear hK K
    try simp only [Act.put, List.setIfInBounds_toArray, List.set_cons_zero, List.set_cons_succ]
    refine takeD (i := 11) (d := some 44) (v := ?_) rfl rfl (by kernel_rfl) (by kernel_rfl) (by kernel_rfl) (fun _ _ _ h => h) (Or.inl ⟨by rfl, ?_⟩) (by assumption) ?_
    rotate_left
    · intro w hSw
      go_simp
      try (with_reducible rfl)
    try simp only [Act.put, List.setIfInBounds_toArray, List.set_cons_zero, List.set_cons_succ]
    refine wpAnyH_ready (rs := [12]) (by kernel_rfl) (by simp) ?_
    refine AllReadyH.cons rfl (fun K hK => ?_) AllReadyH.nil
    go_simp
    go_wp2_with fail
    have HW := hide (below_new w2 (.cells #[.int .i64 ((sq : Int) + 1), .int .i64 0, .int .i64 0, .slice a1 n c1] 81))
    have d7 := keep_cell b7 HW.out
    have d5 := keep_cell b5 HW.out
    refine hK.out _ _ (by first | assumption | (rw [World.cell?_setCell_other (h := by simp)]; assumption)) (fun hHeld => ?_)
    clear hK K
    try simp only [Act.put, List.setIfInBounds_toArray, List.set_cons_zero, List.set_cons_succ]
    refine wpAnyH_ready (rs := [13]) (by kernel_rfl) (by simp) ?_
    refine AllReadyH.cons rfl (fun K hK => ?_) AllReadyH.nil
    refine app_or (.tmp 37) (.tmp 45) rfl (EE E g w.heap.size) 0 oa on oc lo rfl (HROW.out _ (HB1.out.trans (HW.out.mono HB1.out.size))) (by have := HON.out; omega) (Nat.zero_le _) (HEE.out _ (Nat.le_trans HB1.out.size HW.out.size)) w2.heap.size ⟨(sq : Int) + 1, 0, 0, ⟨a1, n, c1, xs⟩⟩ rfl (reads_row w2 _ 81) (HTX.out a1 c1 w2 _ HO1.out HB1.out HW.out) ?_
    intro a3 c3 w3 hr3 hg3
    have HR3 := hide hr3
    have HG3 := hide hg3
    have HK3 := hide (HKG.out _ w3 (HB1.out.trans (HW.out.mono HB1.out.size)) hg3)
    have f5 := HK3.out.1
    have g7 := HK3.out.2.1
    have h7 := HK3.out.2.2
    clear hr3 hg3
    refine hK.out _ _ (by first | assumption | (rw [World.cell?_setCell_other (h := by simp)]; assumption)) (fun hHeld => ?_)
    clear hK K
    try simp only [Act.put, List.setIfInBounds_toArray, List.set_cons_zero, List.set_cons_succ]
    refine takeD (i := 14) (d := some 47) (v := ?_) rfl rfl (by kernel_rfl) (by kernel_rfl) (by kernel_rfl) (fun _ _ _ h => h) (Or.inl ⟨by rfl, ?_⟩) (by assumption) ?_
    rotate_left
    · intro w hSw
      go_simp
      try (with_reducible rfl)
    try simp only [Act.put, List.setIfInBounds_toArray, List.set_cons_zero, List.set_cons_succ]
    refine takeD (i := 15) (d := some 48) (v := ?_) rfl rfl (by kernel_rfl) (by kernel_rfl) (by kernel_rfl) (fun _ _ _ h => h) (Or.inl ⟨by rfl, ?_⟩) (by assumption) ?_
    rotate_left
    · intro w hSw
      go_simp
      try (with_reducible rfl)
    try simp only [Act.put, List.setIfInBounds_toArray, List.set_cons_zero, List.set_cons_succ]
    refine wpAnyH_ready (rs := [16]) (by kernel_rfl) (by simp) ?_
    refine AllReadyH.cons rfl (fun K hK => ?_) AllReadyH.nil
    go_simp
    go_wp2_with fail
    refine hK.out _ _ (by first | assumption | (rw [World.cell?_setCell_other (h := by simp)]; assumption)) (fun hHeld => ?_)
    clear hK K
    try simp only [Act.put, List.setIfInBounds_toArray, List.set_cons_zero, List.set_cons_succ]
    refine wpAnyH_done (by kernel_rfl) ?_ _
    refine NoPanic.normal ?_
    go_wp2
    go_ret
    exact HEND.out _ _ _ _ _ _ (HB1.out.trans (HW.out.mono HB1.out.size)) HG3.out HR3.out
  · skip
    refine app_b (.const (.slice none 0 0)) (.tmp 42) rfl rfl a n cc xs rfl HNIL.out HL.out (HR1.out.drew) (by omega) ?_
    intro a1 c1 w2 ho1 hb1
    have HO1 := hide ho1
    have HB1 := hide (below_undrew1 hb1)
    have b7 := keep_cell c7 HB1.out
    have b5 := keep_cell c5 HB1.out
    clear ho1 hb1
    refine hK.out _ _ (by first | assumption | (rw [World.cell?_setCell_other (h := by simp)]; assumption)) (fun hHeld => ?_)
    clear hK K
    try simp only [Act.put, List.setIfInBounds_toArray, List.set_cons_zero, List.set_cons_succ]
    refine takeD (i := 11) (d := some 44) (v := ?_) rfl rfl (by kernel_rfl) (by kernel_rfl) (by kernel_rfl) (fun _ _ _ h => h) (Or.inl ⟨by rfl, ?_⟩) (by assumption) ?_
    rotate_left
    · intro w hSw
      go_simp
      try (with_reducible rfl)
    try simp only [Act.put, List.setIfInBounds_toArray, List.set_cons_zero, List.set_cons_succ]
    refine wpAnyH_ready (rs := [4, 12]) (by kernel_rfl) (by simp) ?_
    refine AllReadyH.cons rfl (fun K hK => ?_) (AllReadyH.cons rfl (fun K hK => ?_) AllReadyH.nil)
    · skip
      go_simp
      go_wp2_with fail
      refine hK.out _ _ (by first | assumption | (rw [World.cell?_setCell_other (h := by simp)]; assumption)) (fun hHeld => ?_)
      clear hK K
      try simp only [Act.put, List.setIfInBounds_toArray, List.set_cons_zero, List.set_cons_succ]
      refine wpAnyH_ready (rs := [12]) (by kernel_rfl) (by simp) ?_
      refine AllReadyH.cons rfl (fun K hK => ?_) AllReadyH.nil
      go_simp
      go_wp2_with fail
      have HW := hide (below_new w2 (.cells #[.int .i64 ((sq : Int) + 1), .int .i64 0, .int .i64 0, .slice a1 n c1] 81))
      have d7 := keep_cell b7 HW.out
      have d5 := keep_cell b5 HW.out
      refine hK.out _ _ (by first | assumption | (rw [World.cell?_setCell_other (h := by simp)]; assumption)) (fun hHeld => ?_)
      clear hK K
      try simp only [Act.put, List.setIfInBounds_toArray, List.set_cons_zero, List.set_cons_succ]
      refine wpAnyH_ready (rs := [13]) (by kernel_rfl) (by simp) ?_
      refine AllReadyH.cons rfl (fun K hK => ?_) AllReadyH.nil
      refine app_or (.tmp 37) (.tmp 45) rfl (EE E g w.heap.size) 0 oa on oc lo rfl (HROW.out _ (HB1.out.trans (HW.out.mono HB1.out.size))) (by have := HON.out; omega) (Nat.zero_le _) (HEE.out _ (Nat.le_trans HB1.out.size HW.out.size)) w2.heap.size ⟨(sq : Int) + 1, 0, 0, ⟨a1, n, c1, xs⟩⟩ rfl (reads_row w2 _ 81) (HTX.out a1 c1 w2 _ HO1.out HB1.out HW.out) ?_
      intro a3 c3 w3 hr3 hg3
      have HR3 := hide hr3
      have HG3 := hide hg3
      have HK3 := hide (HKG.out _ w3 (HB1.out.trans (HW.out.mono HB1.out.size)) hg3)
      have f5 := HK3.out.1
      have g7 := HK3.out.2.1
      have h7 := HK3.out.2.2
      clear hr3 hg3
      refine hK.out _ _ (by first | assumption | (rw [World.cell?_setCell_other (h := by simp)]; assumption)) (fun hHeld => ?_)
      clear hK K
      try simp only [Act.put, List.setIfInBounds_toArray, List.set_cons_zero, List.set_cons_succ]
      refine takeD (i := 14) (d := some 47) (v := ?_) rfl rfl (by kernel_rfl) (by kernel_rfl) (by kernel_rfl) (fun _ _ _ h => h) (Or.inl ⟨by rfl, ?_⟩) (by assumption) ?_
      rotate_left
      · intro w hSw
        go_simp
        try (with_reducible rfl)
      try simp only [Act.put, List.setIfInBounds_toArray, List.set_cons_zero, List.set_cons_succ]
      refine takeD (i := 15) (d := some 48) (v := ?_) rfl rfl (by kernel_rfl) (by kernel_rfl) (by kernel_rfl) (fun _ _ _ h => h) (Or.inl ⟨by rfl, ?_⟩) (by assumption) ?_
      rotate_left
      · intro w hSw
        go_simp
        try (with_reducible rfl)
      try simp only [Act.put, List.setIfInBounds_toArray, List.set_cons_zero, List.set_cons_succ]
      refine wpAnyH_ready (rs := [16]) (by kernel_rfl) (by simp) ?_
      refine AllReadyH.cons rfl (fun K hK => ?_) AllReadyH.nil
      go_simp
      go_wp2_with fail
      refine hK.out _ _ (by first | assumption | (rw [World.cell?_setCell_other (h := by simp)]; assumption)) (fun hHeld => ?_)
      clear hK K
      try simp only [Act.put, List.setIfInBounds_toArray, List.set_cons_zero, List.set_cons_succ]
      refine wpAnyH_done (by kernel_rfl) ?_ _
      refine NoPanic.normal ?_
      go_wp2
      go_ret
      exact HEND.out _ _ _ _ _ _ (HB1.out.trans (HW.out.mono HB1.out.size)) HG3.out HR3.out
    · skip
      go_simp
      go_wp2_with fail
      have HW := hide (below_new w2 (.cells #[.int .i64 ((sq : Int) + 1), .int .i64 0, .int .i64 0, .slice a1 n c1] 81))
      have d7 := keep_cell b7 HW.out
      have d5 := keep_cell b5 HW.out
      refine hK.out _ _ (by first | assumption | (rw [World.cell?_setCell_other (h := by simp)]; assumption)) (fun hHeld => ?_)
      clear hK K
      try simp only [Act.put, List.setIfInBounds_toArray, List.set_cons_zero, List.set_cons_succ]
      refine wpAnyH_ready (rs := [4]) (by kernel_rfl) (by simp) ?_
      refine AllReadyH.cons rfl (fun K hK => ?_) AllReadyH.nil
      go_simp
      go_wp2_with fail
      refine hK.out _ _ (by first | assumption | (rw [World.cell?_setCell_other (h := by simp)]; assumption)) (fun hHeld => ?_)
      clear hK K
      try simp only [Act.put, List.setIfInBounds_toArray, List.set_cons_zero, List.set_cons_succ]
      refine wpAnyH_ready (rs := [13]) (by kernel_rfl) (by simp) ?_
      refine AllReadyH.cons rfl (fun K hK => ?_) AllReadyH.nil
      refine app_or (.tmp 37) (.tmp 45) rfl (EE E g w.heap.size) 0 oa on oc lo rfl (HROW.out _ (HB1.out.trans (HW.out.mono HB1.out.size))) (by have := HON.out; omega) (Nat.zero_le _) (HEE.out _ (Nat.le_trans HB1.out.size HW.out.size)) w2.heap.size ⟨(sq : Int) + 1, 0, 0, ⟨a1, n, c1, xs⟩⟩ rfl (reads_row w2 _ 81) (HTX.out a1 c1 w2 _ HO1.out HB1.out HW.out) ?_
      intro a3 c3 w3 hr3 hg3
      have HR3 := hide hr3
      have HG3 := hide hg3
      have HK3 := hide (HKG.out _ w3 (HB1.out.trans (HW.out.mono HB1.out.size)) hg3)
      have f5 := HK3.out.1
      have g7 := HK3.out.2.1
      have h7 := HK3.out.2.2
      clear hr3 hg3
      refine hK.out _ _ (by first | assumption | (rw [World.cell?_setCell_other (h := by simp)]; assumption)) (fun hHeld => ?_)
      clear hK K
      try simp only [Act.put, List.setIfInBounds_toArray, List.set_cons_zero, List.set_cons_succ]
      refine takeD (i := 14) (d := some 47) (v := ?_) rfl rfl (by kernel_rfl) (by kernel_rfl) (by kernel_rfl) (fun _ _ _ h => h) (Or.inl ⟨by rfl, ?_⟩) (by assumption) ?_
      rotate_left
      · intro w hSw
        go_simp
        try (with_reducible rfl)
      try simp only [Act.put, List.setIfInBounds_toArray, List.set_cons_zero, List.set_cons_succ]
      refine takeD (i := 15) (d := some 48) (v := ?_) rfl rfl (by kernel_rfl) (by kernel_rfl) (by kernel_rfl) (fun _ _ _ h => h) (Or.inl ⟨by rfl, ?_⟩) (by assumption) ?_
      rotate_left
      · intro w hSw
        go_simp
        try (with_reducible rfl)
      try simp only [Act.put, List.setIfInBounds_toArray, List.set_cons_zero, List.set_cons_succ]
      refine wpAnyH_ready (rs := [16]) (by kernel_rfl) (by simp) ?_
      refine AllReadyH.cons rfl (fun K hK => ?_) AllReadyH.nil
      go_simp
      go_wp2_with fail
      refine hK.out _ _ (by first | assumption | (rw [World.cell?_setCell_other (h := by simp)]; assumption)) (fun hHeld => ?_)
      clear hK K
      try simp only [Act.put, List.setIfInBounds_toArray, List.set_cons_zero, List.set_cons_succ]
      refine wpAnyH_done (by kernel_rfl) ?_ _
      refine NoPanic.normal ?_
      go_wp2
      go_ret
      exact HEND.out _ _ _ _ _ _ (HB1.out.trans (HW.out.mono HB1.out.size)) HG3.out HR3.out
end Go.Proofs.Ytofigofaiadffaa
