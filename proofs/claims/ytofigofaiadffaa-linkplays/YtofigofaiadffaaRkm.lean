/- The document's link in memory: its rows. -/
import Derived.Test.YtofigofaiadffaaRlp
import Derived.Deep.AppendLies
namespace Go.Proofs.Ytofigofaiadffaa
open Go.RowKit Go.ChangeShapes Go.WideShapes Go.ChangeAt Go.Deep

structure OpM where
  sq : Int
  tt : Int
  n : Int
  t : Txt
def OpM.cs (x : OpM) : List Value := [.int .i64 x.sq, .int .i64 x.tt, .int .i64 x.n, .slice x.t.a x.t.len x.t.cap]
def orV (l : List OpM) : List Value := l.flatMap OpM.cs
theorem orV_len (l : List OpM) : (orV l).length = l.length * 4 := by
  induction l with
  | nil => rfl
  | cons a r ih => show (OpM.cs a ++ orV r).length = _; simp [ih, OpM.cs]; omega
theorem orV_app (a b : List OpM) : orV (a ++ b) = orV a ++ orV b := by simp [orV]
theorem orV_one (l : List OpM) : ∀ u ∈ orV l, u.oneCell' = true := fun u hu => by
  simp only [orV, List.mem_flatMap] at hu
  obtain ⟨y, _, hy⟩ := hu
  simp [OpM.cs] at hy
  rcases hy with rfl | rfl | rfl | rfl <;> rfl
theorem orV_at (l : List OpM) (k j : Nat) (hk : k < l.length) (hj : j < 4) : (orV l)[k * 4 + j]? = l[k].cs[j]? := by
  induction l generalizing k with
  | nil => simp at hk
  | cons a r ih =>
    have e : orV (a :: r) = a.cs ++ orV r := by simp [orV]
    have hl : a.cs.length = 4 := rfl
    rw [e]
    cases k with
    | zero =>
      rw [List.getElem?_append_left (by omega)]
      simp
    | succ k =>
      rw [List.getElem?_append_right (by omega), hl, show (k + 1) * 4 + j - 4 = k * 4 + j by omega]
      simpa using ih k (by simpa using hk)
/-- The open loads. -/
def RowO (E : Nat → Prop) (B : Nat) (w : World) (a : Option Addr) (n c : Nat) (l : List OpM) : Prop :=
  l.length = n ∧ w.ownsRow B 81 4 (.slice a n c) n (orV l) ∧ (∀ ad, a = some ad → E ad.block) ∧ ∀ x ∈ l, TxO E w x.t
theorem RowO.nil (E : Nat → Prop) (B : Nat) (w : World) : RowO E B w none 0 0 [] := ⟨rfl, World.ownsRow_nil _ _ _ _, (fun ad e => by cases e), fun x hx => by cases hx⟩
theorem RowO.keep {E : Nat → Prop} {B : Nat} {w w' : World} {a : Option Addr} {n c : Nat} {l : List OpM} (h : RowO E B w a n c l) (hk : ∀ k, E k → k < w.heap.size → w'.heap[k]? = w.heap[k]?) : RowO E B w' a n c l :=
  ⟨h.1, own_keep h.2.1 fun ad e => hk _ (h.2.2.1 ad e) (own_lt h.2.1 ad e).2, h.2.2.1, fun x hx => (h.2.2.2 x hx).keep fun ad e => hk _ ((h.2.2.2 x hx).2.2 ad e) ((h.2.2.2 x hx).lt ad e)⟩
theorem RowO.below {E : Nat → Prop} {B : Nat} {w w' : World} {a : Option Addr} {n c : Nat} {l : List OpM} (h : RowO E B w a n c l) (hb : Below w.heap.size w w') : RowO E B w' a n c l := h.keep fun k _ hk => hb.block k hk
theorem RowO.mono {E E' : Nat → Prop} {B B' : Nat} {w : World} {a : Option Addr} {n c : Nat} {l : List OpM} (h : RowO E B w a n c l) (hE : ∀ k, E k → E' k) (hB : B' ≤ B) : RowO E' B' w a n c l :=
  ⟨h.1, own_base h.2.1 hB, fun ad e => hE _ (h.2.2.1 ad e), fun x hx => (h.2.2.2 x hx).mono hE⟩
/-- A block that no such row and no load lies in is written. -/
theorem RowO.other {E : Nat → Prop} {B : Nat} {w w' : World} {a : Option Addr} {n c : Nat} {l : List OpM} {row : Option Nat} (h : RowO E B w a n c l) (hg : w.grownBy w' row) (h1 : ∀ ad, a = some ad → some ad.block ≠ row) (h2 : ∀ x ∈ l, ∀ ad, x.t.a = some ad → some ad.block ≠ row) : RowO E B w' a n c l :=
  ⟨h.1, own_keep h.2.1 fun ad e => hg.block _ (own_lt h.2.1 ad e).2 (h1 ad e), h.2.2.1, fun x hx => (h.2.2.2 x hx).keep fun ad e => hg.block _ ((h.2.2.2 x hx).lt ad e) (h2 x hx ad e)⟩
theorem Try.info81 : (Try.prog.info? 81).map (fun i => (i.zero, i.size, i.bytes)) = some (some (.agg #[.int .i64 0, .int .i64 0, .int .i64 0, .slice none 0 0]), 4, 48) := by kernel_rfl
/-- One more, at the operation. -/
theorem app_or {w : World} {o : Oper} {act : Act} {K : Act → World → Prop} {Q : Exit → Act → World → Prop} (s x : Operand)
    (ho : o.op = .call { callee := .builtin .append, args := #[s, x], argTypes := #[28, 28] }) (E : Nat → Prop) (B : Nat) (a : Option Addr) (n c : Nat) (l : List OpM) (hs : act.eval s = .slice a n c) (hR : RowO E B w a n c l) (hn : n ≤ 1000000) (hB : B ≤ w.heap.size) (hE : ∀ k, w.heap.size ≤ k → E k)
    (bk : Nat) (y : OpM) (hx : act.eval x = .slice (some ⟨bk, 0, none⟩) 1 1) (hb : Reads w (some ⟨bk, 0, none⟩) y.cs) (hy : TxO E w y.t)
    (h : ∀ a' c' w', RowO E B w' a' (n + 1) c' (l ++ [y]) → w.grownBy w' (Value.slice a n c).ownBlock → K (act.put o.dst (.slice a' (n + 1) c')) w') : o.wp Try.prog act w K Q := by
  obtain ⟨i0, hi, hz0, hz1, hz2⟩ := info_parts Try.info81
  have hbk : ∀ j u, y.cs[j]? = some u → w.cell? ((⟨bk, 0, none⟩ : Addr).add j) = some u := by
    rcases hb with e | ⟨b, o, e, hr⟩
    · simp [OpM.cs] at e
    · simp only [Option.some.injEq, Addr.mk.injEq] at e
      obtain ⟨rfl, rfl, _⟩ := e
      intro j u hu
      rw [add_none]; exact hr j u hu
  refine wp_append_lies w s x 28 ho B 81 i0 (.agg #[.int .i64 0, .int .i64 0, .int .i64 0, .slice none 0 0]) 4 48 Try.underlying28 hi hz0 hz1 hz2 rfl (by omega) (.slice a n c) n (orV l) hs hR.2.1 ⟨bk, 0, none⟩ 1 1 y.cs hx rfl hbk (fun u hu => orV_one [y] u (by simpa [orV] using hu)) (by omega) (by unfold maxLen; omega) (by omega) hB w.heap.size rfl ?_
  intro g c' w' ho' hg' hat _
  have e : orV l ++ y.cs = orV (l ++ [y]) := by rw [orV_app]; simp [orV]
  rw [e] at ho'
  have hkp : ∀ z : Txt, TxO E w z → TxO E w' z := fun z hz => hz.keep fun ad e => hg'.block _ (hz.lt ad e) (fun e2 => by
    cases a with
    | none => simp [Value.ownBlock] at e2
    | some ad2 => simp only [Value.ownBlock, Option.some.injEq] at e2; exact own_apart hz.2.1 hR.2.1 (by decide) ad ad2 e rfl e2)
  refine h _ c' w' ⟨by simp [hR.1], ho', (fun ad e => ?_), fun z hz => ?_⟩ hg'
  · simp only [Option.some.injEq] at e
    subst e
    rcases hat with hat | hat
    · cases a with
      | none => simp [Value.ownBlock] at hat
      | some ad2 =>
        simp only [Value.ownBlock, Option.some.injEq] at hat
        show E g
        rw [← hat]
        exact hR.2.2.1 ad2 rfl
    · exact hE g (by omega)
  · rw [List.mem_append, List.mem_singleton] at hz
    rcases hz with hz | rfl
    · exact hkp _ (hR.2.2.2 z hz)
    · exact hkp _ hy

structure KpM where
  sq : Int
  t : Txt
def KpM.cs (x : KpM) : List Value := [.int .i64 x.sq, .slice x.t.a x.t.len x.t.cap]
def krV (l : List KpM) : List Value := l.flatMap KpM.cs
theorem krV_len (l : List KpM) : (krV l).length = l.length * 2 := by
  induction l with
  | nil => rfl
  | cons a r ih => show (KpM.cs a ++ krV r).length = _; simp [ih, KpM.cs]; omega
theorem krV_app (a b : List KpM) : krV (a ++ b) = krV a ++ krV b := by simp [krV]
theorem krV_one (l : List KpM) : ∀ u ∈ krV l, u.oneCell' = true := fun u hu => by
  simp only [krV, List.mem_flatMap] at hu
  obtain ⟨y, _, hy⟩ := hu
  simp [KpM.cs] at hy
  rcases hy with rfl | rfl <;> rfl
theorem krV_at (l : List KpM) (k j : Nat) (hk : k < l.length) (hj : j < 2) : (krV l)[k * 2 + j]? = l[k].cs[j]? := by
  induction l generalizing k with
  | nil => simp at hk
  | cons a r ih =>
    have e : krV (a :: r) = a.cs ++ krV r := by simp [krV]
    have hl : a.cs.length = 2 := rfl
    rw [e]
    cases k with
    | zero =>
      rw [List.getElem?_append_left (by omega)]
      simp
    | succ k =>
      rw [List.getElem?_append_right (by omega), hl, show (k + 1) * 2 + j - 2 = k * 2 + j by omega]
      simpa using ih k (by simpa using hk)
/-- What is kept. -/
def RowK (E : Nat → Prop) (B : Nat) (w : World) (a : Option Addr) (n c : Nat) (l : List KpM) : Prop :=
  l.length = n ∧ w.ownsRow B 92 2 (.slice a n c) n (krV l) ∧ (∀ ad, a = some ad → E ad.block) ∧ ∀ x ∈ l, TxO E w x.t
theorem RowK.nil (E : Nat → Prop) (B : Nat) (w : World) : RowK E B w none 0 0 [] := ⟨rfl, World.ownsRow_nil _ _ _ _, (fun ad e => by cases e), fun x hx => by cases hx⟩
theorem RowK.keep {E : Nat → Prop} {B : Nat} {w w' : World} {a : Option Addr} {n c : Nat} {l : List KpM} (h : RowK E B w a n c l) (hk : ∀ k, E k → k < w.heap.size → w'.heap[k]? = w.heap[k]?) : RowK E B w' a n c l :=
  ⟨h.1, own_keep h.2.1 fun ad e => hk _ (h.2.2.1 ad e) (own_lt h.2.1 ad e).2, h.2.2.1, fun x hx => (h.2.2.2 x hx).keep fun ad e => hk _ ((h.2.2.2 x hx).2.2 ad e) ((h.2.2.2 x hx).lt ad e)⟩
theorem RowK.below {E : Nat → Prop} {B : Nat} {w w' : World} {a : Option Addr} {n c : Nat} {l : List KpM} (h : RowK E B w a n c l) (hb : Below w.heap.size w w') : RowK E B w' a n c l := h.keep fun k _ hk => hb.block k hk
theorem RowK.mono {E E' : Nat → Prop} {B B' : Nat} {w : World} {a : Option Addr} {n c : Nat} {l : List KpM} (h : RowK E B w a n c l) (hE : ∀ k, E k → E' k) (hB : B' ≤ B) : RowK E' B' w a n c l :=
  ⟨h.1, own_base h.2.1 hB, fun ad e => hE _ (h.2.2.1 ad e), fun x hx => (h.2.2.2 x hx).mono hE⟩
/-- A block that no such row and no load lies in is written. -/
theorem RowK.other {E : Nat → Prop} {B : Nat} {w w' : World} {a : Option Addr} {n c : Nat} {l : List KpM} {row : Option Nat} (h : RowK E B w a n c l) (hg : w.grownBy w' row) (h1 : ∀ ad, a = some ad → some ad.block ≠ row) (h2 : ∀ x ∈ l, ∀ ad, x.t.a = some ad → some ad.block ≠ row) : RowK E B w' a n c l :=
  ⟨h.1, own_keep h.2.1 fun ad e => hg.block _ (own_lt h.2.1 ad e).2 (h1 ad e), h.2.2.1, fun x hx => (h.2.2.2 x hx).keep fun ad e => hg.block _ ((h.2.2.2 x hx).lt ad e) (h2 x hx ad e)⟩
theorem Try.info92 : (Try.prog.info? 92).map (fun i => (i.zero, i.size, i.bytes)) = some (some (.agg #[.int .i64 0, .slice none 0 0]), 2, 32) := by kernel_rfl
/-- One more, at the operation. -/
theorem app_kr {w : World} {o : Oper} {act : Act} {K : Act → World → Prop} {Q : Exit → Act → World → Prop} (s x : Operand)
    (ho : o.op = .call { callee := .builtin .append, args := #[s, x], argTypes := #[29, 29] }) (E : Nat → Prop) (B : Nat) (a : Option Addr) (n c : Nat) (l : List KpM) (hs : act.eval s = .slice a n c) (hR : RowK E B w a n c l) (hn : n ≤ 1000000) (hB : B ≤ w.heap.size) (hE : ∀ k, w.heap.size ≤ k → E k)
    (bk : Nat) (y : KpM) (hx : act.eval x = .slice (some ⟨bk, 0, none⟩) 1 1) (hb : Reads w (some ⟨bk, 0, none⟩) y.cs) (hy : TxO E w y.t)
    (h : ∀ a' c' w', RowK E B w' a' (n + 1) c' (l ++ [y]) → w.grownBy w' (Value.slice a n c).ownBlock → K (act.put o.dst (.slice a' (n + 1) c')) w') : o.wp Try.prog act w K Q := by
  obtain ⟨i0, hi, hz0, hz1, hz2⟩ := info_parts Try.info92
  have hbk : ∀ j u, y.cs[j]? = some u → w.cell? ((⟨bk, 0, none⟩ : Addr).add j) = some u := by
    rcases hb with e | ⟨b, o, e, hr⟩
    · simp [KpM.cs] at e
    · simp only [Option.some.injEq, Addr.mk.injEq] at e
      obtain ⟨rfl, rfl, _⟩ := e
      intro j u hu
      rw [add_none]; exact hr j u hu
  refine wp_append_lies w s x 29 ho B 92 i0 (.agg #[.int .i64 0, .slice none 0 0]) 2 32 Try.underlying29 hi hz0 hz1 hz2 rfl (by omega) (.slice a n c) n (krV l) hs hR.2.1 ⟨bk, 0, none⟩ 1 1 y.cs hx rfl hbk (fun u hu => krV_one [y] u (by simpa [krV] using hu)) (by omega) (by unfold maxLen; omega) (by omega) hB w.heap.size rfl ?_
  intro g c' w' ho' hg' hat _
  have e : krV l ++ y.cs = krV (l ++ [y]) := by rw [krV_app]; simp [krV]
  rw [e] at ho'
  have hkp : ∀ z : Txt, TxO E w z → TxO E w' z := fun z hz => hz.keep fun ad e => hg'.block _ (hz.lt ad e) (fun e2 => by
    cases a with
    | none => simp [Value.ownBlock] at e2
    | some ad2 => simp only [Value.ownBlock, Option.some.injEq] at e2; exact own_apart hz.2.1 hR.2.1 (by decide) ad ad2 e rfl e2)
  refine h _ c' w' ⟨by simp [hR.1], ho', (fun ad e => ?_), fun z hz => ?_⟩ hg'
  · simp only [Option.some.injEq] at e
    subst e
    rcases hat with hat | hat
    · cases a with
      | none => simp [Value.ownBlock] at hat
      | some ad2 =>
        simp only [Value.ownBlock, Option.some.injEq] at hat
        show E g
        rw [← hat]
        exact hR.2.2.1 ad2 rfl
    · exact hE g (by omega)
  · rw [List.mem_append, List.mem_singleton] at hz
    rcases hz with hz | rfl
    · exact hkp _ (hR.2.2.2 z hz)
    · exact hkp _ hy
end Go.Proofs.Ytofigofaiadffaa
