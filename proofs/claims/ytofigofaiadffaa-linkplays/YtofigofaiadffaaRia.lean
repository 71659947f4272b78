/- The document's link: In, what it needs of memory. -/
import Derived.Test.YtofigofaiadffaaRot
namespace Go.Proofs.Ytofigofaiadffaa
open Go.RowKit Go.ChangeShapes Go.WideShapes Go.ChangeAt Go.Deep

/-- A copy of a part of what is kept. -/
theorem app_kc {w : World} {o : Oper} {a : Act} {K : Act → World → Prop} {Q : Exit → Act → World → Prop} (s x : Operand)
    (ho : o.op = .call { callee := .builtin .append, args := #[s, x], argTypes := #[29, 29] }) (hs : a.eval s = .slice none 0 0)
    (ad : Option Addr) (m c : Nat) (zs : List KpM) (hx : a.eval x = .slice ad m c) (hnil : ad = none → m = 0 ∧ c = 0) (hl : zs.length = m) (hr : Reads w ad (krV zs)) (hb : m ≤ 1000000)
    (h : ∀ a' c' w', w'.ownsRow w.heap.size 92 2 (.slice a' m c') m (krV zs) → Below w.heap.size w w' → K (a.put o.dst (.slice a' m c')) w') : o.wp Try.prog a w K Q := by
  obtain ⟨i0, hi, hz0, hz1, hz2⟩ := info_parts Try.info92
  cases ad with
  | none =>
    obtain ⟨rfl, rfl⟩ := hnil rfl
    have hy : zs = [] := by cases zs with | nil => rfl | cons _ _ => simp at hl
    subst hy
    have hrun := run_append_owned_none (P := Try.prog) (w := w) w.heap.size 29 o.type 92 i0 2 Try.underlying29 hi (.slice none 0 0) 0 [] (World.ownsRow_nil _ _ _ _)
    unfold Oper.wp
    simp [execOp, ho, resolve, invoke, builtin, hs, hx, hrun, Result.andThen]
    exact h none 0 w (World.ownsRow_nil _ _ _ _) (Below.refl _ _)
  | some ad =>
    refine wp_append_own w s x 29 ho w.heap.size 92 i0 (.agg #[.int .i64 0, .slice none 0 0]) 2 32 Try.underlying29 hi hz0 hz1 hz2 rfl (by decide) (.slice none 0 0) 0 [] hs (World.ownsRow_nil _ _ _ _) ad m c (krV zs) hx (by rw [krV_len]; omega) ?_ (krV_one zs) (by unfold maxLen; omega) (by omega) (Nat.le_refl _) ?_
    · rcases hr with hr | ⟨b, off, e, hr⟩
      · rw [hr]; simp
      · simp at e
        subst e
        intro j u hu
        rw [add_none]; exact hr j u hu
    · intro v' w' h1 h2 _
      obtain ⟨a', c', rfl⟩ := own_opens h1
      have hb' : Below w.heap.size w w' := ⟨h2.os, h2.tape, h2.output, h2.size, fun k hk => h2.block k hk (by simp [Value.ownBlock])⟩
      rw [Nat.zero_add] at h1 ⊢
      exact h a' c' w' (by simpa using h1) hb'

/-- More of it behind a row of one's own. -/
theorem app_kd {w : World} {o : Oper} {act : Act} {K : Act → World → Prop} {Q : Exit → Act → World → Prop} (s x : Operand)
    (ho : o.op = .call { callee := .builtin .append, args := #[s, x], argTypes := #[29, 29] }) (B : Nat) (a : Option Addr) (n cc : Nat) (ys : List KpM) (hs : act.eval s = .slice a n cc) (hown : w.ownsRow B 92 2 (.slice a n cc) n (krV ys)) (hB : B ≤ w.heap.size) (hn : n ≤ 1000000)
    (ad : Option Addr) (m c : Nat) (zs : List KpM) (hx : act.eval x = .slice ad m c) (hnil : ad = none → m = 0 ∧ c = 0) (hl : zs.length = m) (hr : Reads w ad (krV zs)) (hb : m ≤ 1000000)
    (h : ∀ a' c' w', w'.ownsRow B 92 2 (.slice a' (n + m) c') (n + m) (krV (ys ++ zs)) → w.grownBy w' (Value.slice a n cc).ownBlock → K (act.put o.dst (.slice a' (n + m) c')) w') : o.wp Try.prog act w K Q := by
  obtain ⟨i0, hi, hz0, hz1, hz2⟩ := info_parts Try.info92
  cases ad with
  | none =>
    obtain ⟨rfl, rfl⟩ := hnil rfl
    have hy : zs = [] := by cases zs with | nil => rfl | cons _ _ => simp at hl
    subst hy
    have hrun := run_append_owned_none (P := Try.prog) (w := w) B 29 o.type 92 i0 2 Try.underlying29 hi (.slice a n cc) n (krV ys) hown
    unfold Oper.wp
    simp [execOp, ho, resolve, invoke, builtin, hs, hx, hrun, Result.andThen]
    exact h a cc w (by simpa using hown) (World.grownBy.refl _ _)
  | some ad =>
    refine wp_append_own w s x 29 ho B 92 i0 (.agg #[.int .i64 0, .slice none 0 0]) 2 32 Try.underlying29 hi hz0 hz1 hz2 rfl (by decide) (.slice a n cc) n (krV ys) hs hown ad m c (krV zs) hx (by rw [krV_len]; omega) ?_ (krV_one zs) (by unfold maxLen; omega) (by omega) hB ?_
    · rcases hr with hr | ⟨b, off, e, hr⟩
      · rw [hr]; simp
      · simp at e
        subst e
        intro j u hu
        rw [add_none]; exact hr j u hu
    · intro v' w' h1 h2 _
      obtain ⟨a', c', rfl⟩ := own_opens h1
      rw [← krV_app] at h1
      exact h a' c' w' h1 h2

theorem RowK.isAt {E : Nat → Prop} {B : Nat} {w : World} {a : Option Addr} {n c : Nat} {l : List KpM} (h : RowK E B w a n c l) (h0 : 0 < n) : ∃ b, a = some ⟨b, 0, none⟩ ∧ b < w.heap.size ∧ E b := by
  rcases h.2.1.2 with ⟨e, h1⟩ | ⟨g, cap, cur, e, h1, h2, _⟩
  · omega
  · simp only [Value.slice.injEq] at e
    exact ⟨g, e.1, (Array.getElem?_eq_some_iff.1 h2).1, h.2.2.1 _ e.1⟩
theorem RowK.at {E : Nat → Prop} {B : Nat} {w : World} {b n c k : Nat} {l : List KpM} (h : RowK E B w (some ⟨b, 0, none⟩) n c l) (hk : k < l.length) : w.cell? ⟨b, k * 2, none⟩ = some (.int .i64 l[k].sq) ∧ w.cell? ⟨b, k * 2 + 1, none⟩ = some (.slice l[k].t.a l[k].t.len l[k].t.cap) := by
  have hc := fun j u hu => h.2.1.cells (g := b) rfl j u hu
  simp only [add_none, Nat.zero_add] at hc
  have h0 := krV_at l k 0 hk (by omega)
  have h1 := krV_at l k 1 hk (by omega)
  simp only [KpM.cs, List.getElem?_cons_zero, List.getElem?_cons_succ, Nat.add_zero] at h0 h1
  exact ⟨hc _ _ h0, hc _ _ h1⟩
/-- A part of what is kept reads as that part. -/
theorem RowK.part {E : Nat → Prop} {B : Nat} {w : World} {b n c i j : Nat} {l : List KpM} (h : RowK E B w (some ⟨b, 0, none⟩) n c l) : Reads w (some ⟨b, i * 2, none⟩) (krV ((l.drop i).take j)) := by
  refine .inr ⟨b, i * 2, rfl, fun q u hu => ?_⟩
  have hc := fun j u hu => h.2.1.cells (g := b) rfl j u hu
  simp only [add_none, Nat.zero_add] at hc
  refine hc _ _ ?_
  have hsp : l = l.take i ++ ((l.drop i).take j ++ (l.drop i).drop j) := by rw [List.take_append_drop, List.take_append_drop]
  have hq : q < (krV ((l.drop i).take j)).length := by
    rcases Nat.lt_or_ge q (krV ((l.drop i).take j)).length with h1 | h1
    · exact h1
    · rw [List.getElem?_eq_none h1] at hu; cases hu
  by_cases hi : i ≤ l.length
  · have hlen : (krV (l.take i)).length = i * 2 := by rw [krV_len]; simp; omega
    rw [hsp, krV_app, krV_app, List.getElem?_append_right (by omega), hlen, show i * 2 + q - i * 2 = q by omega, List.getElem?_append_left hq]
    exact hu
  · rw [List.drop_of_length_le (by omega)] at hu
    simp [krV] at hu

/-- A load stays open, at the operation of a region in its order. -/
theorem append_or {w : World} {ops : Array Oper} {rest : List Oper} {o : Oper} {act : Act} {Q : Exit → Act → World → Prop} (hgd : o.guard = none) (s x : Operand)
    (ho : o.op = .call { callee := .builtin .append, args := #[s, x], argTypes := #[28, 28] }) (E : Nat → Prop) (B : Nat) (a : Option Addr) (n c : Nat) (l : List OpM) (hs : act.eval s = .slice a n c) (hR : RowO E B w a n c l) (hn : n ≤ 1000000) (hB : B ≤ w.heap.size) (hE : ∀ k, w.heap.size ≤ k → E k)
    (bk : Nat) (y : OpM) (hx : act.eval x = .slice (some ⟨bk, 0, none⟩) 1 1) (hb : Reads w (some ⟨bk, 0, none⟩) y.cs) (hy : TxO E w y.t)
    (h : ∀ a' c' w', RowO E B w' a' (n + 1) c' (l ++ [y]) → w.grownBy w' (Value.slice a n c).ownBlock → wpList Try.prog ops Q rest (act.put o.dst (.slice a' (n + 1) c')) w') : wpList Try.prog ops Q (o :: rest) act w :=
  wpList_plain hgd fun _ hK => app_or s x ho E B a n c l hs hR hn hB hE bk y hx hb hy fun a' c' w' h1 h2 => hK _ _ (h a' c' w' h1 h2)

/-- In, plain. -/
def rforB (k : Kc) (r : Rl) (f : Fr) : Bool := decide (f.fr = k.peer ∧ f.tt = k.self ∧ f.lf = k.theirs ∧ f.ak ≤ (r.seq : Int) ∧ 0 ≤ f.sq ∧ f.x.length ≤ 4096)
def rcloseL (r : Rl) (f : Fr) : Rl := { r with op := r.op.filter fun p => decide (f.ak < (p.sq : Int)) }
/-- Is there nothing to be kept? -/
def rnilB (r : Rl) (f : Fr) : Bool := decide (f.sq ≤ (r.all : Int) ∨ 8 < f.sq - (r.all : Int)) || (look f.sq.toNat r.kp).isSome
def rinF (k : Kc) (r : Rl) (f : Fr) : List (List Nat) :=
  if rforB k r f = false ∨ f.sq = 0 ∨ rnilB r f = true then [] else (rord (r.kp.length + 1) (r.kp ++ [(f.sq.toNat, f.x)]) r.all).1
def rinL (k : Kc) (r : Rl) (f : Fr) : Rl :=
  if rforB k r f = false then r
  else if f.sq = 0 then rcloseL r f
  else if rnilB r f = true then { rcloseL r f with ow := true }
  else { rcloseL r f with ow := true, kp := (rord (r.kp.length + 1) (r.kp ++ [(f.sq.toNat, f.x)]) r.all).2.1, all := (rord (r.kp.length + 1) (r.kp ++ [(f.sq.toNat, f.x)]) r.all).2.2 }
end Go.Proofs.Ytofigofaiadffaa
