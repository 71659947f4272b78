/- Rows of members in memory, and views, plain. -/
import Derived.Test.YthjkfpcbbjmclaaBase
import Derived.Lib.SliceRun
namespace Go.Proofs.Ythjkfpcbbjmclaa
open Go.RowKit Go.ChangeShapes Go.WideShapes Go.ChangeAt Go.Deep

abbrev Mb := Int × Int
/-- Members as cells. -/
def mV (c : List Mb) : List Value := c.flatMap fun x => [.int .i64 x.1, .int .i64 x.2]
theorem mV_cons (a : Mb) (r : List Mb) : mV (a :: r) = .int .i64 a.1 :: .int .i64 a.2 :: mV r := by simp [mV]
theorem mV_len (ys : List Mb) : (mV ys).length = ys.length * 2 := by
  induction ys with
  | nil => rfl
  | cons a r ih => rw [mV_cons]; simp [ih]; omega
theorem mV_one (ys : List Mb) : ∀ u ∈ mV ys, u.oneCell' = true := fun u hu => by
  simp only [mV, List.mem_flatMap] at hu
  obtain ⟨y, _, hy⟩ := hu
  simp at hy
  rcases hy with rfl | rfl <;> rfl
theorem mV_app (a b : List Mb) : mV (a ++ b) = mV a ++ mV b := by simp [mV]
theorem mV_at (l : List Mb) (k : Nat) (h : k < l.length) : (mV l)[2 * k]? = some (.int .i64 l[k].1) ∧ (mV l)[2 * k + 1]? = some (.int .i64 l[k].2) := by
  induction l generalizing k with
  | nil => simp at h
  | cons a r ih =>
    rw [mV_cons]
    cases k with
    | zero => simp
    | succ k =>
      have := ih k (by simpa using h)
      rw [show 2 * (k + 1) = 2 * k + 1 + 1 by omega]
      simpa using this
theorem mV_take (l : List Mb) (k : Nat) : mV (l.take k) = (mV l).take (k * 2) := by
  induction k generalizing l with
  | zero => simp [mV]
  | succ k ih =>
    cases l with
    | nil => simp [mV]
    | cons a r => rw [List.take_succ_cons, mV_cons, mV_cons, ih, show (k + 1) * 2 = k * 2 + 1 + 1 by omega]; simp
theorem mV_drop (l : List Mb) (k : Nat) : mV (l.drop k) = (mV l).drop (k * 2) := by
  induction k generalizing l with
  | zero => simp
  | succ k ih =>
    cases l with
    | nil => simp [mV]
    | cons a r => rw [List.drop_succ_cons, ih, mV_cons, show (k + 1) * 2 = k * 2 + 1 + 1 by omega]; simp
theorem mem_at {w : World} {a : Option Addr} {c : List Mb} {k : Nat} (h : Reads w a (mV c)) (hk : k < c.length) : ∃ b off, a = some ⟨b, off, none⟩ ∧ w.cell? ⟨b, off + k * 2, none⟩ = some (.int .i64 c[k].1) ∧ w.cell? ⟨b, off + k * 2 + 1, none⟩ = some (.int .i64 c[k].2) := by
  have hh := mV_at c k hk
  rcases h with h | ⟨b, off, rfl, h⟩
  · rw [h] at hh; simp at hh
  · exact ⟨b, off, rfl, by rw [Nat.mul_comm]; exact h _ _ hh.1, by rw [Nat.mul_comm, Nat.add_assoc]; exact h _ _ hh.2⟩
theorem BoxL.c2 {w : World} {g : Nat} {x y : Value} (h : BoxL w g [x, y]) : (w.cell? ⟨g, 0, none⟩ = some x ∧ w.cell? ⟨g, 1, none⟩ = some y) ∧ (w.frozen? ⟨g, 0, none⟩ = false ∧ w.frozen? ⟨g, 1, none⟩ = false) :=
  ⟨⟨(h.2 0 (by simp)).1, (h.2 1 (by simp)).1⟩, (h.2 0 (by simp)).2, (h.2 1 (by simp)).2⟩

/-- A row of one's own. -/
def Own (B : Nat) (w : World) (v : Value) (n : Nat) (l : List Mb) : Prop := w.ownsRow B 41 2 v n (mV l)
theorem Own.len {B n : Nat} {w : World} {v : Value} {l : List Mb} (h : Own B w v n l) : l.length = n := by
  have := h.1
  rw [mV_len] at this
  omega
theorem Own.below {B n : Nat} {w w' : World} {v : Value} {l : List Mb} (h : Own B w v n l) (hb : Below w.heap.size w w') : Own B w' v n l :=
  World.ownsRow.kept (row := none) h ⟨hb.os, hb.tape, hb.output, hb.size, fun k hk _ => hb.block k hk⟩ (by cases v.ownBlock <;> simp)
theorem Own.form {B n : Nat} {w : World} {v : Value} {l : List Mb} (h : Own B w v n l) : ∃ a c, v = .slice a n c ∧ n ≤ c ∧ c ≤ maxLen ∧ (a = none → n = 0 ∧ c = 0) ∧ Reads w a (mV l) ∧ (∀ ad, a = some ad → ad.off = 0 ∧ ad.spot = none ∧ B ≤ ad.block ∧ ad.block < w.heap.size) := by
  have h' : w.ownsRow B 41 2 v n (mV l) := h
  have hlt := h'.lt
  rcases h'.2 with ⟨rfl, rfl⟩ | ⟨g, cap, cur, rfl, h1, _, h3, h4, _⟩
  · refine ⟨none, 0, rfl, Nat.le_refl _, Nat.zero_le _, fun _ => ⟨rfl, rfl⟩, .inl ?_, fun ad e => by cases e⟩
    exact List.eq_nil_of_length_eq_zero (by rw [h'.1])
  · refine ⟨_, cap, rfl, h3, h4, (fun e => by cases e), .inr ⟨g, 0, rfl, fun j u hu => ?_⟩, fun ad e => by cases e; exact ⟨rfl, rfl, (hlt g rfl).1, (hlt g rfl).2⟩⟩
    have := h'.cells (g := g) rfl j u hu
    rwa [add_none] at this
theorem Own.nil (B : Nat) (w : World) : Own B w (.slice none 0 0) 0 [] := w.ownsRow_nil B 41 2
theorem Own.mono {B B' n : Nat} {w : World} {v : Value} {l : List Mb} (h : Own B w v n l) (hb : B' ≤ B) : Own B' w v n l := by
  refine ⟨h.1, ?_⟩
  rcases h.2 with h | ⟨g, cap, cur, e, h1, h2⟩
  · exact .inl h
  · exact .inr ⟨g, cap, cur, e, Nat.le_trans hb h1, h2⟩

theorem Try.info41 : (Try.prog.info? 41).map (fun i => (i.zero, i.size, i.bytes)) = some (some (.agg #[.int .i64 0, .int .i64 0]), 2, 16) := by kernel_rfl

/-- 'append(v, y...)' of members. -/
theorem append_m {w : World} {ops : Array Oper} {rest : List Oper} {o : Oper} {a : Act} {Q : Exit → Act → World → Prop} (hgd : o.guard = none) (s x : Operand)
    (ho : o.op = .call { callee := .builtin .append, args := #[s, x], argTypes := #[22, 22] })
    (base : Nat) (v : Value) (n : Nat) (xs : List Mb) (hs : a.eval s = v) (hown : Own base w v n xs)
    (ad : Option Addr) (m c : Nat) (ys : List Mb) (hx : a.eval x = .slice ad m c) (hnil : ad = none → m = 0 ∧ c = 0) (hl : ys.length = m) (hr : Reads w ad (mV ys))
    (hb : n + m ≤ 100000000) (hbase : base ≤ w.heap.size)
    (h : ∀ v' w', Own base w' v' (n + m) (xs ++ ys) → w.grownBy w' v.ownBlock → wpList Try.prog ops Q rest (a.put o.dst v') w') :
    wpList Try.prog ops Q (o :: rest) a w := by
  obtain ⟨i0, hi, hz0, hz1, hz2⟩ := info_parts Try.info41
  cases ad with
  | none =>
    obtain ⟨rfl, rfl⟩ := hnil rfl
    have hy : ys = [] := List.eq_nil_of_length_eq_zero hl
    subst hy
    refine wpList_append_own_none hgd s x 22 ho base 41 i0 2 Try.underlying22 hi v n (mV xs) hs hown hx ?_
    exact h v w (by simpa using hown) ⟨rfl, rfl, rfl, Nat.le_refl _, fun _ _ _ => rfl⟩
  | some ad =>
    refine wpList_append_own _ hgd s x 22 ho base 41 i0 (.agg #[.int .i64 0, .int .i64 0]) 2 16 Try.underlying22 hi hz0 hz1 hz2 rfl (by decide) v n (mV xs) hs hown ad m c (mV ys) hx (by rw [mV_len]; omega) ?_ (mV_one ys) (by unfold maxLen; omega) (by omega) hbase ?_
    · rcases hr with hr | ⟨b, off, e, hr⟩
      · rw [hr]; simp
      · simp at e
        subst e
        intro j u hu
        rw [add_none]; exact hr j u hu
    · intro v' w' h1 h2 _
      exact h v' w' (show w'.ownsRow base 41 2 v' (n + m) (mV (xs ++ ys)) by rw [mV_app]; exact h1) h2

/-! Slices of a row. -/
def atm (g off c k : Nat) : Addr := if c = k then ⟨g, off, none⟩ else ⟨g, off + k * 2, none⟩
theorem slice_from (w : World) (g off n c k : Nat) (hk : k ≤ n) : (Instr.slice 22 (.slice (some ⟨g, off, none⟩) n c) (some (.int .i64 (k : Int))) none none).run Try.prog w = .ok (.slice (some (atm g off c k)) (n - k) (c - k)) w := by
  simp [Instr.slice, run_underlying Try.underlying22, Instr.sliceBounds, run_sliceBound (P := Try.prog) w .i64 (k : Int) n .sliceB (by omega) (by omega)]
  unfold atm
  split <;> simp [add_none]
theorem slice_to (w : World) (a : Option Addr) (n c k : Nat) (hk : k ≤ c) : (Instr.slice 22 (.slice a n c) none (some (.int .i64 (k : Int))) none).run Try.prog w = .ok (.slice a k c) w := by
  simp [Instr.slice, run_underlying Try.underlying22, Instr.sliceBounds, run_sliceBound (P := Try.prog) w .i64 (k : Int) c .sliceAcap (by omega) (by omega)]
  cases a <;> simp [Addr.add_zero']

/-! Plain. -/
def okN (n : Int) : Bool := decide (1 ≤ n) && decide (n ≤ 2147483647)
def okM (m : Mb) : Bool := (decide (0 ≤ m.1) && decide (m.1 < 16)) && okN m.2
theorem okN_iff (n : Int) : okN n = true ↔ 1 ≤ n ∧ n ≤ 2147483647 := by simp [okN]
theorem okM_iff (m : Mb) : okM m = true ↔ (0 ≤ m.1 ∧ m.1 < 16) ∧ (1 ≤ m.2 ∧ m.2 ≤ 2147483647) := by simp [okM, okN]
/-- Each may be, and stands above the one ahead. -/
def goV : Int → List Mb → Bool
  | _, [] => true
  | last, m :: r => !decide (m.1 ≤ last) && (okM m && goV m.1 r)
def headZ : List Mb → Bool
  | [] => false
  | m :: _ => decide (m.1 = 0)
def mayV (ep : Int) (l : List Mb) : Bool := okN ep && (headZ l && goV (-1) l)
theorem goV_no {last : Int} {m : Mb} {r : List Mb} (h : m.1 ≤ last ∨ okM m = false) : goV last (m :: r) = false := by
  rcases h with h | h <;> simp [goV, h]
theorem goV_yes {last : Int} {m : Mb} {r : List Mb} (h1 : ¬ m.1 ≤ last) (h2 : okM m = true) : goV last (m :: r) = goV m.1 r := by
  simp only [goV, h2]; simp; intro; omega
theorem goV_len : ∀ (l : List Mb) (last : Int), -1 ≤ last → last ≤ 15 → goV last l = true → (l.length : Int) + last ≤ 15
  | [], last, _, h2, _ => by simpa using h2
  | m :: r, last, h1, h2, h => by
    simp only [goV, Bool.and_eq_true, Bool.not_eq_true', decide_eq_false_iff_not, okM_iff] at h
    have := goV_len r m.1 (by omega) (by omega) h.2.2
    simp only [List.length_cons]; omega
theorem mayV_len {ep : Int} {l : List Mb} (h : mayV ep l = true) : l.length ≤ 16 := by
  simp only [mayV, Bool.and_eq_true] at h
  have := goV_len l (-1) (by omega) (by omega) h.2.2
  omega
/-- They rise. -/
theorem goV_rise : ∀ (l : List Mb) (last : Int), goV last l = true → (∀ m ∈ l, last < m.1) ∧ l.Pairwise (fun a b => a.1 < b.1)
  | [], _, _ => ⟨fun m hm => (by simp at hm), .nil⟩
  | m :: r, last, h => by
    simp only [goV, Bool.and_eq_true, Bool.not_eq_true', decide_eq_false_iff_not] at h
    obtain ⟨h1, h2⟩ := goV_rise r m.1 h.2.2
    refine ⟨fun x hx => ?_, .cons (fun x hx => h1 x hx) h2⟩
    rcases List.mem_cons.1 hx with rfl | hx
    · omega
    · have := h1 x hx; omega
theorem mayV_rise {ep : Int} {l : List Mb} (h : mayV ep l = true) : ∀ i j (hi : i < l.length) (hj : j < l.length), i < j → l[i].1 < l[j].1 := by
  simp only [mayV, Bool.and_eq_true] at h
  exact fun i j hi hj hij => List.pairwise_iff_getElem.1 (goV_rise l (-1) h.2.2).2 i j hi hj hij
def inV (l : List Mb) (n : Int) : Bool := l.any fun m => decide (m.1 = n)
def hasV (l : List Mb) (n k : Int) : Bool := decide ((n, k) ∈ l)
def outOk (l : List Mb) (ns : List Int) : Bool := ns.all fun n => inV l n && !decide (n = 0)
/-- Without: the error, the epoch, the members. -/
def woE (ep : Int) (l : List Mb) (ns : List Int) : Int := if mayV ep l && (outOk l ns && !ns.isEmpty) then (if ep = 2147483647 then 16 else 0) else 1
def woP (ep : Int) (l : List Mb) (ns : List Int) : Int := if woE ep l ns = 0 then ep + 1 else 0
def woL (ep : Int) (l : List Mb) (ns : List Int) : List Mb := if woE ep l ns = 0 then l.filter (fun m => !decide (m.1 ∈ ns)) else []
def insV : List Mb → Mb → List Mb
  | [], m => [m]
  | x :: r, m => if m.1 < x.1 then m :: x :: r else x :: insV r m
def wiE (ep : Int) (l : List Mb) (n k : Int) : Int := if mayV ep l && (okM (n, k) && !inV l n) then (if ep = 2147483647 then 16 else 0) else 1
def wiP (ep : Int) (l : List Mb) (n k : Int) : Int := if wiE ep l n k = 0 then ep + 1 else 0
def wiL (ep : Int) (l : List Mb) (n k : Int) : List Mb := if wiE ep l n k = 0 then insV l (n, k) else []
def fiL (n : Nat) : List Mb := (List.range n).map fun (i : Nat) => ((i : Int), (1 : Int))
def fiE (n : Int) : Int := if 1 ≤ n ∧ n ≤ 16 then 0 else 1
def fiP (n : Int) : Int := if 1 ≤ n ∧ n ≤ 16 then 1 else 0
def fiM (n : Int) : List Mb := if 1 ≤ n ∧ n ≤ 16 then fiL n.toNat else []
theorem fiL_succ (n : Nat) : fiL (n + 1) = fiL n ++ [((n : Int), 1)] := by simp [fiL, List.range_succ]
theorem fiL_len (n : Nat) : (fiL n).length = n := by simp [fiL]
/-- The newest of views. -/
def newV : Int × List Mb → List (Int × List Mb) → Int × List Mb
  | x, [] => x
  | x, y :: r => newV (if y.1 > x.1 then y else x) r
theorem insV_at : ∀ (l : List Mb) (m : Mb) (k : Nat), k ≤ l.length → (∀ j (h : j < l.length), j < k → l[j].1 < m.1) → (∀ j (h : j < l.length), k ≤ j → m.1 < l[j].1) → insV l m = l.take k ++ m :: l.drop k
  | [], m, k, h0, _, _ => by simp [insV]
  | x :: r, m, k, h0, h1, h2 => by
    cases k with
    | zero =>
      have := h2 0 (by simp) (Nat.le_refl _)
      simp only [List.getElem_cons_zero] at this
      simp [insV, this]
    | succ k =>
      have := h1 0 (by simp) (by omega)
      simp only [List.getElem_cons_zero] at this
      have hn : ¬ m.1 < x.1 := by omega
      have ih := insV_at r m k (by simpa using h0) (fun j hj hk => h1 (j + 1) (by simpa using hj) (by omega)) (fun j hj hk => h2 (j + 1) (by simpa using hj) (by omega))
      simp [insV, hn, ih]
theorem take_eq {α : Type} {a b : List α} {k : Nat} (hk : k < a.length) (hk' : k < b.length) (h : a.take k = b.take k) (he : a[k] = b[k]) : a.take (k + 1) = b.take (k + 1) := by
  rw [List.take_succ_eq_append_getElem hk, List.take_succ_eq_append_getElem hk', h, he]
theorem ne_at {α : Type} {a b : List α} {k : Nat} (hk : k < a.length) (hk' : k < b.length) (he : a[k] ≠ b[k]) : a ≠ b := fun h => he (by subst h; rfl)
end Go.Proofs.Ythjkfpcbbjmclaa
