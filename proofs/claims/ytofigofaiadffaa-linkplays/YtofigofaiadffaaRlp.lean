/- The document's link, plain, and that it is the link. -/
import Derived.Test.YtofigofaiadffaaOrd
namespace Go.Proofs.Ytofigofaiadffaa
open Go.RowKit Go.ChangeShapes Go.WideShapes Go.ChangeAt Go.Deep

/-- How long a load waits that was out so often. -/
def wtT : Nat → Int
  | 0 => 0
  | n + 1 => min (4 * 2 ^ n) 64

theorem pow2_pos (n : Nat) : (1 : Int) ≤ 2 ^ n := by
  induction n with
  | zero => decide
  | succ n ih => rw [Int.pow_succ]; omega

theorem wtT_next (n : Nat) : min (max 4 (2 * wtT n)) 64 = wtT (n + 1) := by
  cases n with
  | zero => decide
  | succ n =>
    show min (max 4 (2 * min (4 * 2 ^ n) 64)) 64 = min (4 * 2 ^ (n + 1)) 64
    have h := pow2_pos n
    rw [Int.pow_succ]
    omega

theorem wtT_le (n : Nat) : 0 ≤ wtT n ∧ wtT n ≤ 64 := by
  cases n with
  | zero => decide
  | succ n =>
    have h := pow2_pos n
    show 0 ≤ min (4 * 2 ^ n) 64 ∧ min (4 * 2 ^ n) 64 ≤ 64
    omega

theorem wtT_pos (n : Nat) (h : 1 ≤ n) : 4 ≤ wtT n := by
  cases n with
  | zero => omega
  | succ n =>
    have h := pow2_pos n
    show 4 ≤ min (4 * 2 ^ n) 64
    omega

structure Ro where
  sq : Nat
  tt : Int
  n : Nat
  x : List Nat

structure Rl where
  seq : Nat
  all : Nat
  op : List Ro
  kp : List (Nat × List Nat)
  ow : Bool

/-- The open loads of both. -/
def OpR : Nat → List Op → List Ro → Prop
  | _, [], [] => True
  | k, o :: os, p :: ps => p.sq = k ∧ p.x = o.x ∧ o.wt = wtT p.n ∧ (p.n = 0 ∨ p.tt = o.tm) ∧ OpR (k + 1) os ps
  | _, _, _ => False

theorem OpR.len : ∀ {k : Nat} {a : List Op} {b : List Ro}, OpR k a b → b.length = a.length
  | _, [], [], _ => rfl
  | _, [], _ :: _, h => h.elim
  | _, _ :: _, [], h => h.elim
  | _, _ :: _, _ :: _, h => by simp [OpR.len h.2.2.2.2]

theorem OpR.snoc : ∀ {k : Nat} {a : List Op} {b : List Ro} (x : List Nat), OpR k a b → OpR k (a ++ [⟨x, 0, 0⟩]) (b ++ [⟨k + a.length, 0, 0, x⟩])
  | _, [], [], x, _ => ⟨by simp, rfl, rfl, .inl rfl, trivial⟩
  | _, [], _ :: _, _, h => h.elim
  | _, _ :: _, [], _, h => h.elim
  | k, o :: os, p :: ps, x, h => ⟨h.1, h.2.1, h.2.2.1, h.2.2.2.1, by
      have := OpR.snoc x h.2.2.2.2
      rw [show k + (o :: os).length = k + 1 + os.length by simp; omega]
      exact this⟩

/-- Is it due? -/
def rdue (now : Int) (p : Ro) : Bool := decide (p.n = 0 ∨ p.tt + wtT p.n ≤ now)
def rgo (now : Int) (p : Ro) : Ro := if rdue now p then ⟨p.sq, now, p.n + 1, p.x⟩ else p
def rdueF (now : Int) (l : List Ro) : List (Nat × List Nat) := (l.filter (rdue now)).map fun p => (p.sq, p.x)

theorem due_same {o : Op} {p : Ro} {now : Int} (h1 : o.wt = wtT p.n) (h2 : p.n = 0 ∨ p.tt = o.tm) : rdue now p = dueB o now := by
  unfold rdue dueB
  congr 1
  rw [h1]
  by_cases e : p.n = 0
  · rw [e]; simp [wtT]
  · have h3 := wtT_pos p.n (by omega)
    have h4 : p.tt = o.tm := by omega
    rw [h4]
    simp only [eq_iff_iff]
    constructor
    · rintro (h | h)
      · exact absurd h e
      · exact .inr h
    · rintro (h | h)
      · omega
      · exact .inr h

theorem OpR.out (now : Int) : ∀ {k : Nat} {a : List Op} {b : List Ro}, OpR k a b → OpR k (a.map (dueO now)) (b.map (rgo now)) ∧ dueF now k a = rdueF now b
  | _, [], [], _ => ⟨trivial, rfl⟩
  | _, [], _ :: _, h => h.elim
  | _, _ :: _, [], h => h.elim
  | k, o :: os, p :: ps, h => by
    obtain ⟨h1, h2⟩ := OpR.out now h.2.2.2.2
    have hd := due_same (now := now) h.2.2.1 h.2.2.2.1
    refine ⟨⟨?_, ?_, ?_, ?_, h1⟩, ?_⟩
    · unfold rgo; split <;> exact h.1
    · unfold rgo dueO; rw [hd]; split <;> exact h.2.1
    · unfold rgo dueO; rw [hd]
      split
      · show (goO o now).wt = _
        unfold goO
        rw [h.2.2.1]
        exact wtT_next _
      · exact h.2.2.1
    · unfold rgo dueO; rw [hd]
      split
      · exact .inr rfl
      · exact h.2.2.2.1
    · show (if dueB o now then [(k, o.x)] else []) ++ dueF now (k + 1) os = rdueF now (p :: ps)
      rw [h2]
      unfold rdueF
      rw [List.filter_cons, hd]
      split
      · simp [h.1, h.2.1]
      · simp

theorem OpR.close (a : Int) : ∀ {k : Nat} {l : List Op} {b : List Ro}, OpR (k + 1) l b → OpR (k + 1 + (a.toNat - k)) (l.drop (a.toNat - k)) (b.filter fun p => decide (a < (p.sq : Int))) ∨ l.length < a.toNat - k
  | k, [], [], _ => by
    by_cases e : a.toNat - k = 0
    · left; rw [e]; trivial
    · right; simp; omega
  | _, [], _ :: _, h => h.elim
  | _, _ :: _, [], h => h.elim
  | k, o :: os, p :: ps, h => by
    have hs := h.1
    by_cases e : (a < (p.sq : Int))
    · left
      have e0 : a.toNat - k = 0 := by omega
      rw [List.filter_cons, if_pos (by simpa using e), e0]
      have hf : ps.filter (fun p => decide (a < (p.sq : Int))) = ps := by
        rw [List.filter_eq_self]
        intro q hq
        have : ∀ {k' : Nat} {l : List Op} {b : List Ro}, OpR k' l b → a < k' → ∀ q ∈ b, a < (q.sq : Int) := by
          intro k' l b
          induction b generalizing k' l with
          | nil => intro _ _ q hq; cases hq
          | cons y ys ih =>
            intro h2 h3 q hq
            cases l with
            | nil => exact h2.elim
            | cons z zs =>
              rcases List.mem_cons.1 hq with rfl | hq
              · have := h2.1; omega
              · exact ih h2.2.2.2.2 (by omega) q hq
        simpa using this h.2.2.2.2 (by omega) q hq
      rw [hf]
      exact h
    · rw [List.filter_cons, if_neg (by simpa using e)]
      have e1 : a.toNat - k = (a.toNat - (k + 1)) + 1 := by omega
      rcases OpR.close a (k := k + 1) h.2.2.2.2 with h2 | h2
      · left
        rw [e1, List.drop_succ_cons, show k + 1 + (a.toNat - (k + 1) + 1) = k + 1 + 1 + (a.toNat - (k + 1)) by omega]
        exact h2
      · right
        rw [e1]
        simp; omega

/-- What stands there for a number. -/
def look (n : Nat) : List (Nat × List Nat) → Option (List Nat)
  | [] => none
  | y :: ys => if y.1 = n then some y.2 else look n ys

theorem look_app (n : Nat) (a b : List (Nat × List Nat)) : look n (a ++ b) = (look n a).or (look n b) := by
  induction a with
  | nil => rfl
  | cons y ys ih =>
    simp only [List.cons_append, look]
    split
    · rfl
    · exact ih

/-- The place of a number. -/
def spotK (n : Nat) : List (Nat × List Nat) → Option Nat
  | [] => none
  | y :: ys => if y.1 = n then some 0 else (spotK n ys).map (· + 1)

theorem spotK_none {n : Nat} {l : List (Nat × List Nat)} (h : spotK n l = none) : look n l = none := by
  induction l with
  | nil => rfl
  | cons y ys ih =>
    unfold spotK at h
    unfold look
    split
    · rename_i e; rw [if_pos e] at h; cases h
    · rename_i e; rw [if_neg e] at h; exact ih (by simpa using h)

theorem spotK_some {n i : Nat} {l : List (Nat × List Nat)} (h : spotK n l = some i) : ∃ x, l[i]? = some (n, x) ∧ look n l = some x ∧ (∀ m, m ≠ n → look m (l.eraseIdx i) = look m l) ∧ i < l.length ∧ ∀ j, j < i → ∀ y, l[j]? = some y → y.1 ≠ n := by
  induction l generalizing i with
  | nil => cases h
  | cons y ys ih =>
    unfold spotK at h
    by_cases e : y.1 = n
    · rw [if_pos e] at h
      simp at h
      subst h
      refine ⟨y.2, by simp [← e], by simp [look, e], fun m hm => ?_, by simp, fun j hj => by omega⟩
      simp [look]
      intro h
      omega
    · rw [if_neg e] at h
      obtain ⟨k, hk, rfl⟩ := Option.map_eq_some_iff.1 h
      obtain ⟨x, h1, h2, h3, h4, h5⟩ := ih hk
      refine ⟨x, by simpa using h1, by simp [look, e, h2], fun m hm => ?_, by simp; omega, fun j hj z hz => ?_⟩
      · simp only [List.eraseIdx_cons_succ, look]
        rw [h3 m hm]
      · cases j with
        | zero => simp at hz; subst hz; exact e
        | succ j => exact h5 j (by omega) z (by simpa using hz)

/-- The loads in order, and what is left. -/
def rord : Nat → List (Nat × List Nat) → Nat → List (List Nat) × List (Nat × List Nat) × Nat
  | 0, l, c => ([], l, c)
  | f + 1, l, c => match spotK (c + 1) l with
    | none => ([], l, c)
    | some i => ((look (c + 1) l).getD [] :: (rord f (l.eraseIdx i) (c + 1)).1, (rord f (l.eraseIdx i) (c + 1)).2)

theorem rord_ord (ea : Nat → Option (List Nat)) : ∀ f l c, (∀ n, c < n → ea n = look n l) → ordF ea f c = (rord f l c).1 ∧ (rord f l c).2.2 = c + (ordF ea f c).length ∧ ∀ n, (rord f l c).2.2 < n → ea n = look n (rord f l c).2.1 := by
  intro f
  induction f with
  | zero => intro l c h; exact ⟨rfl, rfl, h⟩
  | succ f ih =>
    intro l c h
    unfold ordF rord
    cases hs : spotK (c + 1) l with
    | none =>
      have := spotK_none hs
      rw [h (c + 1) (by omega), this]
      exact ⟨rfl, rfl, h⟩
    | some i =>
      obtain ⟨x, h1, h2, h3, h4, _⟩ := spotK_some hs
      rw [h (c + 1) (by omega), h2]
      have := ih (l.eraseIdx i) (c + 1) (fun n hn => by rw [h n (by omega), h3 n (by omega)])
      refine ⟨?_, ?_, this.2.2⟩
      · simp only [Option.getD_some]
        rw [this.1]
      · simp only [List.length_cons]
        rw [this.2.1]
        omega

/-- As many rounds as there are loads are enough. -/
theorem rord_enough : ∀ f l c, l.length ≤ f → rord f l c = rord l.length l c ∧ spotK ((rord f l c).2.2 + 1) (rord f l c).2.1 = none := by
  intro f
  induction f with
  | zero =>
    intro l c h
    have : l = [] := List.eq_nil_of_length_eq_zero (by omega)
    subst this
    exact ⟨rfl, rfl⟩
  | succ f ih =>
    intro l c h
    cases l with
    | nil => exact ⟨rfl, rfl⟩
    | cons y ys =>
      show rord (f + 1) (y :: ys) c = rord (ys.length + 1) (y :: ys) c ∧ _
      unfold rord
      cases hs : spotK (c + 1) (y :: ys) with
      | none => exact ⟨rfl, hs⟩
      | some i =>
        obtain ⟨x, h1, h2, h3, h4, _⟩ := spotK_some hs
        have hl : ((y :: ys).eraseIdx i).length = ys.length := by rw [List.length_eraseIdx_of_lt h4]; simp
        have := ih ((y :: ys).eraseIdx i) (c + 1) (by rw [hl]; simp at h; omega)
        rw [hl] at this
        simp only
        rw [this.1]
        refine ⟨rfl, ?_⟩
        rw [← this.1]
        exact this.2

theorem ordF_more (ea : Nat → Option (List Nat)) : ∀ f g c, f ≤ g → (∀ n, c + f < n → ea n = none) → ordF ea g c = ordF ea f c := by
  intro f
  induction f with
  | zero =>
    intro g c _ h
    cases g with
    | zero => rfl
    | succ g => unfold ordF; rw [h (c + 1) (by omega)]
  | succ f ih =>
    intro g c hg h
    cases g with
    | zero => omega
    | succ g =>
      unfold ordF
      cases ea (c + 1) with
      | none => rfl
      | some x =>
        simp only
        rw [ih g (c + 1) (by omega) (fun n hn => h n (by omega))]
end Go.Proofs.Ytofigofaiadffaa
