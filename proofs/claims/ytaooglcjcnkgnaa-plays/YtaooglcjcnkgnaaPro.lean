/- What a deque holds, plain: no step loses or doubles an item. -/
import Derived.Test.YtaooglcjcnkgnaaDqm
namespace Go.Proofs.Ytaooglcjcnkgnaa
open Go.RowKit Go.ChangeShapes Go.WideShapes Go.ChangeAt Go.Deep

/-- What stands from lo on. -/
def sg (f : Int → Int) (lo : Int) (k : Nat) : List Int := (List.range k).map fun j => f (lo + (j : Nat))

theorem sg_length (f : Int → Int) (lo : Int) (k : Nat) : (sg f lo k).length = k := by simp [sg]
theorem sg_succ (f : Int → Int) (lo : Int) (k : Nat) : sg f lo (k + 1) = sg f lo k ++ [f (lo + k)] := by simp [sg, List.range_succ]
theorem sg_cons (f : Int → Int) (lo : Int) (k : Nat) : sg f lo (k + 1) = f lo :: sg f (lo + 1) k := by
  simp [sg, List.range_succ_eq_map]
  intro a _
  congr 1
  omega
theorem sg_congr {f g : Int → Int} {lo : Int} {k : Nat} (h : ∀ j : Nat, j < k → f (lo + j) = g (lo + j)) : sg f lo k = sg g lo k := by
  unfold sg
  refine List.map_congr_left fun j hj => h j ?_
  simpa using hj

/-- What stands at i. -/
def atD (d : Dq) (i : Int) : Int := d.L.getD (plc d.n i) 0

theorem items_sg (d : Dq) : itemsD d = sg (atD d) d.top (d.bot - d.top).toNat := rfl

/-- The owner's state: its call, bottom, up to where items stand, up to where thieves may, what it holds itself. -/
inductive OwnS (top : Int) (n : Nat) (f : Int → Int) : Cl → Int → Int → Int → List Int → Prop
  | idle (b t v : Int) (won : Bool) (i s bot : Int) : OwnS top n f ⟨b, t, v, won, 0, i, s⟩ bot bot bot []
  | push0 (b t v : Int) (won : Bool) (i bot : Int) : OwnS top n f ⟨b, t, v, won, 1, i, 0⟩ bot bot bot [i]
  | push1 (t v : Int) (won : Bool) (i bot : Int) : OwnS top n f ⟨bot, t, v, won, 1, i, 1⟩ bot bot bot [i]
  | push2 (t v : Int) (won : Bool) (i bot : Int) : bot - top ≤ (n : Int) - 2 → OwnS top n f ⟨bot, t, v, won, 1, i, 2⟩ bot bot bot [i]
  | push3 (t v : Int) (won : Bool) (i bot : Int) : bot - top ≤ (n : Int) - 2 → f bot = i → OwnS top n f ⟨bot, t, v, won, 1, i, 3⟩ bot bot bot [i]
  | pop0 (b t v : Int) (won : Bool) (i bot : Int) : OwnS top n f ⟨b, t, v, won, 2, i, 0⟩ bot bot bot []
  | pop1 (t v : Int) (won : Bool) (i bot : Int) : OwnS top n f ⟨bot, t, v, won, 2, i, 1⟩ bot (bot + 1) (bot + 1) []
  | pop2a (t v : Int) (won : Bool) (i bot : Int) : t < bot → OwnS top n f ⟨bot, t, v, won, 2, i, 2⟩ bot (bot + 1) bot []
  | pop2b (v : Int) (won : Bool) (i bot : Int) : bot ≤ top → OwnS top n f ⟨bot, bot, v, won, 2, i, 2⟩ bot (bot + 1) (bot + 1) []
  | pop3 (v : Int) (won : Bool) (i bot : Int) : bot ≤ top → (top = bot → v = f bot) → OwnS top n f ⟨bot, bot, v, won, 2, i, 3⟩ bot (bot + 1) (bot + 1) []
  | pop4 (v : Int) (won : Bool) (i bot : Int) : top = bot + 1 → OwnS top n f ⟨bot, bot, v, won, 2, i, 4⟩ bot (bot + 1) (bot + 1) (if won then [v] else [])

/-- A thief's state. -/
def ThS (top lim : Int) (f : Int → Int) (c : Cl) : Prop :=
  c.k = 0 ∨ c.k = 3 ∧ (c.s = 0 ∨ 1 ≤ c.s ∧ c.s ≤ 3 ∧ c.t ≤ top ∧ (2 ≤ c.s → c.t = top → top < lim) ∧ (c.s = 3 → c.t = top → c.v = f top))

theorem ThS.mono {top lim top' lim' : Int} {f f' : Int → Int} {c : Cl} (h : ThS top lim f c) (h1 : top ≤ top') (h2 : top' = top → top < lim → top < lim' ∧ f' top = f top) : ThS top' lim' f' c := by
  rcases h with h | ⟨h, h3⟩
  · exact .inl h
  · refine .inr ⟨h, ?_⟩
    rcases h3 with h3 | ⟨a, b, c, d, e⟩
    · exact .inl h3
    · refine .inr ⟨a, b, by omega, fun hs ht => ?_, fun hs ht => ?_⟩
      · have e0 : top' = top := by omega
        have := (h2 e0 (d hs (by omega))).1
        omega
      · have e0 : top' = top := by omega
        have := (h2 e0 (d (by omega) (by omega))).2
        rw [e hs (by omega), e0, this]

structure Jx (d : Dq) (B lim : Int) (P : List Int) : Prop where
  own : OwnS d.top d.n (atD d) (d.c 0) d.bot B lim P
  top : 0 ≤ d.top
  tlim : d.top ≤ lim
  lb : lim ≤ B
  room : B - d.top ≤ (d.n : Int) - 1
  n4 : 4 ≤ d.n
  len : d.L.length = d.n
  th : ∀ p, 1 ≤ p → ThS d.top lim (atD d) (d.c p)

/-- The deque holds H. -/
def J (d : Dq) (H : List Int) : Prop := ∃ B lim P, Jx d B lim P ∧ H = sg (atD d) d.top (B - d.top).toNat ++ P

theorem J.zero : J Dq.zero [] :=
  ⟨0, 0, [], ⟨OwnS.idle 0 0 0 false 0 0 0, by decide, by decide, by decide, by decide, by decide, rfl, fun p _ => .inl rfl⟩, rfl⟩

/-- A state that differs in one call. -/
def Dq.mk' (d : Dq) (p : Nat) (top bot : Int) (n : Nat) (L : List Int) (x : Cl) : Dq := ⟨top, bot, n, L, fun k => if k = p then x else d.c k⟩

theorem mk_c (d : Dq) (p : Nat) (top bot : Int) (n : Nat) (L : List Int) (x : Cl) : (d.mk' p top bot n L x).c p = x := by simp [Dq.mk']
theorem mk_o (d : Dq) (p q : Nat) (top bot : Int) (n : Nat) (L : List Int) (x : Cl) (h : q ≠ p) : (d.mk' p top bot n L x).c q = d.c q := by simp [Dq.mk', h]

section
variable {d : Dq} {b t v i : Int} {won : Bool} {p : Nat}
theorem sp0 (hc : d.c p = ⟨b, t, v, won, 1, i, 0⟩) : stepB d p = (0, 0, d.mk' p d.top d.bot d.n d.L ⟨d.bot, t, v, won, 1, i, 1⟩) := by
  simp [stepB, goD, pushD, bump, Dq.put, Dq.mk', hc]
  try (funext k; by_cases e : k = p <;> simp [e])
theorem sp1 (hc : d.c p = ⟨b, t, v, won, 1, i, 1⟩) (h : ¬ (d.n : Int) - 1 ≤ b - d.top) : stepB d p = (0, 0, d.mk' p d.top d.bot d.n d.L ⟨b, d.top, v, won, 1, i, 2⟩) := by
  simp [stepB, goD, pushD, bump, Dq.put, Dq.mk', hc, h]
  try (funext k; by_cases e : k = p <;> simp [e])
theorem sp1g (hc : d.c p = ⟨b, t, v, won, 1, i, 1⟩) (h : (d.n : Int) - 1 ≤ b - d.top) : stepB d p = (0, 0, d.mk' p d.top d.bot (gsz d.n) (growK d.n (gsz d.n) d.L d.top (cnt d.n d.top b)) ⟨b, d.top, v, won, 1, i, 2⟩) := by
  simp [stepB, goD, pushD, bump, Dq.put, Dq.mk', hc, h]
  try (funext k; by_cases e : k = p <;> simp [e])
theorem sp2 (hc : d.c p = ⟨b, t, v, won, 1, i, 2⟩) : stepB d p = (0, 0, d.mk' p d.top d.bot d.n (d.L.set (plc d.n b) i) ⟨b, t, v, won, 1, i, 3⟩) := by
  simp [stepB, goD, pushD, bump, Dq.put, Dq.mk', hc]
  try (funext k; by_cases e : k = p <;> simp [e])
theorem sp3 (hc : d.c p = ⟨b, t, v, won, 1, i, 3⟩) : stepB d p = (1, 0, d.mk' p d.top (b + 1) d.n d.L Cl.zero) := by
  simp [stepB, goD, pushD, bump, Dq.put, Dq.mk', hc]
  try (funext k; by_cases e : k = p <;> simp [e])
theorem so0 (hc : d.c p = ⟨b, t, v, won, 2, i, 0⟩) : stepB d p = (0, 0, d.mk' p d.top (d.bot - 1) d.n d.L ⟨d.bot - 1, t, v, won, 2, i, 1⟩) := by
  simp [stepB, goD, popD, bump, Dq.put, Dq.mk', hc]
  try (funext k; by_cases e : k = p <;> simp [e])
theorem so1e (hc : d.c p = ⟨b, t, v, won, 2, i, 1⟩) (h : b < d.top) : stepB d p = (3, 0, d.mk' p d.top d.top d.n d.L Cl.zero) := by
  simp [stepB, goD, popD, bump, Dq.put, Dq.mk', hc, h]
  try (funext k; by_cases e : k = p <;> simp [e])
theorem so1 (hc : d.c p = ⟨b, t, v, won, 2, i, 1⟩) (h : ¬ b < d.top) : stepB d p = (0, 0, d.mk' p d.top d.bot d.n d.L ⟨b, d.top, v, won, 2, i, 2⟩) := by
  simp [stepB, goD, popD, bump, Dq.put, Dq.mk', hc, h]
  try (funext k; by_cases e : k = p <;> simp [e])
theorem so2i (hc : d.c p = ⟨b, t, v, won, 2, i, 2⟩) (h : t < b) : stepB d p = (2, atD d b, d.mk' p d.top d.bot d.n d.L Cl.zero) := by
  simp [stepB, goD, popD, bump, Dq.put, Dq.mk', hc, h, atD]
  try (funext k; by_cases e : k = p <;> simp [e])
theorem so2 (hc : d.c p = ⟨b, t, v, won, 2, i, 2⟩) (h : ¬ t < b) : stepB d p = (0, 0, d.mk' p d.top d.bot d.n d.L ⟨b, t, atD d b, won, 2, i, 3⟩) := by
  simp [stepB, goD, popD, bump, Dq.put, Dq.mk', hc, h, atD]
  try (funext k; by_cases e : k = p <;> simp [e])
theorem so3w (hc : d.c p = ⟨b, t, v, won, 2, i, 3⟩) (h : d.top = t) : stepB d p = (0, 0, d.mk' p (t + 1) d.bot d.n d.L ⟨b, t, v, true, 2, i, 4⟩) := by
  simp [stepB, goD, popD, bump, Dq.put, Dq.mk', hc, h]
  try (funext k; by_cases e : k = p <;> simp [e])
theorem so3l (hc : d.c p = ⟨b, t, v, won, 2, i, 3⟩) (h : ¬ d.top = t) : stepB d p = (0, 0, d.mk' p d.top d.bot d.n d.L ⟨b, t, v, false, 2, i, 4⟩) := by
  simp [stepB, goD, popD, bump, Dq.put, Dq.mk', hc, h]
  try (funext k; by_cases e : k = p <;> simp [e])
theorem so4w (hc : d.c p = ⟨b, t, v, won, 2, i, 4⟩) (h : won = true) : stepB d p = (2, v, d.mk' p d.top (t + 1) d.n d.L Cl.zero) := by
  simp [stepB, goD, popD, bump, Dq.put, Dq.mk', hc, h]
  try (funext k; by_cases e : k = p <;> simp [e])
theorem so4l (hc : d.c p = ⟨b, t, v, won, 2, i, 4⟩) (h : won = false) : stepB d p = (3, 0, d.mk' p d.top (t + 1) d.n d.L Cl.zero) := by
  simp [stepB, goD, popD, bump, Dq.put, Dq.mk', hc, h]
  try (funext k; by_cases e : k = p <;> simp [e])
theorem ss0 (hc : d.c p = ⟨b, t, v, won, 3, i, 0⟩) : stepB d p = (0, 0, d.mk' p d.top d.bot d.n d.L ⟨b, d.top, v, won, 3, i, 1⟩) := by
  simp [stepB, goD, stealD, bump, Dq.put, Dq.mk', hc]
  try (funext k; by_cases e : k = p <;> simp [e])
theorem ss1e (hc : d.c p = ⟨b, t, v, won, 3, i, 1⟩) (h : d.bot - t < 1) : stepB d p = (3, 0, d.mk' p d.top d.bot d.n d.L Cl.zero) := by
  simp [stepB, goD, stealD, bump, Dq.put, Dq.mk', hc, h]
  try (funext k; by_cases e : k = p <;> simp [e])
theorem ss1 (hc : d.c p = ⟨b, t, v, won, 3, i, 1⟩) (h : ¬ d.bot - t < 1) : stepB d p = (0, 0, d.mk' p d.top d.bot d.n d.L ⟨d.bot, t, v, won, 3, i, 2⟩) := by
  simp [stepB, goD, stealD, bump, Dq.put, Dq.mk', hc, h]
  try (funext k; by_cases e : k = p <;> simp [e])
theorem ss2 (hc : d.c p = ⟨b, t, v, won, 3, i, 2⟩) : stepB d p = (0, 0, d.mk' p d.top d.bot d.n d.L ⟨b, t, atD d t, won, 3, i, 3⟩) := by
  simp [stepB, goD, stealD, bump, Dq.put, Dq.mk', hc, atD]
  try (funext k; by_cases e : k = p <;> simp [e])
theorem ss3 (hc : d.c p = ⟨b, t, v, won, 3, i, 3⟩) (h : d.top = t) : stepB d p = (2, v, d.mk' p (t + 1) d.bot d.n d.L Cl.zero) := by
  simp [stepB, goD, stealD, bump, Dq.put, Dq.mk', hc, h]
  try (funext k; by_cases e : k = p <;> simp [e])
theorem ss3l (hc : d.c p = ⟨b, t, v, won, 3, i, 3⟩) (h : ¬ d.top = t) : stepB d p = (4, 0, d.mk' p d.top d.bot d.n d.L Cl.zero) := by
  simp [stepB, goD, stealD, bump, Dq.put, Dq.mk', hc, h]
  try (funext k; by_cases e : k = p <;> simp [e])
end
end Go.Proofs.Ytaooglcjcnkgnaa
