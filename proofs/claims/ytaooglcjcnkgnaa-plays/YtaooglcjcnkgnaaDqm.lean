/- A deque: plain, and in memory. -/
import Derived.Test.YtaooglcjcnkgnaaGro
namespace Go.Proofs.Ytaooglcjcnkgnaa
open Go.RowKit Go.ChangeShapes Go.WideShapes Go.ChangeAt Go.Deep

/-- A call. -/
structure Cl where
  b : Int
  t : Int
  v : Int
  won : Bool
  k : Int
  i : Int
  s : Int

def Cl.zero : Cl := ⟨0, 0, 0, false, 0, 0, 0⟩

/-- A deque, plain. -/
structure Dq where
  top : Int
  bot : Int
  n : Nat
  L : List Int
  c : Nat → Cl

def Dq.put (d : Dq) (p : Nat) (x : Cl) : Dq := { d with c := fun k => if k = p then x else d.c k }
def Dq.zero : Dq := ⟨0, 0, 4, List.replicate 4 0, fun _ => Cl.zero⟩

theorem Dq.put_same (d : Dq) (p : Nat) (x : Cl) : (d.put p x).c p = x := by simp [Dq.put]

/-- A push at its step: the answer, and what is left. -/
def pushD (d : Dq) (p : Nat) : Int × Dq :=
  let c := d.c p
  if c.s = 1 then (0, d.put p { c with b := d.bot })
  else if c.s = 2 then
    if (d.n : Int) - 1 ≤ c.b - d.top then (0, { d.put p { c with t := d.top } with n := gsz d.n, L := growK d.n (gsz d.n) d.L d.top (cnt d.n d.top c.b) })
    else (0, d.put p { c with t := d.top })
  else if c.s = 3 then (0, { d with L := d.L.set (plc d.n c.b) c.i })
  else (1, { d with bot := c.b + 1 })

/-- A pop at its step. -/
def popD (d : Dq) (p : Nat) : Int × Dq :=
  let c := d.c p
  if c.s = 1 then (0, { d.put p { c with b := d.bot - 1 } with bot := d.bot - 1 })
  else if c.s = 2 then
    if c.b < d.top then (3, { d.put p { c with t := d.top } with bot := d.top })
    else (0, d.put p { c with t := d.top })
  else if c.s = 3 then (if c.t < c.b then 2 else 0, d.put p { c with v := d.L.getD (plc d.n c.b) 0 })
  else if c.s = 4 then
    if d.top = c.t then (0, { d.put p { c with won := true } with top := c.t + 1 }) else (0, d.put p { c with won := false })
  else (if c.won then 2 else 3, { d with bot := c.t + 1 })

/-- A steal at its step. -/
def stealD (d : Dq) (p : Nat) : Int × Dq :=
  let c := d.c p
  if c.s = 1 then (0, d.put p { c with t := d.top })
  else if c.s = 2 then (if d.bot - c.t < 1 then 3 else 0, d.put p { c with b := d.bot })
  else if c.s = 3 then (0, d.put p { c with v := d.L.getD (plc d.n c.t) 0 })
  else if d.top = c.t then (2, { d with top := c.t + 1 }) else (4, d)

def goD (d : Dq) (p : Nat) : Int × Dq :=
  if (d.c p).k = 1 then pushD d p else if (d.c p).k = 2 then popD d p else stealD d p

def bump (d : Dq) (p : Nat) : Dq := d.put p { d.c p with s := (d.c p).s + 1 }

/-- A step of who has a call: the answer, the value, what is left. -/
def stepB (d : Dq) (p : Nat) : Int × Int × Dq :=
  let r := goD (bump d p) p
  (r.1, if r.1 = 2 then (r.2.c p).v else 0, if r.1 = 0 then r.2 else r.2.put p Cl.zero)

def busyD (d : Dq) (who : Int) : Bool := decide (0 ≤ who ∧ who < 16) && decide ((d.c who.toNat).k ≠ 0)

def stepD (d : Dq) (who : Int) : Int × Int × Dq := if busyD d who then stepB d who.toNat else (0, 0, d)

def ownC (who call : Int) : Bool := if who = 0 then decide (call = 1 ∨ call = 2) else decide (0 ≤ who ∧ who < 16 ∧ call = 3)

def beginD (d : Dq) (who call item : Int) : Int × Dq :=
  if ownC who call = false then (1, d) else if busyD d who then (31, d) else (0, d.put who.toNat { Cl.zero with k := call, i := item })

def itemsD (d : Dq) : List Int := (List.range (d.bot - d.top).toNat).map fun (k : Nat) => d.L.getD (plc d.n (d.top + (k : Int))) 0

/-- All numbers are at most m. -/
structure Sml (m : Nat) (d : Dq) : Prop where
  top : -(m : Int) ≤ d.top ∧ d.top ≤ m
  bot : -(m : Int) ≤ d.bot ∧ d.bot ≤ m
  b : ∀ k, -(m : Int) ≤ (d.c k).b ∧ (d.c k).b ≤ m
  t : ∀ k, -(m : Int) ≤ (d.c k).t ∧ (d.c k).t ≤ m
  s : ∀ k, 0 ≤ (d.c k).s ∧ (d.c k).s ≤ m

theorem Sml.mono {m m' : Nat} {d : Dq} (h : Sml m d) (hm : m ≤ m') : Sml m' d := by
  obtain ⟨h1, h2, h3, h4, h5⟩ := h
  exact ⟨by omega, by omega, fun k => by have := h3 k; omega, fun k => by have := h4 k; omega, fun k => by have := h5 k; omega⟩

theorem Sml.zero : Sml 0 Dq.zero := by
  refine ⟨?_, ?_, fun k => ?_, fun k => ?_, fun k => ?_⟩ <;> simp [Dq.zero, Cl.zero]

theorem Sml.put {m : Nat} {d : Dq} (h : Sml m d) (p : Nat) (x : Cl) (hb : -(m : Int) ≤ x.b ∧ x.b ≤ m) (ht : -(m : Int) ≤ x.t ∧ x.t ≤ m) (hs : 0 ≤ x.s ∧ x.s ≤ m) : Sml m (d.put p x) := by
  refine ⟨h.top, h.bot, fun k => ?_, fun k => ?_, fun k => ?_⟩ <;> (by_cases e : k = p <;> simp [Dq.put, e])
  · exact hb
  · exact h.b k
  · exact ht
  · exact h.t k
  · exact hs
  · exact h.s k

theorem Sml.topbot {m : Nat} {d d' : Dq} (h : Sml m d) (hc : d'.c = d.c) (h1 : -(m : Int) ≤ d'.top ∧ d'.top ≤ m) (h2 : -(m : Int) ≤ d'.bot ∧ d'.bot ≤ m) : Sml m d' :=
  ⟨h1, h2, fun k => by rw [hc]; exact h.b k, fun k => by rw [hc]; exact h.t k, fun k => by rw [hc]; exact h.s k⟩

theorem Sml.go {m : Nat} {d : Dq} (h : Sml m d) (p : Nat) : Sml (m + 1) (goD d p).2 := by
  have h' := h.mono (Nat.le_succ m)
  have h1 := h.top; have h2 := h.bot; have h3 := h.b p; have h4 := h.t p; have h5 := h.s p
  unfold goD pushD popD stealD
  dsimp only
  repeat' split
  all_goals first
    | exact h'
    | exact Sml.put h' p _ (by dsimp; omega) (by dsimp; omega) (by dsimp; omega)
    | exact Sml.topbot h' rfl (by dsimp; omega) (by dsimp; omega)
    | exact Sml.topbot (Sml.put h' p _ (by dsimp; omega) (by dsimp; omega) (by dsimp; omega)) rfl (by dsimp [Dq.put]; omega) (by dsimp [Dq.put]; omega)

theorem Sml.bump {m : Nat} {d : Dq} (h : Sml m d) (p : Nat) : Sml (m + 1) (bump d p) := by
  have h' := h.mono (Nat.le_succ m)
  have h3 := h.b p; have h4 := h.t p; have h5 := h.s p
  exact h'.put p _ (by dsimp; omega) (by dsimp; omega) (by dsimp; omega)

theorem Sml.step {m : Nat} {d : Dq} (h : Sml m d) (who : Int) : Sml (m + 2) (stepD d who).2.2 := by
  unfold stepD stepB
  split
  · dsimp only
    have := (h.bump who.toNat).go who.toNat
    split
    · exact this
    · exact this.put _ _ (by simp [Cl.zero]; omega) (by simp [Cl.zero]; omega) (by simp [Cl.zero]; omega)
  · exact h.mono (by omega)

theorem Sml.begin {m : Nat} {d : Dq} (h : Sml m d) (who call item : Int) : Sml m (beginD d who call item).2 := by
  unfold beginD
  split
  · exact h
  · split
    · exact h
    · exact h.put _ _ (by simp [Cl.zero]) (by simp [Cl.zero]) (by simp [Cl.zero])

/-- A call's cells. -/
def clv (c : Cl) : Nat → Value
  | 0 => .int .i64 c.b
  | 1 => .int .i64 c.t
  | 2 => .int .i64 c.v
  | 3 => .bool c.won
  | 4 => .int .i64 c.k
  | 5 => .int .i64 c.i
  | _ => .int .i64 c.s

def dcell (d : Dq) (g i : Nat) : Value :=
  if i = 0 then .int .i64 d.top else if i = 1 then .int .i64 d.bot else if i = 2 then .slice (some ⟨g, 0, none⟩) d.n d.n else clv (d.c ((i - 3) / 7)) ((i - 3) % 7)

/-- A block of 115 cells. -/
def Bx (w : World) (cb : Nat) (f : Nat → Value) : Prop := ∀ i, i < 115 → w.cell? ⟨cb, i, none⟩ = some (f i) ∧ w.frozen? ⟨cb, i, none⟩ = false

theorem Bx.put {w : World} {cb : Nat} {f f' : Nat → Value} (h : Bx w cb f) (i : Nat) (v : Value) (hf : ∀ j, j < 115 → f' j = if j = i then v else f j) : Bx (w.setCell ⟨cb, i, none⟩ v) cb f' := by
  intro j hj
  refine ⟨?_, by simpa using (h j hj).2⟩
  rw [hf j hj]
  by_cases e : j = i
  · subst e
    rw [if_pos rfl]
    exact World.cell?_setCell_same _ _ _ (h j hj).1
  · rw [if_neg e, World.cell?_setCell_other (h := by simp)]
    exact (h j hj).1

theorem Bx.lt {w : World} {cb : Nat} {f : Nat → Value} (h : Bx w cb f) : cb < w.heap.size := cell_some_lt (h 0 (by omega)).1

theorem Bx.keep {w w' : World} {cb : Nat} {f : Nat → Value} (h : Bx w cb f) (hb : w'.heap[cb]? = w.heap[cb]?) : Bx w' cb f := by
  intro j hj
  exact ⟨by rw [World.cell?_of_block (w := w) (a := ⟨cb, j, none⟩) hb]; exact (h j hj).1, by rw [World.frozen?_of_block (w := w) (a := ⟨cb, j, none⟩) hb]; exact (h j hj).2⟩

/-- A deque in memory: its cells at cb, its ring's places at g. -/
structure DqM (w : World) (cb g : Nat) (d : Dq) : Prop where
  bx : Bx w cb (dcell d g)
  pow : Pow d.n
  len : d.L.length = d.n
  own : w.ownsRow 0 3 1 (.slice (some ⟨g, 0, none⟩) d.n d.n) d.n (iV d.L)
  ne : cb ≠ g

theorem DqM.ring {w : World} {cb g : Nat} {d : Dq} (h : DqM w cb g d) : RingP w cb 2 g d.n d.L := ⟨h.pow, h.len, (h.bx 2 (by omega)).1, h.own, h.ne⟩

theorem DqM.top {w : World} {cb g : Nat} {d : Dq} (h : DqM w cb g d) : w.cell? ⟨cb, 0, none⟩ = some (.int .i64 d.top) ∧ w.frozen? ⟨cb, 0, none⟩ = false := h.bx 0 (by omega)
theorem DqM.bot {w : World} {cb g : Nat} {d : Dq} (h : DqM w cb g d) : w.cell? ⟨cb, 1, none⟩ = some (.int .i64 d.bot) ∧ w.frozen? ⟨cb, 1, none⟩ = false := h.bx 1 (by omega)

theorem DqM.call {w : World} {cb g : Nat} {d : Dq} (h : DqM w cb g d) (p j : Nat) (hp : p < 16) (hj : j < 7) : w.cell? ⟨cb, 3 + p * 7 + j, none⟩ = some (clv (d.c p) j) ∧ w.frozen? ⟨cb, 3 + p * 7 + j, none⟩ = false := by
  have := h.bx (3 + p * 7 + j) (by omega)
  have e1 : (3 + p * 7 + j - 3) / 7 = p := by omega
  have e2 : (3 + p * 7 + j - 3) % 7 = j := by omega
  unfold dcell at this
  rw [if_neg (by omega), if_neg (by omega), if_neg (by omega), e1, e2] at this
  exact this

/-- What a call of a deque may write: the blocks cb and g; what it makes is new. -/
structure Wr (cb g : Nat) (w w' : World) : Prop where
  os : w'.os = w.os
  tape : w'.tape = w.tape
  output : w'.output = w.output
  size : w.heap.size ≤ w'.heap.size
  block : ∀ k, k < w.heap.size → k ≠ cb → k ≠ g → w'.heap[k]? = w.heap[k]?

theorem Wr.refl (cb g : Nat) (w : World) : Wr cb g w w := ⟨rfl, rfl, rfl, Nat.le_refl _, fun _ _ _ _ => rfl⟩
theorem Wr.trans {cb g : Nat} {a b c : World} (h : Wr cb g a b) (k : Wr cb g b c) : Wr cb g a c :=
  ⟨k.os.trans h.os, k.tape.trans h.tape, k.output.trans h.output, Nat.le_trans h.size k.size, fun i hi h1 h2 => (k.block i (Nat.lt_of_lt_of_le hi h.size) h1 h2).trans (h.block i hi h1 h2)⟩
theorem Wr.ofG {cb g : Nat} {a b : World} (h : a.grownBy b (some g)) : Wr cb g a b := ⟨h.os, h.tape, h.output, h.size, fun k hk _ h2 => h.block k hk (by simpa using h2)⟩
theorem Wr.ofC {cb g : Nat} {a b : World} (h : a.grownBy b (some cb)) : Wr cb g a b := ⟨h.os, h.tape, h.output, h.size, fun k hk h2 _ => h.block k hk (by simpa using h2)⟩
theorem Wr.ofB {cb g : Nat} {a b : World} (h : Below a.heap.size a b) : Wr cb g a b := ⟨h.os, h.tape, h.output, h.size, fun k hk _ _ => h.block k hk⟩
theorem Wr.set (cb g i : Nat) (v : Value) (w : World) : Wr cb g w (w.setCell ⟨cb, i, none⟩ v) := .ofC (grown_setCell w cb i v)

theorem DqM.below {w w' : World} {cb g : Nat} {d : Dq} (h : DqM w cb g d) (hb : Below w.heap.size w w') : DqM w' cb g d :=
  ⟨h.bx.keep (hb.block cb h.bx.lt), h.pow, h.len, own_below h.own hb, h.ne⟩

theorem DqM.drewN {w : World} {cb g : Nat} {d : Dq} (h : DqM w cb g d) (q : Nat) : DqM (w.drewN q) cb g d := h.below (below_drewN (Below.refl _ _) q)

theorem DqM.lt {w : World} {cb g : Nat} {d : Dq} (h : DqM w cb g d) : cb < w.heap.size ∧ g < w.heap.size := ⟨h.bx.lt, (h.own.lt g rfl).2⟩

/-- A cell of the deque's block but the ring's is written. -/
theorem DqM.put {w : World} {cb g : Nat} {d : Dq} (h : DqM w cb g d) (i : Nat) (v : Value) (d' : Dq) (hn : d'.n = d.n) (hL : d'.L = d.L) (hf : ∀ j, j < 115 → dcell d' g j = if j = i then v else dcell d g j) : DqM (w.setCell ⟨cb, i, none⟩ v) cb g d' :=
  ⟨h.bx.put i v hf, by rw [hn]; exact h.pow, by rw [hn, hL]; exact h.len, by rw [hn, hL]; exact h.own.kept (grown_setCell w cb i v) (.inr (by simpa [Value.ownBlock] using fun e => h.ne e.symm)), h.ne⟩

theorem DqM.setTop {w : World} {cb g : Nat} {d : Dq} (h : DqM w cb g d) (x : Int) : DqM (w.setCell ⟨cb, 0, none⟩ (.int .i64 x)) cb g { d with top := x } :=
  h.put 0 _ _ rfl rfl fun j _ => by unfold dcell; by_cases e : j = 0 <;> simp [e]

theorem DqM.setBot {w : World} {cb g : Nat} {d : Dq} (h : DqM w cb g d) (x : Int) : DqM (w.setCell ⟨cb, 1, none⟩ (.int .i64 x)) cb g { d with bot := x } :=
  h.put 1 _ _ rfl rfl fun j _ => by unfold dcell; by_cases e : j = 0 <;> by_cases e1 : j = 1 <;> simp [e, e1] <;> omega

/-- A cell of the call p is written. -/
theorem DqM.setCall {w : World} {cb g : Nat} {d : Dq} (h : DqM w cb g d) (p jj : Nat) (hp : p < 16) (hjj : jj < 7) (v : Value) (x : Cl) (hx : ∀ j, j < 7 → clv x j = if j = jj then v else clv (d.c p) j) : DqM (w.setCell ⟨cb, 3 + p * 7 + jj, none⟩ v) cb g (d.put p x) := by
  refine h.put _ _ _ rfl rfl fun j hj => ?_
  unfold dcell
  by_cases e0 : j = 0
  · subst e0; simp [Dq.put]; omega
  by_cases e1 : j = 1
  · subst e1; simp [Dq.put]; omega
  by_cases e2 : j = 2
  · subst e2; simp [Dq.put]; omega
  simp only [e0, e1, e2, if_false, Dq.put]
  by_cases ep : (j - 3) / 7 = p
  · rw [if_pos ep, hx _ (by omega), ep]
    by_cases ej : (j - 3) % 7 = jj
    · rw [if_pos ej, if_pos (by omega)]
    · rw [if_neg ej, if_neg (by omega)]
  · rw [if_neg ep, if_neg (by omega)]

theorem put_put (d : Dq) (p : Nat) (x y : Cl) : (d.put p x).put p y = d.put p y := by
  simp only [Dq.put]
  congr 1
  funext k
  by_cases e : k = p <;> simp [e]

theorem put_self (d : Dq) (p : Nat) : d.put p (d.c p) = d := by
  cases d
  simp only [Dq.put]
  congr 1
  funext k
  by_cases e : k = p <;> simp [e]
end Go.Proofs.Ytaooglcjcnkgnaa
