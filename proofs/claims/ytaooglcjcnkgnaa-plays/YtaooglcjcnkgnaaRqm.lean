/- The document's deque in memory. -/
import Derived.Test.YtaooglcjcnkgnaaStp
import Derived.Test.YtaooglcjcnkgnaaGrR
import Derived.Test.YtaooglcjcnkgnaaNeR
namespace Go.Proofs.Ytaooglcjcnkgnaa
open Go.RowKit Go.ChangeShapes Go.WideShapes Go.ChangeAt Go.Deep

def wn (b : Bool) : Int := if b then 1 else 0

/-- A call's cells there. -/
def rcl (c : Cl) : Nat → Value
  | 0 => .int .i64 c.k
  | 1 => .int .i64 c.i
  | 2 => .int .i64 c.s
  | 3 => .int .i64 c.b
  | 4 => .int .i64 c.t
  | 5 => .int .i64 c.v
  | _ => .int .i64 (wn c.won)

def rcell (d : Dq) (rb i : Nat) : Value :=
  if i = 0 then .int .i64 d.top else if i = 1 then .int .i64 d.bot else if i = 2 then .pointer (some ⟨rb, 0, none⟩) else rcl (d.c ((i - 3) / 7)) ((i - 3) % 7)

structure RQ (w : World) (cb rb g : Nat) (d : Dq) : Prop where
  bx : Bx w cb (rcell d rb)
  ring : RingP w rb 0 g d.n d.L
  n1 : cb ≠ rb
  n2 : cb ≠ g

theorem RQ.top {w : World} {cb rb g : Nat} {d : Dq} (h : RQ w cb rb g d) : w.cell? ⟨cb, 0, none⟩ = some (.int .i64 d.top) ∧ w.frozen? ⟨cb, 0, none⟩ = false := h.bx 0 (by omega)
theorem RQ.bot {w : World} {cb rb g : Nat} {d : Dq} (h : RQ w cb rb g d) : w.cell? ⟨cb, 1, none⟩ = some (.int .i64 d.bot) ∧ w.frozen? ⟨cb, 1, none⟩ = false := h.bx 1 (by omega)
theorem RQ.rp {w : World} {cb rb g : Nat} {d : Dq} (h : RQ w cb rb g d) : w.cell? ⟨cb, 2, none⟩ = some (.pointer (some ⟨rb, 0, none⟩)) ∧ w.frozen? ⟨cb, 2, none⟩ = false := h.bx 2 (by omega)

theorem RQ.call {w : World} {cb rb g : Nat} {d : Dq} (h : RQ w cb rb g d) (p j : Nat) (hp : p < 16) (hj : j < 7) : w.cell? ⟨cb, 3 + p * 7 + j, none⟩ = some (rcl (d.c p) j) ∧ w.frozen? ⟨cb, 3 + p * 7 + j, none⟩ = false := by
  have := h.bx (3 + p * 7 + j) (by omega)
  have e1 : (3 + p * 7 + j - 3) / 7 = p := by omega
  have e2 : (3 + p * 7 + j - 3) % 7 = j := by omega
  unfold rcell at this
  rw [if_neg (by omega), if_neg (by omega), if_neg (by omega), e1, e2] at this
  exact this

theorem RQ.below {w w' : World} {cb rb g : Nat} {d : Dq} (h : RQ w cb rb g d) (hb : Below w.heap.size w w') : RQ w' cb rb g d :=
  ⟨h.bx.keep (hb.block cb h.bx.lt), h.ring.below hb, h.n1, h.n2⟩

theorem RQ.drewN {w : World} {cb rb g : Nat} {d : Dq} (h : RQ w cb rb g d) (q : Nat) : RQ (w.drewN q) cb rb g d := h.below (below_drewN (Below.refl _ _) q)

theorem RQ.lt {w : World} {cb rb g : Nat} {d : Dq} (h : RQ w cb rb g d) : cb < w.heap.size ∧ rb < w.heap.size ∧ g < w.heap.size := ⟨h.bx.lt, h.ring.lt.1, h.ring.lt.2⟩

/-- A cell of the deque's block is written. -/
theorem RQ.put {w : World} {cb rb g : Nat} {d : Dq} (h : RQ w cb rb g d) (i : Nat) (v : Value) (d' : Dq) (hn : d'.n = d.n) (hL : d'.L = d.L) (hf : ∀ j, j < 115 → rcell d' rb j = if j = i then v else rcell d rb j) : RQ (w.setCell ⟨cb, i, none⟩ v) cb rb g d' :=
  ⟨h.bx.put i v hf, by rw [hn, hL]; exact h.ring.grown (grown_setCell w cb i v) (fun e => h.n1 e.symm) (fun e => h.n2 e.symm), h.n1, h.n2⟩

theorem RQ.setTop {w : World} {cb rb g : Nat} {d : Dq} (h : RQ w cb rb g d) (x : Int) : RQ (w.setCell ⟨cb, 0, none⟩ (.int .i64 x)) cb rb g { d with top := x } :=
  h.put 0 _ _ rfl rfl fun j _ => by unfold rcell; by_cases e : j = 0 <;> simp [e]

theorem RQ.setBot {w : World} {cb rb g : Nat} {d : Dq} (h : RQ w cb rb g d) (x : Int) : RQ (w.setCell ⟨cb, 1, none⟩ (.int .i64 x)) cb rb g { d with bot := x } :=
  h.put 1 _ _ rfl rfl fun j _ => by unfold rcell; by_cases e : j = 0 <;> by_cases e1 : j = 1 <;> simp [e, e1] <;> omega

theorem RQ.setCall {w : World} {cb rb g : Nat} {d : Dq} (h : RQ w cb rb g d) (p jj : Nat) (hp : p < 16) (hjj : jj < 7) (v : Value) (x : Cl) (hx : ∀ j, j < 7 → rcl x j = if j = jj then v else rcl (d.c p) j) : RQ (w.setCell ⟨cb, 3 + p * 7 + jj, none⟩ v) cb rb g (d.put p x) := by
  refine h.put _ _ _ rfl rfl fun j hj => ?_
  unfold rcell
  by_cases e0 : j = 0
  · subst e0; simp [Dq.put]; omega
  by_cases e1 : j = 1
  · subst e1; simp [Dq.put]; omega
  by_cases e2 : j = 2
  · subst e2; simp; omega
  simp only [e0, e1, e2, if_false, Dq.put]
  by_cases ep : (j - 3) / 7 = p
  · rw [if_pos ep, hx _ (by omega), ep]
    by_cases ej : (j - 3) % 7 = jj
    · rw [if_pos ej, if_pos (by omega)]
    · rw [if_neg ej, if_neg (by omega)]
  · rw [if_neg ep, if_neg (by omega)]

theorem RQ.setAll {w : World} {cb rb g : Nat} {d : Dq} (h : RQ w cb rb g d) (p : Nat) (hp : p < 16) (x : Cl) :
    RQ (((((((w.setCell ⟨cb, 3 + p * 7, none⟩ (.int .i64 x.k)).setCell ⟨cb, 3 + p * 7 + 1, none⟩ (.int .i64 x.i)).setCell ⟨cb, 3 + p * 7 + 2, none⟩ (.int .i64 x.s)).setCell ⟨cb, 3 + p * 7 + 3, none⟩ (.int .i64 x.b)).setCell ⟨cb, 3 + p * 7 + 4, none⟩ (.int .i64 x.t)).setCell ⟨cb, 3 + p * 7 + 5, none⟩ (.int .i64 x.v)).setCell ⟨cb, 3 + p * 7 + 6, none⟩ (.int .i64 (wn x.won))) cb rb g (d.put p x) := by
  have aux : ∀ {W : World} {D : Dq} (h : RQ W cb rb g D) (jj : Nat) (hjj : jj < 7) (v : Value) (y : Cl) (hx : ∀ j, j < 7 → rcl y j = if j = jj then v else rcl (D.c p) j), RQ (W.setCell ⟨cb, 3 + p * 7 + jj, none⟩ v) cb rb g (D.put p y) := fun h jj hjj v y hx => h.setCall p jj hp hjj v y hx
  have h1 := aux h 0 (by omega) (.int .i64 x.k) { d.c p with k := x.k } (by intro j hj; rcases j with _ | _ | _ | _ | _ | _ | _ | j <;> simp [rcl] <;> omega)
  have h2 := aux h1 1 (by omega) (.int .i64 x.i) { d.c p with k := x.k, i := x.i } (by intro j hj; rw [Dq.put_same]; rcases j with _ | _ | _ | _ | _ | _ | _ | j <;> simp [rcl] <;> omega)
  have h3 := aux h2 2 (by omega) (.int .i64 x.s) { d.c p with k := x.k, i := x.i, s := x.s } (by intro j hj; rw [Dq.put_same]; rcases j with _ | _ | _ | _ | _ | _ | _ | j <;> simp [rcl] <;> omega)
  have h4 := aux h3 3 (by omega) (.int .i64 x.b) { d.c p with k := x.k, i := x.i, s := x.s, b := x.b } (by intro j hj; rw [Dq.put_same]; rcases j with _ | _ | _ | _ | _ | _ | _ | j <;> simp [rcl] <;> omega)
  have h5 := aux h4 4 (by omega) (.int .i64 x.t) { d.c p with k := x.k, i := x.i, s := x.s, b := x.b, t := x.t } (by intro j hj; rw [Dq.put_same]; rcases j with _ | _ | _ | _ | _ | _ | _ | j <;> simp [rcl] <;> omega)
  have h6 := aux h5 5 (by omega) (.int .i64 x.v) { d.c p with k := x.k, i := x.i, s := x.s, b := x.b, t := x.t, v := x.v } (by intro j hj; rw [Dq.put_same]; rcases j with _ | _ | _ | _ | _ | _ | _ | j <;> simp [rcl] <;> omega)
  have h7 := aux h6 6 (by omega) (.int .i64 (wn x.won)) x (by intro j hj; rw [Dq.put_same]; rcases j with _ | _ | _ | _ | _ | _ | _ | j <;> simp [rcl] <;> omega)
  simp only [put_put, Nat.add_zero] at h7
  exact h7

/-- The ring is another one. -/
theorem RQ.setRing {w : World} {cb rb g : Nat} {d : Dq} (h : RQ w cb rb g d) (rb' g' n' : Nat) (L' : List Int) (hr : RingP w rb' 0 g' n' L') (hne1 : cb ≠ rb') (hne : cb ≠ g') : RQ (w.setCell ⟨cb, 2, none⟩ (.pointer (some ⟨rb', 0, none⟩))) cb rb' g' { d with n := n', L := L' } := by
  refine ⟨h.bx.put 2 _ fun j _ => ?_, hr.grown (grown_setCell w cb 2 _) (fun e => hne1 e.symm) (fun e => hne e.symm), hne1, hne⟩
  unfold rcell
  by_cases e0 : j = 0
  · simp [e0]
  by_cases e1 : j = 1
  · simp [e1]
  by_cases e2 : j = 2
  · simp [e2]
  · simp [e0, e1, e2]

theorem RQ.setL {w w' : World} {cb rb g : Nat} {d : Dq} {L' : List Int} (h : RQ w cb rb g d) (hr : RingP w' rb 0 g d.n L') (hg : w.grownBy w' (some g)) : RQ w' cb rb g { d with L := L' } :=
  ⟨h.bx.keep (hg.block cb h.bx.lt (by simpa using h.n2)), hr, h.n1, h.n2⟩

theorem rget_below (w : World) (cb o g n : Nat) (L : List Int) (i : Int) (h : RingP w cb o g n L) :
    Calls Try.prog 33 #[.pointer (some ⟨cb, o, none⟩), .int .i64 i] w.drew fun e w' => e = .returned (.int .i64 (L.getD (plc n i) 0)) ∧ Below w.heap.size w w' :=
  (rget_any w.drew cb o g n L i (h.drewN 1)).mono fun e w' ⟨h1, q, h2⟩ => ⟨h1, by rw [h2]; exact below_drewN (below_drewN (Below.refl _ _) 1) q⟩

/-- Where the ring lies behind a step. -/
def Mv (rb g rb' g' : Nat) (w : World) : Prop := (rb' = rb ∧ g' = g) ∨ (w.heap.size ≤ rb' ∧ w.heap.size ≤ g')

def PuPost (cb rb g : Nat) (r : Int × Dq) (w : World) (e : Ending) (w' : World) : Prop :=
  e = .returned (.int .i64 r.1) ∧ ∃ rb' g', RQ w' cb rb' g' r.2 ∧ Wr cb g w w' ∧ Mv rb g rb' g' w

def PoPost (cb rb g p : Nat) (r : Int × Dq) (w : World) (e : Ending) (w' : World) : Prop :=
  e = .returned (.tuple #[.int .i64 r.1, .int .i64 (if r.1 = 2 then (r.2.c p).v else 0)]) ∧ RQ w' cb rb g r.2 ∧ Wr cb g w w'
end Go.Proofs.Ytaooglcjcnkgnaa
