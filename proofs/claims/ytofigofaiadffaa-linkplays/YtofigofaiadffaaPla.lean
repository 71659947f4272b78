/- A link, plain; what holds between it and a link's cells. -/
import Derived.Test.YtofigofaiadffaaMem
namespace Go.Proofs.Ytofigofaiadffaa
open Go.RowKit Go.ChangeShapes Go.WideShapes Go.ChangeAt Go.Deep

/-- An open load: its bytes, when it was out last, how long it waits (0: it was never out). -/
structure Op where
  x : List Nat
  tm : Int
  wt : Int
/-- A link: the open loads have the numbers behind 'acked'; 'ea' tells which loads came in, by number. -/
structure Lk where
  last : Int
  acked : Nat
  op : List Op
  came : Nat
  ea : Nat → Option (List Nat)
  owed : Bool
  self : Int
  peer : Int
  life : Int
  theirs : Int
def I64 (x : Int) : Prop := -9223372036854775808 ≤ x ∧ x ≤ 9223372036854775807
/-- The plain link and the cells. -/
structure Rel (s : Lk) (m : Lm) : Prop where
  last : m.last = s.last
  used : m.used = ((s.acked + s.op.length : Nat) : Int)
  acked : m.acked = (s.acked : Int)
  came : m.came = (s.came : Int)
  owed : m.owed = s.owed
  self : m.self = s.self
  peer : m.peer = s.peer
  life : m.life = s.life
  theirs : m.theirs = s.theirs
  len : s.op.length ≤ 8
  op : ∀ i (h : i < s.op.length), (m.os ((s.acked + 1 + i) % 8)).t.bs = s.op[i].x ∧ (m.os ((s.acked + 1 + i) % 8)).tm = s.op[i].tm ∧ (m.os ((s.acked + 1 + i) % 8)).wt = s.op[i].wt
  opb : ∀ i (h : i < s.op.length), I64 s.op[i].tm ∧ 0 ≤ s.op[i].wt ∧ s.op[i].wt ≤ 64
  ea : ∀ i, i < 8 → s.ea (s.came + 1 + i) = if (m.es ((s.came + 1 + i) % 8)).here then some (m.es ((s.came + 1 + i) % 8)).t.bs else none
  far : ∀ n, s.came + 8 < n → s.ea n = none
/-- A link in memory, at block g, with all that it has in blocks of D. -/
def LinkP (D : Nat → Prop) (w : World) (g : Nat) (s : Lk) : Prop := ∃ m, LinkC w g m ∧ OwnL D w g m ∧ Rel s m
theorem LinkP.keep {D : Nat → Prop} {w w' : World} {g : Nat} {s : Lk} (h : LinkP D w g s) (hs : w.heap.size ≤ w'.heap.size) (hk : ∀ k, D k → w'.heap[k]? = w.heap[k]?) : LinkP D w' g s := by
  obtain ⟨m, h1, h2, h3⟩ := h
  exact ⟨m, h1.keep hs (hk g h2.dg), h2.keep hs fun k hd _ => hk k hd, h3⟩
theorem LinkP.lt {D : Nat → Prop} {w : World} {g : Nat} {s : Lk} (h : LinkP D w g s) : ∀ k, D k → k < w.heap.size := by
  obtain ⟨m, h1, h2, h3⟩ := h
  exact h2.dl
theorem LinkP.dg {D : Nat → Prop} {w : World} {g : Nat} {s : Lk} (h : LinkP D w g s) : D g := by
  obtain ⟨m, h1, h2, h3⟩ := h
  exact h2.dg
theorem LinkP.below {D : Nat → Prop} {w w' : World} {g : Nat} {s : Lk} (h : LinkP D w g s) (hb : Below w.heap.size w w') : LinkP D w' g s := h.keep hb.size fun k hd => hb.block k (h.lt k hd)
theorem LinkP.mono {D D' : Nat → Prop} {w : World} {g : Nat} {s : Lk} (h : LinkP D w g s) (hD : ∀ k, D k → D' k) (hl : ∀ k, D' k → k < w.heap.size) : LinkP D' w g s := by
  obtain ⟨m, h1, h2, h3⟩ := h
  exact ⟨m, h1, h2.mono hD hl, h3⟩
/-- Another one's calls leave a link as it is. -/
theorem LinkP.other {D D' : Nat → Prop} {w w' : World} {g : Nat} {s : Lk} (h : LinkP D w g s) (hk : Kp D' w w') (hd : ∀ k, D k → ¬ D' k) : LinkP D w' g s := h.keep hk.size fun k h1 => hk.block k (h.lt k h1) (hd k h1)

/-- New, Send, Out, In, plain. -/
def newL (self peer life theirs last : Int) : Lk := ⟨last, 0, [], 0, fun _ => none, false, self, peer, life, theirs⟩
def Lk.used (s : Lk) : Nat := s.acked + s.op.length
def sendE (s : Lk) (x : List Nat) : Int := if 4096 < x.length then 3 else if s.last ≤ (s.used : Int) then 32 else if 8 ≤ s.op.length then 31 else 0
def sendL (s : Lk) (x : List Nat) : Lk := if sendE s x = 0 then { s with op := s.op ++ [⟨x, 0, 0⟩] } else s
def dueB (o : Op) (now : Int) : Bool := decide (o.wt = 0 ∨ o.tm + o.wt ≤ now)
def goO (o : Op) (now : Int) : Op := ⟨o.x, now, min (max 4 (2 * o.wt)) 64⟩
def dueO (now : Int) (o : Op) : Op := if dueB o now then goO o now else o
/-- The loads that are due among these, with their numbers; the first one has the number n. -/
def dueF (now : Int) : Nat → List Op → List (Nat × List Nat)
  | _, [] => []
  | n, o :: r => (if dueB o now then [(n, o.x)] else []) ++ dueF now (n + 1) r
/-- A frame: From, To, Life, Seq, Ack, Load. -/
structure Fr where
  fr : Int
  tt : Int
  lf : Int
  sq : Int
  ak : Int
  x : List Nat
def Lk.frame (s : Lk) (p : Nat × List Nat) : Fr := ⟨s.self, s.peer, s.life, p.1, s.came, p.2⟩
def outP (s : Lk) (now : Int) : List (Nat × List Nat) := let d := dueF now (s.acked + 1) s.op; if d.isEmpty && s.owed then [(0, [])] else d
def outF (s : Lk) (now : Int) : List Fr := (outP s now).map s.frame
def outL (s : Lk) (now : Int) : Lk := { s with op := s.op.map (dueO now), owed := if (outP s now).isEmpty then s.owed else false }
def forB (s : Lk) (f : Fr) : Bool := decide (f.fr = s.peer ∧ f.tt = s.self ∧ f.lf = s.theirs ∧ f.ak ≤ (s.used : Int) ∧ 0 ≤ f.sq ∧ f.x.length ≤ 4096)
/-- Loads up to a number are open no more. -/
def closeL (s : Lk) (n : Int) : Lk := { s with acked := max s.acked n.toNat, op := s.op.drop (n.toNat - s.acked) }
/-- The loads behind number c that came in, up to the first one that is missing. -/
def ordF (ea : Nat → Option (List Nat)) : Nat → Nat → List (List Nat)
  | 0, _ => []
  | f + 1, c => match ea (c + 1) with
    | none => []
    | some x => x :: ordF ea f (c + 1)
def keepE (ea : Nat → Option (List Nat)) (n : Nat) (x : List Nat) : Nat → Option (List Nat) := if (ea n).isSome then ea else upd ea n (some x)
def accF (s : Lk) (n : Int) (x : List Nat) : List (List Nat) := if n ≤ (s.came : Int) ∨ (s.came : Int) + 8 < n then [] else ordF (keepE s.ea n.toNat x) 8 s.came
def accL (s : Lk) (n : Int) (x : List Nat) : Lk := if n ≤ (s.came : Int) ∨ (s.came : Int) + 8 < n then { s with owed := true } else { s with owed := true, ea := keepE s.ea n.toNat x, came := s.came + (ordF (keepE s.ea n.toNat x) 8 s.came).length }
def inF (s : Lk) (f : Fr) : List (List Nat) := if forB s f then (if f.sq = 0 then [] else accF (closeL s f.ak) f.sq f.x) else []
def inL (s : Lk) (f : Fr) : Lk := if forB s f then (if f.sq = 0 then closeL s f.ak else accL (closeL s f.ak) f.sq f.x) else s

theorem mod_ne {a i j : Nat} (hi : i < 8) (hj : j < 8) (h : i ≠ j) : (a + i) % 8 ≠ (a + j) % 8 := by omega
/-- One load more. -/
theorem Rel.send {s : Lk} {m : Lm} (h : Rel s m) (hl : s.op.length < 8) (t : Txt) : Rel { s with op := s.op ++ [⟨t.bs, 0, 0⟩] } { m with used := ((s.acked + s.op.length + 1 : Nat) : Int), os := upd m.os ((s.acked + s.op.length + 1) % 8) ⟨t, 0, 0⟩ } := by
  refine ⟨h.last, by simp; omega, h.acked, h.came, h.owed, h.self, h.peer, h.life, h.theirs, by simp; omega, fun i hi => ?_, fun i hi => ?_, h.ea, h.far⟩
  · simp only [List.length_append, List.length_singleton] at hi
    by_cases e : i = s.op.length
    · subst e
      rw [show s.acked + 1 + s.op.length = s.acked + s.op.length + 1 by omega]
      simp [upd_same]
    · have hi' : i < s.op.length := by omega
      simp only
      rw [upd_ne _ _ _ _ (by omega), List.getElem_append_left hi']
      exact h.op i hi'
  · simp only [List.length_append, List.length_singleton] at hi
    by_cases e : i = s.op.length
    · subst e
      simp [I64]
    · have hi' : i < s.op.length := by omega
      rw [List.getElem_append_left hi']
      exact h.opb i hi'
end Go.Proofs.Ytofigofaiadffaa
