/- The reader in memory. -/
import Derived.Test.YtfnloomcianbiaaGreatDoorWords
namespace Go.Proofs.YtfnloomcianbiaaGreatDoor
open Go.RowKit Go.ChangeShapes Go.WideShapes Go.ChangeAt Go.Deep

structure Fun where
  name : ByteArray
  args : Int
  locals : Int
  code : List (Int × Int)
structure Use where
  name : ByteArray
  line : Int
  i : Int
  k : Int
/-- What a reader has put together. -/
structure St where
  rest : ByteArray
  line : Int
  funcs : List Fun
  main : Int
  args : List Int
  fuel : Int
  tasks : Int
  uses : List Use

def Fun.row (f : Fun) (c : Value) : FR := ⟨f.name, f.args, f.locals, c⟩
def frs (fs : List Fun) (cs : List Value) : List FR := List.zipWith Fun.row fs cs
def funV (fs : List FR) : List Value := fs.flatMap FR.enc
def insV (c : List (Int × Int)) : List Value := c.flatMap fun x => [.int .i64 x.1, .int .i64 x.2]
def Use.enc (u : Use) : List Value := [.string u.name, .int .i64 u.line, .int .i64 u.i, .int .i64 u.k]
def useV (us : List Use) : List Value := us.flatMap Use.enc

/-- x's row was made ahead of y's. -/
def Apart (x y : Value) : Prop := ∀ p q, x.ownBlock = some p → y.ownBlock = some q → p < q
theorem Apart.ne {x y : Value} (h : Apart x y) : x.ownBlock = none ∨ x.ownBlock ≠ y.ownBlock := by
  cases hx : x.ownBlock with
  | none => exact .inl rfl
  | some p => exact .inr (fun e => Nat.lt_irrefl _ (h p p hx e.symm))

/-- The reader lies in block b, its rows are its own. -/
structure Rd (B : Nat) (w : World) (b : Nat) (fv av uv : Value) (cs : List Value) (st : St) : Prop where
  nine : 9 ≤ B
  le : B ≤ b
  self : w.heap[b]? = some (.cells [.string st.rest, .int .i64 st.line, fv, .int .i64 st.main, av, .int .i64 st.fuel, .int .i64 st.tasks, uv].toArray 54 (0, 0))
  len : cs.length = st.funcs.length
  fns : w.ownsRow B 45 4 fv st.funcs.length (funV (frs st.funcs cs))
  codes : ∀ i (h : i < cs.length) (h' : i < st.funcs.length), w.ownsRow B 42 2 cs[i] st.funcs[i].code.length (insV st.funcs[i].code)
  apart : cs.Pairwise Apart
  args : w.ownsRow B 3 1 av st.args.length (iV st.args)
  uses : w.ownsRow B 78 4 uv st.uses.length (useV st.uses)

theorem own_tag {w : World} {B e k n g : Nat} {v : Value} {xs : List Value} (h : w.ownsRow B e k v n xs) (hg : v.ownBlock = some g) : ∃ cur, w.heap[g]? = some (.cells cur e (0, 0)) := by
  rcases h.2 with ⟨rfl, _⟩ | ⟨g', cap, cur, rfl, _, hh, _⟩
  · cases hg
  · cases hg
    exact ⟨cur, hh⟩

/-- A row stays where another block is turned that bears another type. -/
theorem own_far {w w' : World} {B e k n g : Nat} {v : Value} {xs : List Value} (h : w.ownsRow B e k v n xs) (hg : w.grownBy w' (some g)) (hne : ∀ cur, w.heap[g]? ≠ some (.cells cur e (0, 0))) : w'.ownsRow B e k v n xs := by
  refine h.kept hg ?_
  cases hv : v.ownBlock with
  | none => exact .inl rfl
  | some q =>
    refine .inr (fun hq => ?_)
    obtain ⟨cur, hc⟩ := own_tag h hv
    cases hq
    exact hne cur hc
theorem own_far' {w w' : World} {B e k n : Nat} {r : Option Nat} {v : Value} {xs : List Value} (h : w.ownsRow B e k v n xs) (hg : w.grownBy w' r) (hne : ∀ g, r = some g → ∀ cur, w.heap[g]? ≠ some (.cells cur e (0, 0))) : w'.ownsRow B e k v n xs := by
  cases r with
  | none => exact h.kept hg (by cases v.ownBlock <;> simp)
  | some g => exact own_far h hg (hne g rfl)
/-- .. where the block that turned is another row. -/
theorem own_apart {w w' : World} {B B' e k n e' k' n' : Nat} {v v' : Value} {xs xs' : List Value} (h : w.ownsRow B e k v n xs) (h' : w.ownsRow B' e' k' v' n' xs') (hne : e ≠ e') (hg : w.grownBy w' v'.ownBlock) : w'.ownsRow B e k v n xs :=
  own_far' h hg fun g hq cur hc => by
    obtain ⟨cur', hc'⟩ := own_tag h' hq
    rw [hc] at hc'
    injection hc' with e1
    injection e1 with _ e2 _
    exact hne e2

theorem Rd.keep {B : Nat} {w w' : World} {b : Nat} {fv av uv : Value} {cs : List Value} {st : St} (h : Rd B w b fv av uv cs st) (hb : Below w.heap.size w w') : Rd B w' b fv av uv cs st :=
  ⟨h.nine, h.le, by rw [hb.block b (lt_row h.self)]; exact h.self, h.len, own_keep h.fns hb, fun i hi hi' => own_keep (h.codes i hi hi') hb, h.apart, own_keep h.args hb, own_keep h.uses hb⟩

/-- The reader's own cells turn. -/
theorem Rd.turn {B : Nat} {w w' : World} {b : Nat} {fv av uv : Value} {cs : List Value} {st : St} (h : Rd B w b fv av uv cs st) (hg : w.grownBy w' (some b)) {rest : ByteArray} {line main fuel tasks : Int}
    (hs : w'.heap[b]? = some (.cells [.string rest, .int .i64 line, fv, .int .i64 main, av, .int .i64 fuel, .int .i64 tasks, uv].toArray 54 (0, 0))) :
    Rd B w' b fv av uv cs { st with rest := rest, line := line, main := main, fuel := fuel, tasks := tasks } := by
  have hne : ∀ e, e ≠ 54 → ∀ cur, w.heap[b]? ≠ some (.cells cur e (0, 0)) := fun e he cur hc => by
    rw [h.self] at hc
    injection hc with e1
    injection e1 with _ e2 _
    exact he e2.symm
  exact ⟨h.nine, h.le, hs, h.len, own_far h.fns hg (hne 45 (by decide)), fun i hi hi' => own_far (h.codes i hi hi') hg (hne 42 (by decide)), h.apart, own_far h.args hg (hne 3 (by decide)), own_far h.uses hg (hne 78 (by decide))⟩

theorem Rd.below {B : Nat} {w w' : World} {b : Nat} {fv av uv : Value} {cs : List Value} {st : St} (h : Rd B w b fv av uv cs st) (hg : w.grownBy w' (some b)) (hB : B ≤ w.heap.size) : Below B w w' :=
  (Below.refl _ _).grown hg hB (fun k hk => by cases hk; exact h.le)

theorem Rd.env {B : Nat} {w w' : World} {b : Nat} {fv av uv : Value} {cs : List Value} {st : St} (h : Rd B w b fv av uv cs st) (hE : Env w) (hb : Below B w w') : Env w' := hE.on hb h.nine
end Go.Proofs.YtfnloomcianbiaaGreatDoor
