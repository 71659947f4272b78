/- The package's variables as they are laid; jobs as plain data. -/
import Derived.Test.YtnkfdpnommjlcaaGreatDoorFind
namespace Go.Proofs.YtnkfdpnommjlcaaGreatDoor
open Go.RowKit Go.ChangeShapes Go.WideShapes Go.ChangeAt Go.Deep

/-- The package's variables, as they are laid. -/
structure Env (w : World) : Prop where
  size : 2 ≤ w.heap.size
  tab : Tab w
  err : w.cell? ⟨0, 0, none⟩ = some (.iface 139 (.agg #[.pointer (some ⟨2, 89, none⟩)]))

theorem Env.on {w w' : World} {B : Nat} (h : Env w) (hb : Below B w w') (hB : 2 ≤ B) : Env w' := by
  refine ⟨Nat.le_trans h.size hb.size, fun j hj => ?_, ?_⟩
  · obtain ⟨h0, h1, h2, h3⟩ := h.tab j hj
    have q : ∀ o, w'.cell? ⟨1, o, none⟩ = w.cell? ⟨1, o, none⟩ := fun o => World.cell?_of_block (hb.block 1 (by omega))
    exact ⟨(q _).trans h0, (q _).trans h1, (q _).trans h2, (q _).trans h3⟩
  · exact (World.cell?_of_block (a := ⟨0, 0, none⟩) (hb.block 0 (by omega))).trans h.err

theorem Env.below {w w' : World} (h : Env w) (hb : Below w.heap.size w w') : Env w' := h.on hb h.size

structure Fun where
  name : ByteArray
  args : Int
  locals : Int
  code : List (Int × Int)
def Fun.row (f : Fun) (c : Value) : FR := ⟨f.name, f.args, f.locals, c⟩
def frs (fs : List Fun) (cs : List Value) : List FR := List.zipWith Fun.row fs cs
def funV (fs : List FR) : List Value := fs.flatMap FR.enc
def insV (c : List (Int × Int)) : List Value := c.flatMap fun x => [.int .i64 x.1, .int .i64 x.2]

/-- Which function has that name, from i on; -1: none. -/
def findFrom (nm : ByteArray) : List Fun → Nat → Int
  | [], _ => -1
  | f :: r, i => if (f.name.toList == nm.toList) = true then (i : Int) else findFrom nm r (i + 1)
def findF (nm : ByteArray) (fs : List Fun) : Int := findFrom nm fs 0

theorem findFrom_ge (nm : ByteArray) : ∀ (fs : List Fun) (i : Nat), -1 ≤ findFrom nm fs i ∧ findFrom nm fs i < i + fs.length
  | [], i => by simp [findFrom]; omega
  | f :: r, i => by
    have := findFrom_ge nm r (i + 1)
    unfold findFrom
    split
    · simp only [List.length_cons]; omega
    · simp only [List.length_cons]; omega
theorem findF_ge (nm : ByteArray) (fs : List Fun) : -1 ≤ findF nm fs ∧ findF nm fs < fs.length := by
  have := findFrom_ge nm fs 0
  simpa [findF] using this

theorem findL_from (nm : ByteArray) : ∀ (fs : List Fun) (cs : List Value) (i : Nat), cs.length = fs.length → Lib.idxByFrom (fun _ (y : FR) => y.name.toList == nm.toList) default (frs fs cs) i = findFrom nm fs i
  | [], [], _, _ => rfl
  | f :: r, c :: d, i, h => by
    have ih := findL_from nm r d (i + 1) (by simpa using h)
    show Lib.idxByFrom _ default (Fun.row f c :: frs r d) i = _
    rw [Lib.idxByFrom, ih]
    rfl
  | [], _ :: _, _, h => by cases h
  | _ :: _, [], _, h => by cases h
theorem findL_eq (nm : ByteArray) (fs : List Fun) (cs : List Value) (h : cs.length = fs.length) : findL nm (frs fs cs) = findF nm fs := findL_from nm fs cs 0 h
end Go.Proofs.YtnkfdpnommjlcaaGreatDoor
