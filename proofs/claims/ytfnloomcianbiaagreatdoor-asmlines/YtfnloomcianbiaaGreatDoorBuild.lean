/- The Builder: kept, written. -/
import Derived.Test.YtfnloomcianbiaaGreatDoorInsLine
namespace Go.Proofs.YtfnloomcianbiaaGreatDoor
open Go.RowKit Go.ChangeShapes Go.WideShapes Go.ChangeAt Go.Deep

/-- A builder of the call's own that holds these bytes. -/
def Bld (B b : Nat) (l : List UInt8) (w : World) : Prop := Lib.IsBuilderF 66 5 B b (Lib.byteCells l) w

theorem bldAt_keep {B b : Nat} {p : Value} {bs : List Value} {w w' : World} (h : Lib.BuilderAtF 66 5 B b p bs w) (hb : Below w.heap.size w w') : Lib.BuilderAtF 66 5 B b p bs w' := by
  obtain ⟨h1, v, h2, ⟨h3, h4⟩, h5⟩ := h
  refine ⟨h1, v, by rw [hb.block b (lt_row h2)]; exact h2, ⟨h3, ?_⟩, h5⟩
  rcases h4 with h4 | ⟨g, cap, cur, fz, e1, e2, e3, e4⟩
  · exact .inl h4
  · exact .inr ⟨g, cap, cur, fz, e1, e2, by rw [hb.block g (lt_row e3)]; exact e3, e4⟩
theorem Bld.keep {B b : Nat} {l : List UInt8} {w w' : World} (h : Bld B b l w) (hb : Below w.heap.size w w') : Bld B b l w' := by
  rcases h with h | h
  · exact .inl (bldAt_keep h hb)
  · exact .inr (bldAt_keep h hb)

theorem write_any (B b : Nat) (l t : List UInt8) (w : World) (h : Bld B b l w) (hlen : l.length + t.length ≤ 1000000000) (hBw : B ≤ w.heap.size) :
    Calls Tryz.prog 26 #[.pointer (some ⟨b, 0, none⟩), .string (bs t)] w fun e w' => e = .returned (.tuple #[.int .i64 (bs t).size, .nilIface]) ∧ Bld B b (l ++ t) w' ∧ Below B w w' ∧ Lib.OthersKept 5 (some b) w w' := by
  refine (Tryz.Builder_WriteString_k B b (Lib.byteCells l) (bs t) w h (by rw [bs_size]; simp [Lib.byteCells]; omega) hBw).mono ?_
  rintro e w' ⟨he, h1, h2, h3⟩
  refine ⟨he, .inr ?_, h2, h3⟩
  rw [Lib.byteCells_append]
  exact h1

theorem text_any (B b : Nat) (l : List UInt8) (w : World) (h : Bld B b l w) (hBw : B ≤ w.heap.size) :
    Calls Tryz.prog 29 #[.pointer (some ⟨b, 0, none⟩)] w fun e w' => e = .returned (.string (bs l)) ∧ Below B w w' := by
  refine (Tryz.Builder_String_any_k B b l w h hBw).mono ?_
  rintro e w' ⟨he, _, h2, _⟩
  exact ⟨he, h2⟩

theorem bld_new (w : World) : Bld w.heap.size w.heap.size [] (w.alloc (.cells #[.pointer none, .slice none 0 0] 66)) := Lib.IsBuilderF.of (Lib.fresh_isBuilder 66 5 w)

/-- A block of the call's own that is no row of bytes stands where the builder is written. -/
theorem kept_block {b k : Nat} {w w' : World} {cs : Array Value} {t : TypeId} {fz : Nat × Nat} (h : Lib.OthersKept 5 (some b) w w') (hk : w.heap[k]? = some (.cells cs t fz)) (hb : k ≠ b) (ht : t ≠ 5) : w'.heap[k]? = some (.cells cs t fz) :=
  h k _ hk (by simpa using hb) (fun c f e => by injection e with _ e2 _; exact ht e2)

def codeT (c : List (Int × Int)) (fs : List Fun) : List UInt8 := c.flatMap fun x => insText x.1 x.2 fs
def funcT (f : Fun) (fs : List Fun) : List UInt8 := [102, 117, 110, 99, 32] ++ f.name.data.toList ++ numsT [f.args, f.locals] ++ [10] ++ codeT f.code fs
def headT (fuel tasks : Int) : List UInt8 := [106, 111, 98] ++ numsT [fuel, tasks] ++ [10]
def mainT (nm : List UInt8) (args : List Int) : List UInt8 := [109, 97, 105, 110, 32] ++ nm ++ numsT args ++ [10]
/-- A job's text. -/
def printT (fs : List Fun) (main : Int) (args : List Int) (fuel tasks : Int) : List UInt8 :=
  headT fuel tasks ++ mainT (((fs[main.toNat]?).map fun f => f.name.data.toList).getD []) args ++ fs.flatMap (fun f => funcT f fs) ++ [101, 110, 100, 10]
def printL (fs : List Fun) (main : Int) (args : List Int) (fuel tasks : Int) : List UInt8 := if plainL fs main args.length = true then printT fs main args fuel tasks else []

theorem itoa_21 {n : Int} (h : In64 [n]) : (Lib.itoa n).length ≤ 21 := Lib.itoa_length_le n (h n (by simp)).1 (h n (by simp)).2
theorem insText_len (op n : Int) (fs : List Fun) (hn : In64 [n]) (hc : ∀ f ∈ fs, f.name.size ≤ 1000) : (insText op n fs).length ≤ 1100 := by
  have h1 := word_len op
  have h2 := Lib.size_eq (kindOf op).word
  have h3 : (behindT op n fs).length ≤ 1001 := by
    unfold behindT
    split
    · cases hf : fs[n.toNat]? with
      | none => simp
      | some f =>
        have := hc f (List.mem_of_getElem? hf)
        have h4 := Lib.size_eq f.name
        simp
        simp at h4
        omega
    · split
      · have := itoa_21 hn
        simp; omega
      · simp
  unfold insText
  simp only [List.length_append, List.length_cons, List.length_nil]
  omega
end Go.Proofs.YtfnloomcianbiaaGreatDoor
