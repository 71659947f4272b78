/- words: the next line's words. -/
import Derived.Test.YtfnloomcianbiaaGreatDoorIns
namespace Go.Proofs.YtfnloomcianbiaaGreatDoor
open Go.RowKit Go.ChangeShapes Go.WideShapes Go.ChangeAt Go.Deep

def nl : ByteArray := ⟨#[10]⟩
def sp : ByteArray := ⟨#[32]⟩
def cutFirst (s : ByteArray) : ByteArray := ⟨(Lib.cut s.data.toList nl.data.toList).1.toArray⟩
def cutRest (s : ByteArray) : ByteArray := ⟨(Lib.cut s.data.toList nl.data.toList).2.1.toArray⟩
def cutWhole (s : ByteArray) : Bool := (Lib.cut s.data.toList nl.data.toList).2.2
def wordsOf (s : ByteArray) : List ByteArray := Lib.splitB sp 0 (Lib.countB s sp) s

theorem cut_any (s : ByteArray) (hs : s.size < 4294967281) (w : World) (hE : Env w) : Calls Tryz.prog 48 #[.string s, .string ⟨#[10]⟩] w fun e w' => e = .returned (.tuple #[.string (cutFirst s), .string (cutRest s), .bool (cutWhole s)]) ∧ Below w.heap.size w w' ∧ w'.heap = w.heap := by
  obtain ⟨m, hm⟩ := hE.mx
  exact (Tryz.strings_Cut s ⟨#[10]⟩ m w hs hm).mono fun e w' ⟨he, n, hw⟩ => ⟨he, by rw [hw]; exact ⟨rfl, rfl, rfl, Nat.le_refl _, fun _ _ => rfl⟩, by rw [hw]; rfl⟩

theorem split_any (s : ByteArray) (hs : s.size < 4294967281) (w : World) (hE : Env w) : Calls Tryz.prog 49 #[.string s, .string ⟨#[32]⟩] w fun e w' => e = .returned (.slice (some ⟨w.heap.size, 0, none⟩) (wordsOf s).length (wordsOf s).length) ∧ w' = w.alloc (.cells ((wordsOf s).map Value.string).toArray 9) := by
  obtain ⟨m, hm⟩ := hE.mx
  have hl : (wordsOf s).length = Lib.countB s sp + 1 := Lib.splitB_all sp (by decide) 0 _ s rfl
  rw [hl]
  exact Tryz.strings_Split s ⟨#[32]⟩ m w hs hm (by decide)

theorem cell_row {w : World} {b i : Nat} {cs : List Value} {t : TypeId} {v : Value} (h : w.heap[b]? = some (.cells cs.toArray t (0, 0))) (hi : cs[i]? = some v) : w.cell? ⟨b, i, none⟩ = some v := by
  simp [World.cell?, h, hi]
theorem frozen_row {w : World} {b i : Nat} {cs : List Value} {t : TypeId} (h : w.heap[b]? = some (.cells cs.toArray t (0, 0))) : w.frozen? ⟨b, i, none⟩ = false := by
  simp [World.frozen?, h]
theorem set_row {w : World} {b i : Nat} {cs : List Value} {t : TypeId} (h : w.heap[b]? = some (.cells cs.toArray t (0, 0))) (v : Value) : (w.setCell ⟨b, i, none⟩ v).heap[b]? = some (.cells (cs.set i v).toArray t (0, 0)) := by
  rw [heap_setCell_same _ b i _ t v h]
  simp
theorem lt_row {w : World} {b : Nat} {o : Obj} (h : w.heap[b]? = some o) : b < w.heap.size := (Array.getElem?_eq_some_iff.1 h).1
theorem Env.grown {w w' : World} {b : Nat} (hE : Env w) (hg : w.grownBy w' (some b)) (hb : 9 ≤ b) : Env w' :=
  hE.on (B := 9) ⟨hg.os, hg.tape, hg.output, hg.size, fun k hk => hg.block k (by have := hE.size; omega) (by simp; omega)⟩ (Nat.le_refl _)

set_option maxRecDepth 100000 in
set_option maxHeartbeats 1000000 in
theorem words_any (b : Nat) (s : ByteArray) (line : Int) (tl : List Value) (w : World) (hs : s.size < 4294967281) (hl : 0 ≤ line ∧ line ≤ 1000000000000) (h9 : 9 ≤ b) (hE : Env w) (hb : w.heap[b]? = some (.cells (.string s :: .int .i64 line :: tl).toArray 54 (0, 0))) :
    Calls Tryz.prog 30 #[.pointer (some ⟨b, 0, none⟩)] w fun e w' => e = .returned (.tuple #[.slice (some ⟨w.heap.size, 0, none⟩) (wordsOf (cutFirst s)).length (wordsOf (cutFirst s)).length, .bool (cutWhole s)]) ∧
      w'.heap[b]? = some (.cells (.string (cutRest s) :: .int .i64 (line + 1) :: tl).toArray 54 (0, 0)) ∧ w'.heap[w.heap.size]? = some (.cells ((wordsOf (cutFirst s)).map Value.string).toArray 9 (0, 0)) ∧ w.grownBy w' (some b) := by
  have C1 := cut_any s hs w hE
  have hbl := lt_row hb
  have c0 := cell_row (i := 0) hb rfl
  have hfs : (cutFirst s).size < 4294967281 := by
    have : (cutFirst s).size ≤ s.size := by
      rcases Lib.indexB_cases s nl with h | ⟨i, h, hi⟩
      · have := (Lib.cutB_miss s nl h).1
        unfold cutFirst
        rw [this]; exact Nat.le_refl _
      · have := (Lib.cutB_hit s nl i h).1
        unfold cutFirst
        rw [this, ByteArray.size_extract]; omega
    omega
  have C2 := fun w hE => split_any (cutFirst s) hfs w hE
  have hw64 : wrap64 (line + 1) = line + 1 := IntWalk.wrap64_in (line + 1) (by omega)
  generalize cutFirst s = fs at C1 C2
  generalize cutRest s = rs at C1
  generalize cutWhole s = q at C1
  generalize wordsOf fs = ws at C2
  go_enter Tryz.func30, Tryz.ntmps30
  go_wp2_with (first
    | (go_at_call 48; go_must (refine C1.mono ?_; rintro e w1 ⟨rfl, hb1, hh1⟩; rw [← hh1] at hb; have z0 := cell_row (i := 0) hb rfl; have z1 := cell_row (i := 1) hb rfl; have z2 := frozen_row (i := 0) hb; have z3 := frozen_row (i := 1) hb; have hs1 : w1.heap.size = w.heap.size := by rw [hh1]))
    | (go_at_call 49; refine Hid.out ?_))
  refine Lib.hid ?_
  have hr1 := set_row (i := 0) hb (.string rs)
  have hr2 := set_row (i := 1) hr1 (.int .i64 (line + 1))
  have hg : w.grownBy ((w1.setCell ⟨b, 0, none⟩ (.string rs)).setCell ⟨b, 1, none⟩ (.int .i64 (line + 1))) (some b) :=
    grown_trans (grown_of hb1 _) (grown_trans (grown_setCell w1 b 0 _) (grown_setCell _ b 1 _))
  have hE2 := hE.grown hg h9
  have hsz2 : ((w1.setCell ⟨b, 0, none⟩ (.string rs)).setCell ⟨b, 1, none⟩ (.int .i64 (line + 1))).heap.size = w.heap.size := by simp [World.setCell, hs1]
  generalize (w1.setCell ⟨b, 0, none⟩ (.string rs)).setCell ⟨b, 1, none⟩ (.int .i64 (line + 1)) = w2 at hr2 hg hE2 hsz2
  clear z0 z1 z2 z3 hr1 hb hb1 hh1 hs1 c0 C1
  have C3 := C2 w2 hE2
  rw [hsz2] at C3
  refine C3.mono ?_
  rintro e w3 ⟨rfl, rfl⟩
  go_wp2
  go_ret2
  refine ⟨rfl, ?_, ?_, grown_trans hg (World.grownBy_alloc w2 _ _)⟩
  · rw [Go.heap_alloc_old w2 _ (show b < w2.heap.size by omega)]
    exact hr2
  · rw [← hsz2]
    exact heap_alloc_new w2 _
end Go.Proofs.YtfnloomcianbiaaGreatDoor
/- The reader in memory. -/

namespace Go.Proofs.YtfnloomcianbiaaGreatDoor
open Go.RowKit Go.ChangeShapes Go.WideShapes Go.ChangeAt Go.Deep

structure Fun where
  name : ByteArray
  args : Int
  locals : Int
  code : List (Int × Int)
structure Use where
  name : ByteArray
  line : Int
  i : Int
  k : Int
/-- What a reader has put together. -/
structure St where
  rest : ByteArray
  line : Int
  funcs : List Fun
  main : Int
  args : List Int
  fuel : Int
  tasks : Int
  uses : List Use

def Fun.row (f : Fun) (c : Value) : FR := ⟨f.name, f.args, f.locals, c⟩
def frs (fs : List Fun) (cs : List Value) : List FR := List.zipWith Fun.row fs cs
def funV (fs : List FR) : List Value := fs.flatMap FR.enc
def insV (c : List (Int × Int)) : List Value := c.flatMap fun x => [.int .i64 x.1, .int .i64 x.2]
def Use.enc (u : Use) : List Value := [.string u.name, .int .i64 u.line, .int .i64 u.i, .int .i64 u.k]
def useV (us : List Use) : List Value := us.flatMap Use.enc

/-- x's row was made ahead of y's. -/
def Apart (x y : Value) : Prop := ∀ p q, x.ownBlock = some p → y.ownBlock = some q → p < q
theorem Apart.ne {x y : Value} (h : Apart x y) : x.ownBlock = none ∨ x.ownBlock ≠ y.ownBlock := by
  cases hx : x.ownBlock with
  | none => exact .inl rfl
  | some p => exact .inr (fun e => Nat.lt_irrefl _ (h p p hx e.symm))

/-- The reader lies in block b, its rows are its own. -/
structure Rd (B : Nat) (w : World) (b : Nat) (fv av uv : Value) (cs : List Value) (st : St) : Prop where
  nine : 9 ≤ B
  le : B ≤ b
  self : w.heap[b]? = some (.cells [.string st.rest, .int .i64 st.line, fv, .int .i64 st.main, av, .int .i64 st.fuel, .int .i64 st.tasks, uv].toArray 54 (0, 0))
  len : cs.length = st.funcs.length
  fns : w.ownsRow B 45 4 fv st.funcs.length (funV (frs st.funcs cs))
  codes : ∀ i (h : i < cs.length) (h' : i < st.funcs.length), w.ownsRow B 42 2 cs[i] st.funcs[i].code.length (insV st.funcs[i].code)
  apart : cs.Pairwise Apart
  args : w.ownsRow B 3 1 av st.args.length (iV st.args)
  uses : w.ownsRow B 78 4 uv st.uses.length (useV st.uses)

theorem own_tag {w : World} {B e k n g : Nat} {v : Value} {xs : List Value} (h : w.ownsRow B e k v n xs) (hg : v.ownBlock = some g) : ∃ cur, w.heap[g]? = some (.cells cur e (0, 0)) := by
  rcases h.2 with ⟨rfl, _⟩ | ⟨g', cap, cur, rfl, _, hh, _⟩
  · cases hg
  · cases hg
    exact ⟨cur, hh⟩

/-- A row stays where another block is turned that bears another type. -/
theorem own_far {w w' : World} {B e k n g : Nat} {v : Value} {xs : List Value} (h : w.ownsRow B e k v n xs) (hg : w.grownBy w' (some g)) (hne : ∀ cur, w.heap[g]? ≠ some (.cells cur e (0, 0))) : w'.ownsRow B e k v n xs := by
  refine h.kept hg ?_
  cases hv : v.ownBlock with
  | none => exact .inl rfl
  | some q =>
    refine .inr (fun hq => ?_)
    obtain ⟨cur, hc⟩ := own_tag h hv
    cases hq
    exact hne cur hc
theorem own_far' {w w' : World} {B e k n : Nat} {r : Option Nat} {v : Value} {xs : List Value} (h : w.ownsRow B e k v n xs) (hg : w.grownBy w' r) (hne : ∀ g, r = some g → ∀ cur, w.heap[g]? ≠ some (.cells cur e (0, 0))) : w'.ownsRow B e k v n xs := by
  cases r with
  | none => exact h.kept hg (by cases v.ownBlock <;> simp)
  | some g => exact own_far h hg (hne g rfl)
/-- .. where the block that turned is another row. -/
theorem own_apart {w w' : World} {B B' e k n e' k' n' : Nat} {v v' : Value} {xs xs' : List Value} (h : w.ownsRow B e k v n xs) (h' : w.ownsRow B' e' k' v' n' xs') (hne : e ≠ e') (hg : w.grownBy w' v'.ownBlock) : w'.ownsRow B e k v n xs :=
  own_far' h hg fun g hq cur hc => by
    obtain ⟨cur', hc'⟩ := own_tag h' hq
    rw [hc] at hc'
    injection hc' with e1
    injection e1 with _ e2 _
    exact hne e2

theorem Rd.keep {B : Nat} {w w' : World} {b : Nat} {fv av uv : Value} {cs : List Value} {st : St} (h : Rd B w b fv av uv cs st) (hb : Below w.heap.size w w') : Rd B w' b fv av uv cs st :=
  ⟨h.nine, h.le, by rw [hb.block b (lt_row h.self)]; exact h.self, h.len, own_keep h.fns hb, fun i hi hi' => own_keep (h.codes i hi hi') hb, h.apart, own_keep h.args hb, own_keep h.uses hb⟩

/-- The reader's own cells turn. -/
theorem Rd.turn {B : Nat} {w w' : World} {b : Nat} {fv av uv : Value} {cs : List Value} {st : St} (h : Rd B w b fv av uv cs st) (hg : w.grownBy w' (some b)) {rest : ByteArray} {line main fuel tasks : Int}
    (hs : w'.heap[b]? = some (.cells [.string rest, .int .i64 line, fv, .int .i64 main, av, .int .i64 fuel, .int .i64 tasks, uv].toArray 54 (0, 0))) :
    Rd B w' b fv av uv cs { st with rest := rest, line := line, main := main, fuel := fuel, tasks := tasks } := by
  have hne : ∀ e, e ≠ 54 → ∀ cur, w.heap[b]? ≠ some (.cells cur e (0, 0)) := fun e he cur hc => by
    rw [h.self] at hc
    injection hc with e1
    injection e1 with _ e2 _
    exact he e2.symm
  exact ⟨h.nine, h.le, hs, h.len, own_far h.fns hg (hne 45 (by decide)), fun i hi hi' => own_far (h.codes i hi hi') hg (hne 42 (by decide)), h.apart, own_far h.args hg (hne 3 (by decide)), own_far h.uses hg (hne 78 (by decide))⟩

theorem Rd.below {B : Nat} {w w' : World} {b : Nat} {fv av uv : Value} {cs : List Value} {st : St} (h : Rd B w b fv av uv cs st) (hg : w.grownBy w' (some b)) (hB : B ≤ w.heap.size) : Below B w w' :=
  (Below.refl _ _).grown hg hB (fun k hk => by cases hk; exact h.le)

theorem Rd.env {B : Nat} {w w' : World} {b : Nat} {fv av uv : Value} {cs : List Value} {st : St} (h : Rd B w b fv av uv cs st) (hE : Env w) (hb : Below B w w') : Env w' := hE.on hb h.nine
end Go.Proofs.YtfnloomcianbiaaGreatDoor
