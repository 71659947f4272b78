/- words: the next line's words. -/
import Derived.Test.YtfnloomcianbiaaGreatDoorIns
namespace Go.Proofs.YtfnloomcianbiaaGreatDoor
open Go.RowKit Go.ChangeShapes Go.WideShapes Go.ChangeAt Go.Deep

def nl : ByteArray := ⟨#[10]⟩
def sp : ByteArray := ⟨#[32]⟩
def cutFirst (s : ByteArray) : ByteArray := ⟨(Lib.cut s.data.toList nl.data.toList).1.toArray⟩
def cutRest (s : ByteArray) : ByteArray := ⟨(Lib.cut s.data.toList nl.data.toList).2.1.toArray⟩
def cutWhole (s : ByteArray) : Bool := (Lib.cut s.data.toList nl.data.toList).2.2
def wordsOf (s : ByteArray) : List ByteArray := Lib.splitB sp 0 (Lib.countB s sp) s

theorem cut_any (s : ByteArray) (hs : s.size < 4294967281) (w : World) (hE : Env w) : Calls Tryz.prog 48 #[.string s, .string ⟨#[10]⟩] w fun e w' => e = .returned (.tuple #[.string (cutFirst s), .string (cutRest s), .bool (cutWhole s)]) ∧ Below w.heap.size w w' ∧ w'.heap = w.heap := by
  obtain ⟨m, hm⟩ := hE.mx
  exact (Tryz.strings_Cut s ⟨#[10]⟩ m w hs hm).mono fun e w' ⟨he, n, hw⟩ => ⟨he, by rw [hw]; exact ⟨rfl, rfl, rfl, Nat.le_refl _, fun _ _ => rfl⟩, by rw [hw]; rfl⟩

theorem split_any (s : ByteArray) (hs : s.size < 4294967281) (w : World) (hE : Env w) : Calls Tryz.prog 49 #[.string s, .string ⟨#[32]⟩] w fun e w' => e = .returned (.slice (some ⟨w.heap.size, 0, none⟩) (wordsOf s).length (wordsOf s).length) ∧ w' = w.alloc (.cells ((wordsOf s).map Value.string).toArray 9) := by
  obtain ⟨m, hm⟩ := hE.mx
  have hl : (wordsOf s).length = Lib.countB s sp + 1 := Lib.splitB_all sp (by decide) 0 _ s rfl
  rw [hl]
  exact Tryz.strings_Split s ⟨#[32]⟩ m w hs hm (by decide)

theorem cell_row {w : World} {b i : Nat} {cs : List Value} {t : TypeId} {v : Value} (h : w.heap[b]? = some (.cells cs.toArray t (0, 0))) (hi : cs[i]? = some v) : w.cell? ⟨b, i, none⟩ = some v := by
  simp [World.cell?, h, hi]
theorem frozen_row {w : World} {b i : Nat} {cs : List Value} {t : TypeId} (h : w.heap[b]? = some (.cells cs.toArray t (0, 0))) : w.frozen? ⟨b, i, none⟩ = false := by
  simp [World.frozen?, h]
theorem set_row {w : World} {b i : Nat} {cs : List Value} {t : TypeId} (h : w.heap[b]? = some (.cells cs.toArray t (0, 0))) (v : Value) : (w.setCell ⟨b, i, none⟩ v).heap[b]? = some (.cells (cs.set i v).toArray t (0, 0)) := by
  rw [heap_setCell_same _ b i _ t v h]
  simp
theorem lt_row {w : World} {b : Nat} {o : Obj} (h : w.heap[b]? = some o) : b < w.heap.size := (Array.getElem?_eq_some_iff.1 h).1
theorem Env.grown {w w' : World} {b : Nat} (hE : Env w) (hg : w.grownBy w' (some b)) (hb : 9 ≤ b) : Env w' :=
  hE.on (B := 9) ⟨hg.os, hg.tape, hg.output, hg.size, fun k hk => hg.block k (by have := hE.size; omega) (by simp; omega)⟩ (Nat.le_refl _)

set_option maxRecDepth 100000 in
set_option maxHeartbeats 1000000 in
theorem words_any (b : Nat) (s : ByteArray) (line : Int) (tl : List Value) (w : World) (hs : s.size < 4294967281) (hl : 0 ≤ line ∧ line ≤ 1000000000000) (h9 : 9 ≤ b) (hE : Env w) (hb : w.heap[b]? = some (.cells (.string s :: .int .i64 line :: tl).toArray 54 (0, 0))) :
    Calls Tryz.prog 30 #[.pointer (some ⟨b, 0, none⟩)] w fun e w' => e = .returned (.tuple #[.slice (some ⟨w.heap.size, 0, none⟩) (wordsOf (cutFirst s)).length (wordsOf (cutFirst s)).length, .bool (cutWhole s)]) ∧
      w'.heap[b]? = some (.cells (.string (cutRest s) :: .int .i64 (line + 1) :: tl).toArray 54 (0, 0)) ∧ w'.heap[w.heap.size]? = some (.cells ((wordsOf (cutFirst s)).map Value.string).toArray 9 (0, 0)) ∧ w.grownBy w' (some b) := by
  have C1 := cut_any s hs w hE
  have hbl := lt_row hb
  have c0 := cell_row (i := 0) hb rfl
  have hfs : (cutFirst s).size < 4294967281 := by
    have : (cutFirst s).size ≤ s.size := by
      rcases Lib.indexB_cases s nl with h | ⟨i, h, hi⟩
      · have := (Lib.cutB_miss s nl h).1
        unfold cutFirst
        rw [this]; exact Nat.le_refl _
      · have := (Lib.cutB_hit s nl i h).1
        unfold cutFirst
        rw [this, ByteArray.size_extract]; omega
    omega
  have C2 := fun w hE => split_any (cutFirst s) hfs w hE
  have hw64 : wrap64 (line + 1) = line + 1 := IntWalk.wrap64_in (line + 1) (by omega)
  generalize cutFirst s = fs at C1 C2
  generalize cutRest s = rs at C1
  generalize cutWhole s = q at C1
  generalize wordsOf fs = ws at C2
  go_enter Tryz.func30, Tryz.ntmps30
  go_wp2_with (first
    | (go_at_call 48; go_must (refine C1.mono ?_; rintro e w1 ⟨rfl, hb1, hh1⟩; rw [← hh1] at hb; have z0 := cell_row (i := 0) hb rfl; have z1 := cell_row (i := 1) hb rfl; have z2 := frozen_row (i := 0) hb; have z3 := frozen_row (i := 1) hb; have hs1 : w1.heap.size = w.heap.size := by rw [hh1]))
    | (go_at_call 49; refine Hid.out ?_))
  refine Lib.hid ?_
  have hr1 := set_row (i := 0) hb (.string rs)
  have hr2 := set_row (i := 1) hr1 (.int .i64 (line + 1))
  have hg : w.grownBy ((w1.setCell ⟨b, 0, none⟩ (.string rs)).setCell ⟨b, 1, none⟩ (.int .i64 (line + 1))) (some b) :=
    grown_trans (grown_of hb1 _) (grown_trans (grown_setCell w1 b 0 _) (grown_setCell _ b 1 _))
  have hE2 := hE.grown hg h9
  have hsz2 : ((w1.setCell ⟨b, 0, none⟩ (.string rs)).setCell ⟨b, 1, none⟩ (.int .i64 (line + 1))).heap.size = w.heap.size := by simp [World.setCell, hs1]
  generalize (w1.setCell ⟨b, 0, none⟩ (.string rs)).setCell ⟨b, 1, none⟩ (.int .i64 (line + 1)) = w2 at hr2 hg hE2 hsz2
  clear z0 z1 z2 z3 hr1 hb hb1 hh1 hs1 c0 C1
  have C3 := C2 w2 hE2
  rw [hsz2] at C3
  refine C3.mono ?_
  rintro e w3 ⟨rfl, rfl⟩
  go_wp2
  go_ret2
  refine ⟨rfl, ?_, ?_, grown_trans hg (World.grownBy_alloc w2 _ _)⟩
  · rw [Go.heap_alloc_old w2 _ (show b < w2.heap.size by omega)]
    exact hr2
  · rw [← hsz2]
    exact heap_alloc_new w2 _
end Go.Proofs.YtfnloomcianbiaaGreatDoor
