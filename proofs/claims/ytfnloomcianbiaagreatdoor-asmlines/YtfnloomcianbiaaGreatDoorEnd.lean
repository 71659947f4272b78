/- atEnd, head. -/
import Derived.Test.YtfnloomcianbiaaGreatDoorTakeM
namespace Go.Proofs.YtfnloomcianbiaaGreatDoor
open Go.RowKit Go.ChangeShapes Go.WideShapes Go.ChangeAt Go.Deep

def EndPost (B b : Nat) (fv av uv : Value) (cs : List Value) (st : St) (w : World) (e : Ending) (w' : World) : Prop :=
  e = .returned (.bool st.rest.toList.isEmpty) ∧ Below B w w' ∧ Rd B w' b fv av uv cs (if st.rest.toList.isEmpty = true then st else { st with line := st.line + 1 })

set_option maxRecDepth 100000 in
set_option maxHeartbeats 1000000 in
theorem atEnd_any (B b : Nat) (fv av uv : Value) (cs : List Value) (st : St) (w : World) (hl : 0 ≤ st.line ∧ st.line ≤ 1000000000000) (hB : B ≤ w.heap.size) (hR : Rd B w b fv av uv cs st) :
    Calls Tryz.prog 33 #[.pointer (some ⟨b, 0, none⟩)] w (EndPost B b fv av uv cs st w) := by
  obtain ⟨y0, y1, _, _, _, _, _, _⟩ := hR.cells
  have f1 := hR.unfrozen 1
  have hw64 : wrap64 (st.line + 1) = st.line + 1 := IntWalk.wrap64_in (st.line + 1) (by omega)
  cases hq : st.rest.toList.isEmpty with
  | true =>
    go_enter Tryz.func33, Tryz.ntmps33
    go_wp2
    go_ret
    unfold EndPost
    rw [hq]
    exact ⟨rfl, Below.refl _ _, by simpa using hR⟩
  | false =>
    have hg := grown_setCell w b 1 (.int .i64 (st.line + 1))
    have hr := set_row (i := 1) hR.self (.int .i64 (st.line + 1))
    have HR := hide (hR.turn hg hr)
    have HB := hide (hR.below hg hB)
    clear hg hr
    go_enter Tryz.func33, Tryz.ntmps33
    go_wp2
    go_ret
    unfold EndPost
    rw [hq]
    exact ⟨rfl, HB.out, by simpa using HR.out⟩

/-- The reader's place behind a line. -/
def St.next (st : St) : St := { st with rest := cutRest st.rest, line := st.line + 1 }
def lineOf (st : St) : List ByteArray := wordsOf (cutFirst st.rest)

theorem cut_le (s : ByteArray) : (cutFirst s).size ≤ s.size ∧ (cutRest s).size ≤ s.size := by
  rcases Lib.indexB_cases s nl with h | ⟨i, h, hi⟩
  · have h1 := (Lib.cutB_miss s nl h).1
    have h2 := (Lib.cutB_miss s nl h).2.1
    unfold cutFirst cutRest
    rw [h1, h2]; exact ⟨Nat.le_refl _, by simp⟩
  · have h1 := (Lib.cutB_hit s nl i h).1
    have h2 := (Lib.cutB_hit s nl i h).2.1
    unfold cutFirst cutRest
    rw [h1, h2, ByteArray.size_extract, ByteArray.size_extract]; omega

theorem words_size (s : ByteArray) : ∀ (k : Nat) (x : ByteArray), ∀ y ∈ Lib.splitB sp 0 k x, x.size ≤ s.size → y.size ≤ s.size
  | 0, x, y, hy, hx => by
    simp only [Lib.splitB, List.mem_singleton] at hy
    rw [hy]; exact hx
  | k + 1, x, y, hy, hx => by
    unfold Lib.splitB at hy
    split at hy
    · simp only [List.mem_singleton] at hy
      rw [hy]; exact hx
    · rcases List.mem_cons.1 hy with h | h
      · rw [h, ByteArray.size_extract]; omega
      · exact words_size s k _ y h (by rw [ByteArray.size_extract]; omega)

/-- words at the reader. -/
def WordsPost (B b : Nat) (fv av uv : Value) (cs : List Value) (st : St) (w : World) (e : Ending) (w' : World) : Prop :=
  ∃ g n, e = .returned (.tuple #[.slice (some ⟨g, 0, none⟩) n n, .bool (cutWhole st.rest)]) ∧ (lineOf st).length = n ∧ (1 ≤ n ∧ n ≤ st.rest.size + 1) ∧ Below B w w' ∧ Rd B w' b fv av uv cs st.next ∧ w'.heap[g]? = some (.cells ((lineOf st).map Value.string).toArray 9 (0, 0)) ∧ ∀ s ∈ lineOf st, s.size ≤ st.rest.size

theorem words_rd (B b : Nat) (fv av uv : Value) (cs : List Value) (st : St) (w : World) (hs : st.rest.size < 4294967281) (hl : 0 ≤ st.line ∧ st.line ≤ 1000000000000) (hE : Env w) (hB : B ≤ w.heap.size) (hR : Rd B w b fv av uv cs st) :
    Calls Tryz.prog 30 #[.pointer (some ⟨b, 0, none⟩)] w (WordsPost B b fv av uv cs st w) := by
  refine (words_any b st.rest st.line _ w hs hl (Nat.le_trans hR.nine hR.le) hE hR.self).mono ?_
  rintro e w' ⟨rfl, h1, h2, hg⟩
  refine ⟨w.heap.size, _, rfl, rfl, ?_, hR.below hg hB, hR.turn hg h1, h2, fun s hs' => ?_⟩
  · have := Lib.splitB_all sp (by decide) 0 _ (cutFirst st.rest) rfl
    have h2 := Lib.countB_le sp (by decide) _ (cutFirst st.rest) (Nat.le_refl _)
    have h3 := (cut_le st.rest).1
    show 1 ≤ (Lib.splitB sp 0 (Lib.countB (cutFirst st.rest) sp) (cutFirst st.rest)).length ∧ (Lib.splitB sp 0 (Lib.countB (cutFirst st.rest) sp) (cutFirst st.rest)).length ≤ st.rest.size + 1
    omega
  · exact Nat.le_trans (words_size (cutFirst st.rest) _ _ s hs' (Nat.le_refl _)) (cut_le st.rest).1
end Go.Proofs.YtfnloomcianbiaaGreatDoor
