/- head. -/
import Derived.Test.YtfnloomcianbiaaGreatDoorEnd
namespace Go.Proofs.YtfnloomcianbiaaGreatDoor
open Go.RowKit Go.ChangeShapes Go.WideShapes Go.ChangeAt Go.Deep

/-- The two lines ahead of the functions: what is read, or the line at which it goes wrong. -/
def headL (st : St) : Except Int St :=
  if cutWhole st.rest = true then
    match jobL (lineOf st) with
    | none => .error st.next.line
    | some (x, y) =>
      let st2 : St := { st.next with fuel := x, tasks := y }
      if cutWhole st2.rest = true then
        match mainL (lineOf st2) with
        | none => .error st2.next.line
        | some (nm, vs) => .ok { st2.next with args := vs, uses := st2.uses ++ [⟨nm, st2.next.line, -1, 0⟩] }
      else .error st2.next.line
  else .error st.next.line

/-- What stands behind a step: the reader, or the line at which it went wrong. -/
def Stood (B b : Nat) (w : World) (r : Except Int St) (e : Ending) (w' : World) : Prop :=
  Below B w w' ∧ match r with
  | .error l => e = .returned (.bool false) ∧ w'.cell? ⟨b, 1, none⟩ = some (.int .i64 l)
  | .ok st => e = .returned (.bool true) ∧ ∃ fv av uv cs, Rd B w' b fv av uv cs st

set_option maxRecDepth 100000 in
set_option maxHeartbeats 4000000 in
theorem head_any (B b : Nat) (fv av uv : Value) (cs : List Value) (st : St) (w : World) (hs : st.rest.size ≤ 200000) (hl : 0 ≤ st.line ∧ st.line ≤ 1000) (hu : st.uses.length ≤ 1000) (hE : Env w) (hB : B ≤ w.heap.size) (hR : Rd B w b fv av uv cs st) :
    Calls Tryz.prog 20 #[.pointer (some ⟨b, 0, none⟩)] w (Stood B b w (headL st)) := by
  have C1 := words_rd B b fv av uv cs st w (by omega) (by omega) hE hB hR
  have h9 := hR.nine
  have hcl := cut_le st.rest
  clear hR
  go_enter Tryz.func20, Tryz.ntmps20
  go_wp2_with (go_at_call 30; go_must (refine C1.mono ?_; rintro e w1 ⟨g, n, rfl, hn, ⟨hn1, hn2⟩, hb1, hR1, hw1, hz1⟩; refine Hid.out ?_))
  refine Lib.hid ?_
  have hE1 := hE.on hb1 h9
  have hB1 : B ≤ w1.heap.size := Nat.le_trans hB hb1.size
  obtain ⟨_, y1, _⟩ := hR1.cells
  obtain ⟨k, rfl⟩ : ∃ k, n = k + 1 := ⟨n - 1, by omega⟩
  cases hq : cutWhole st.rest with
  | false =>
    have HH := hide (show headL st = .error st.next.line by unfold headL; rw [hq]; rfl)
    go_wp2
    go_ret
    unfold Stood
    rw [HH.out]
    exact ⟨hb1, rfl, y1⟩
  | true =>
    have C2 := takeJob_any B b fv av uv cs st.next (lineOf st) g k hn (by omega) (fun s hs' => by have := hz1 s hs'; omega) w1 hE1 hB1 hR1 (words_reads hw1)
    go_wp2_with (go_at_call 31; go_must (refine C2.mono ?_; rintro e w2 ⟨ok, rfl, hb2, hJ⟩; refine Hid.out ?_))
    refine Lib.hid ?_
    have hE2 := hE1.on hb2 h9
    have hB2 : B ≤ w2.heap.size := Nat.le_trans hB1 hb2.size
    clear C1 C2 hw1 hR1 y1
    rcases hJ with ⟨rfl, x, y, hj, hR2⟩ | ⟨rfl, hj, hR2⟩
    · have C3 := words_rd B b fv av uv cs { st.next with fuel := x, tasks := y } w2 (by show (cutRest st.rest).size < _; omega) (by show 0 ≤ st.line + 1 ∧ st.line + 1 ≤ _; omega) hE2 hB2 hR2
      clear hR2
      go_wp2_with (go_at_call 30; go_must (refine C3.mono ?_; rintro e w3 ⟨g3, n3, rfl, hn3, ⟨hn31, hn32⟩, hb3, hR3, hw3, hz3⟩; refine Hid.out ?_))
      refine Lib.hid ?_
      have hE3 := hE2.on hb3 h9
      have hB3 : B ≤ w3.heap.size := Nat.le_trans hB2 hb3.size
      have hbb : Below B w w3 := (hb1.trans hb2).trans hb3
      obtain ⟨_, y1, _⟩ := hR3.cells
      cases hq2 : cutWhole st.next.rest with
      | false =>
        have HH := hide (show headL st = .error (st.line + 1 + 1) by unfold headL; simp only [hq, hj, if_true]; show (if cutWhole st.next.rest = true then _ else _) = _; rw [hq2]; rfl)
        go_wp2
        go_ret
        unfold Stood
        rw [HH.out]
        exact ⟨hbb, rfl, y1⟩
      | true =>
        have hn33 : n3 ≤ (cutRest st.rest).size + 1 := hn32
        have hz33 : ∀ s ∈ lineOf { st.next with fuel := x, tasks := y }, s.size ≤ (cutRest st.rest).size := hz3
        have C4 := takeMain_any B b fv av uv cs _ (lineOf { st.next with fuel := x, tasks := y }) g3 n3 hn3 (by omega) (by show st.uses.length ≤ _; omega) (fun s hs' => by have := hz33 s hs'; omega) w3 hE3 hB3 hR3 hw3
        go_wp2_with (go_at_call 32; go_must (refine C4.mono ?_; rintro e w4 ⟨ok, rfl, hb4, hM⟩; refine Hid.out ?_))
        refine Lib.hid ?_
        rcases hM with ⟨rfl, nm, vs, av', uv', hm, hR4⟩ | ⟨rfl, hm, hb4'⟩
        · have HH := hide (show headL st = .ok _ by unfold headL; simp only [hq, hj, if_true]; show (if cutWhole st.next.rest = true then _ else _) = _; rw [hq2, if_pos rfl, hm])
          go_wp2
          go_ret
          unfold Stood
          rw [HH.out]
          exact ⟨hbb.trans hb4, rfl, _, _, _, _, hR4⟩
        · have HH := hide (show headL st = .error (st.line + 1 + 1) by unfold headL; simp only [hq, hj, if_true]; show (if cutWhole st.next.rest = true then _ else _) = _; rw [hq2, if_pos rfl, hm]; rfl)
          have y4 := keep_cell y1 hb4'
          go_wp2
          go_ret
          unfold Stood
          rw [HH.out]
          exact ⟨hbb.trans hb4, rfl, y4⟩
    · have HH := hide (show headL st = .error st.next.line by unfold headL; rw [hq]; simp only [hj, if_true])
      obtain ⟨_, y1, _⟩ := hR2.cells
      go_wp2
      go_ret
      unfold Stood
      rw [HH.out]
      exact ⟨hb1.trans hb2, rfl, y1⟩
end Go.Proofs.YtfnloomcianbiaaGreatDoor
