/- atEnd, head. -/
import Derived.Test.YtfnloomcianbiaaGreatDoorTakeM
import Derived.Test.YtfnloomcianbiaaGreatDoorTakeF
import Derived.Deep.Cut
namespace Go.Proofs.YtfnloomcianbiaaGreatDoor
open Go.RowKit Go.ChangeShapes Go.WideShapes Go.ChangeAt Go.Deep

def EndPost (B b : Nat) (fv av uv : Value) (cs : List Value) (st : St) (w : World) (e : Ending) (w' : World) : Prop :=
  e = .returned (.bool st.rest.toList.isEmpty) ∧ Below B w w' ∧ Rd B w' b fv av uv cs (if st.rest.toList.isEmpty = true then st else { st with line := st.line + 1 })

set_option maxRecDepth 100000 in
set_option maxHeartbeats 1000000 in
theorem atEnd_any (B b : Nat) (fv av uv : Value) (cs : List Value) (st : St) (w : World) (hl : 0 ≤ st.line ∧ st.line ≤ 1000000000000) (hB : B ≤ w.heap.size) (hR : Rd B w b fv av uv cs st) :
    Calls Tryz.prog 33 #[.pointer (some ⟨b, 0, none⟩)] w (EndPost B b fv av uv cs st w) := by
  obtain ⟨y0, y1, _, _, _, _, _, _⟩ := hR.cells
  have f1 := hR.unfrozen 1
  have hw64 : wrap64 (st.line + 1) = st.line + 1 := IntWalk.wrap64_in (st.line + 1) (by omega)
  cases hq : st.rest.toList.isEmpty with
  | true =>
    go_enter Tryz.func33, Tryz.ntmps33
    go_wp2
    go_ret
    unfold EndPost
    rw [hq]
    exact ⟨rfl, Below.refl _ _, by simpa using hR⟩
  | false =>
    have hg := grown_setCell w b 1 (.int .i64 (st.line + 1))
    have hr := set_row (i := 1) hR.self (.int .i64 (st.line + 1))
    have HR := hide (hR.turn hg hr)
    have HB := hide (hR.below hg hB)
    clear hg hr
    go_enter Tryz.func33, Tryz.ntmps33
    go_wp2
    go_ret
    unfold EndPost
    rw [hq]
    exact ⟨rfl, HB.out, by simpa using HR.out⟩

/-- The reader's place behind a line. -/
def St.next (st : St) : St := { st with rest := cutRest st.rest, line := st.line + 1 }
def lineOf (st : St) : List ByteArray := wordsOf (cutFirst st.rest)

theorem cut_le (s : ByteArray) : (cutFirst s).size ≤ s.size ∧ (cutRest s).size ≤ s.size := by
  rcases Lib.indexB_cases s nl with h | ⟨i, h, hi⟩
  · have h1 := (Lib.cutB_miss s nl h).1
    have h2 := (Lib.cutB_miss s nl h).2.1
    unfold cutFirst cutRest
    rw [h1, h2]; exact ⟨Nat.le_refl _, by simp⟩
  · have h1 := (Lib.cutB_hit s nl i h).1
    have h2 := (Lib.cutB_hit s nl i h).2.1
    unfold cutFirst cutRest
    rw [h1, h2, ByteArray.size_extract, ByteArray.size_extract]; omega

theorem words_size (s : ByteArray) : ∀ (k : Nat) (x : ByteArray), ∀ y ∈ Lib.splitB sp 0 k x, x.size ≤ s.size → y.size ≤ s.size
  | 0, x, y, hy, hx => by
    simp only [Lib.splitB, List.mem_singleton] at hy
    rw [hy]; exact hx
  | k + 1, x, y, hy, hx => by
    unfold Lib.splitB at hy
    split at hy
    · simp only [List.mem_singleton] at hy
      rw [hy]; exact hx
    · rcases List.mem_cons.1 hy with h | h
      · rw [h, ByteArray.size_extract]; omega
      · exact words_size s k _ y h (by rw [ByteArray.size_extract]; omega)

/-- words at the reader. -/
def WordsPost (B b : Nat) (fv av uv : Value) (cs : List Value) (st : St) (w : World) (e : Ending) (w' : World) : Prop :=
  ∃ g n, e = .returned (.tuple #[.slice (some ⟨g, 0, none⟩) n n, .bool (cutWhole st.rest)]) ∧ (lineOf st).length = n ∧ (1 ≤ n ∧ n ≤ st.rest.size + 1) ∧ Below B w w' ∧ Rd B w' b fv av uv cs st.next ∧ w'.heap[g]? = some (.cells ((lineOf st).map Value.string).toArray 9 (0, 0)) ∧ ∀ s ∈ lineOf st, s.size ≤ st.rest.size

theorem words_rd (B b : Nat) (fv av uv : Value) (cs : List Value) (st : St) (w : World) (hs : st.rest.size < 4294967281) (hl : 0 ≤ st.line ∧ st.line ≤ 1000000000000) (hE : Env w) (hB : B ≤ w.heap.size) (hR : Rd B w b fv av uv cs st) :
    Calls Tryz.prog 30 #[.pointer (some ⟨b, 0, none⟩)] w (WordsPost B b fv av uv cs st w) := by
  refine (words_any b st.rest st.line _ w hs hl (Nat.le_trans hR.nine hR.le) hE hR.self).mono ?_
  rintro e w' ⟨rfl, h1, h2, hg⟩
  refine ⟨w.heap.size, _, rfl, rfl, ?_, hR.below hg hB, hR.turn hg h1, h2, fun s hs' => ?_⟩
  · have := Lib.splitB_all sp (by decide) 0 _ (cutFirst st.rest) rfl
    have h2 := Lib.countB_le sp (by decide) _ (cutFirst st.rest) (Nat.le_refl _)
    have h3 := (cut_le st.rest).1
    show 1 ≤ (Lib.splitB sp 0 (Lib.countB (cutFirst st.rest) sp) (cutFirst st.rest)).length ∧ (Lib.splitB sp 0 (Lib.countB (cutFirst st.rest) sp) (cutFirst st.rest)).length ≤ st.rest.size + 1
    omega
  · exact Nat.le_trans (words_size (cutFirst st.rest) _ _ s hs' (Nat.le_refl _)) (cut_le st.rest).1
end Go.Proofs.YtfnloomcianbiaaGreatDoor
/- head. -/

namespace Go.Proofs.YtfnloomcianbiaaGreatDoor
open Go.RowKit Go.ChangeShapes Go.WideShapes Go.ChangeAt Go.Deep

/-- The two lines ahead of the functions: what is read, or the line at which it goes wrong. -/
def headL (st : St) : Except Int St :=
  if cutWhole st.rest = true then
    match jobL (lineOf st) with
    | none => .error st.next.line
    | some (x, y) =>
      let st2 : St := { st.next with fuel := x, tasks := y }
      if cutWhole st2.rest = true then
        match mainL (lineOf st2) with
        | none => .error st2.next.line
        | some (nm, vs) => .ok { st2.next with args := vs, uses := st2.uses ++ [⟨nm, st2.next.line, -1, 0⟩] }
      else .error st2.next.line
  else .error st.next.line

/-- What stands behind a step: the reader, or the line at which it went wrong. -/
def Stood (B b : Nat) (w : World) (r : Except Int St) (e : Ending) (w' : World) : Prop :=
  Below B w w' ∧ match r with
  | .error l => e = .returned (.bool false) ∧ w'.cell? ⟨b, 1, none⟩ = some (.int .i64 l)
  | .ok st => e = .returned (.bool true) ∧ ∃ fv av uv cs, Rd B w' b fv av uv cs st

set_option maxRecDepth 100000 in
set_option maxHeartbeats 4000000 in
theorem head_any (B b : Nat) (fv av uv : Value) (cs : List Value) (st : St) (w : World) (hs : st.rest.size ≤ 200000) (hl : 0 ≤ st.line ∧ st.line ≤ 1000) (hu : st.uses.length ≤ 1000) (hE : Env w) (hB : B ≤ w.heap.size) (hR : Rd B w b fv av uv cs st) :
    Calls Tryz.prog 20 #[.pointer (some ⟨b, 0, none⟩)] w (Stood B b w (headL st)) := by
  have C1 := words_rd B b fv av uv cs st w (by omega) (by omega) hE hB hR
  have h9 := hR.nine
  have hcl := cut_le st.rest
  clear hR
  go_enter Tryz.func20, Tryz.ntmps20
  go_wp2_with (go_at_call 30; go_must (refine C1.mono ?_; rintro e w1 ⟨g, n, rfl, hn, ⟨hn1, hn2⟩, hb1, hR1, hw1, hz1⟩; refine Hid.out ?_))
  refine Lib.hid ?_
  have hE1 := hE.on hb1 h9
  have hB1 : B ≤ w1.heap.size := Nat.le_trans hB hb1.size
  obtain ⟨_, y1, _⟩ := hR1.cells
  obtain ⟨k, rfl⟩ : ∃ k, n = k + 1 := ⟨n - 1, by omega⟩
  cases hq : cutWhole st.rest with
  | false =>
    have HH := hide (show headL st = .error st.next.line by unfold headL; rw [hq]; rfl)
    go_wp2
    go_ret
    unfold Stood
    rw [HH.out]
    exact ⟨hb1, rfl, y1⟩
  | true =>
    have C2 := takeJob_any B b fv av uv cs st.next (lineOf st) g k hn (by omega) (fun s hs' => by have := hz1 s hs'; omega) w1 hE1 hB1 hR1 (words_reads hw1)
    go_wp2_with (go_at_call 31; go_must (refine C2.mono ?_; rintro e w2 ⟨ok, rfl, hb2, hJ⟩; refine Hid.out ?_))
    refine Lib.hid ?_
    have hE2 := hE1.on hb2 h9
    have hB2 : B ≤ w2.heap.size := Nat.le_trans hB1 hb2.size
    clear C1 C2 hw1 hR1 y1
    rcases hJ with ⟨rfl, x, y, hj, hR2⟩ | ⟨rfl, hj, hR2⟩
    · have C3 := words_rd B b fv av uv cs { st.next with fuel := x, tasks := y } w2 (by show (cutRest st.rest).size < _; omega) (by show 0 ≤ st.line + 1 ∧ st.line + 1 ≤ _; omega) hE2 hB2 hR2
      clear hR2
      go_wp2_with (go_at_call 30; go_must (refine C3.mono ?_; rintro e w3 ⟨g3, n3, rfl, hn3, ⟨hn31, hn32⟩, hb3, hR3, hw3, hz3⟩; refine Hid.out ?_))
      refine Lib.hid ?_
      have hE3 := hE2.on hb3 h9
      have hB3 : B ≤ w3.heap.size := Nat.le_trans hB2 hb3.size
      have hbb : Below B w w3 := (hb1.trans hb2).trans hb3
      obtain ⟨_, y1, _⟩ := hR3.cells
      cases hq2 : cutWhole st.next.rest with
      | false =>
        have HH := hide (show headL st = .error (st.line + 1 + 1) by unfold headL; simp only [hq, hj, if_true]; show (if cutWhole st.next.rest = true then _ else _) = _; rw [hq2]; rfl)
        go_wp2
        go_ret
        unfold Stood
        rw [HH.out]
        exact ⟨hbb, rfl, y1⟩
      | true =>
        have hn33 : n3 ≤ (cutRest st.rest).size + 1 := hn32
        have hz33 : ∀ s ∈ lineOf { st.next with fuel := x, tasks := y }, s.size ≤ (cutRest st.rest).size := hz3
        have C4 := takeMain_any B b fv av uv cs _ (lineOf { st.next with fuel := x, tasks := y }) g3 n3 hn3 (by omega) (by show st.uses.length ≤ _; omega) (fun s hs' => by have := hz33 s hs'; omega) w3 hE3 hB3 hR3 hw3
        go_wp2_with (go_at_call 32; go_must (refine C4.mono ?_; rintro e w4 ⟨ok, rfl, hb4, hM⟩; refine Hid.out ?_))
        refine Lib.hid ?_
        rcases hM with ⟨rfl, nm, vs, av', uv', hm, hR4⟩ | ⟨rfl, hm, hb4'⟩
        · have HH := hide (show headL st = .ok _ by unfold headL; simp only [hq, hj, if_true]; show (if cutWhole st.next.rest = true then _ else _) = _; rw [hq2, if_pos rfl, hm])
          go_wp2
          go_ret
          unfold Stood
          rw [HH.out]
          exact ⟨hbb.trans hb4, rfl, _, _, _, _, hR4⟩
        · have HH := hide (show headL st = .error (st.line + 1 + 1) by unfold headL; simp only [hq, hj, if_true]; show (if cutWhole st.next.rest = true then _ else _) = _; rw [hq2, if_pos rfl, hm]; rfl)
          have y4 := keep_cell y1 hb4'
          go_wp2
          go_ret
          unfold Stood
          rw [HH.out]
          exact ⟨hbb.trans hb4, rfl, y4⟩
    · have HH := hide (show headL st = .error st.next.line by unfold headL; rw [hq]; simp only [hj, if_true])
      obtain ⟨_, y1, _⟩ := hR2.cells
      go_wp2
      go_ret
      unfold Stood
      rw [HH.out]
      exact ⟨hb1.trans hb2, rfl, y1⟩
end Go.Proofs.YtfnloomcianbiaaGreatDoor
/- takeIns. -/

namespace Go.Proofs.YtfnloomcianbiaaGreatDoor
open Go.RowKit Go.ChangeShapes Go.WideShapes Go.ChangeAt Go.Deep

/-- An instruction's line: the instruction, and a spawn's name. -/
def insLineL (ws : List ByteArray) : Option ((Int × Int) × ByteArray) :=
  match ws with
  | a :: b :: c :: r => if a.toList.isEmpty && b.toList.isEmpty then (insL c r).map fun x => (x, r.headD ⟨#[]⟩) else none
  | _ => none

def St.add (st : St) (fs : List Fun) (f : Fun) (x : (Int × Int) × ByteArray) : St :=
  { st with funcs := fs ++ [{ f with code := f.code ++ [x.1] }], uses := if x.1.1 = 16 then st.uses ++ [⟨x.2, st.line, (fs.length : Int), (f.code.length : Int)⟩] else st.uses }

def InsPost (B b : Nat) (st : St) (ws : List ByteArray) (w : World) (e : Ending) (w' : World) : Prop :=
  ∃ ok, e = .returned (.bool ok) ∧
      ((ok = true ∧ Below B w w' ∧ ∃ x fs f fv' av' uv' cs', insLineL ws = some x ∧ st.funcs = fs ++ [f] ∧ f.code.length ≠ 256 ∧ Rd B w' b fv' av' uv' cs' (st.add fs f x)) ∨
       (ok = false ∧ Below w.heap.size w w' ∧ (insLineL ws = none ∨ st.funcs = [] ∨ ∃ fs f, st.funcs = fs ++ [f] ∧ f.code.length = 256)))

theorem own_set {w : World} {B e k n g j : Nat} {v u : Value} {xs : List Value} (h : w.ownsRow B e k v n xs) (hg : v.ownBlock = some g) : (w.setCell ⟨g, j, none⟩ u).ownsRow B e k v n (xs.set j u) := by
  refine ⟨by simpa using h.1, ?_⟩
  rcases h.2 with ⟨rfl, _⟩ | ⟨g', cap, cur, rfl, h1, h2, h3, h4, h5, h6⟩
  · cases hg
  · cases hg
    refine .inr ⟨g', cap, cur.setIfInBounds j u, rfl, h1, ?_, h3, h4, by simpa using h5, ?_⟩
    · rw [heap_setCell_same _ g' j cur e u h2]
    · rw [Array.toList_setIfInBounds, List.take_set, h6]

theorem funV_set : ∀ (fs : List Fun) (f : Fun) (cd : List Value) (c c' : Value), cd.length = fs.length → ∀ (code' : List (Int × Int)), (funV (frs (fs ++ [f]) (cd ++ [c]))).set (fs.length * 4 + 3) c' = funV (frs (fs ++ [{ f with code := code' }]) (cd ++ [c']))
  | [], f, [], c, c', _, code' => by simp [funV, frs, Fun.row, FR.enc]
  | a :: fs, f, d :: cd, c, c', h, code' => by
    have ih := funV_set fs f cd c c' (by simpa using h) code'
    show (FR.enc (Fun.row a d) ++ funV (frs (fs ++ [f]) (cd ++ [c]))).set ((fs.length + 1) * 4 + 3) c' = FR.enc (Fun.row a d) ++ funV (frs (fs ++ [{ f with code := code' }]) (cd ++ [c']))
    rw [List.set_append_right _ _ (by simp [FR.enc]; omega), ← ih]
    congr 2
    simp [FR.enc]
    omega
  | [], _, _ :: _, _, _, h, _ => by cases h
  | _ :: _, _, [], _, _, h, _ => by cases h

theorem Tryz.info42 : (Tryz.prog.info? 42).map (fun i => (i.zero, i.size, i.bytes)) = some (some (.agg #[.int .i64 0, .int .i64 0]), 2, 16) := by kernel_rfl

/-- The last function's code grows. -/
theorem Rd.codeAdd {B : Nat} {w w1 w2 : World} {b fg m fc : Nat} {av uv cl cl2 : Value} {cs cd : List Value} {st : St} {fs : List Fun} {f : Fun} (h : Rd B w b (.slice (some ⟨fg, 0, none⟩) (m + 1) fc) av uv cs st) (hfs : st.funcs = fs ++ [f]) (hm : m = fs.length) (hcs : cs = cd ++ [cl]) (op x : Int) (hb : Below w.heap.size w w1) (hB : B ≤ w.heap.size)
    (ho : w2.ownsRow B 42 2 cl2 (f.code.length + 1) (insV f.code ++ [.int .i64 op, .int .i64 x])) (hg : w1.grownBy w2 cl.ownBlock)
    (hnew : ∀ q, cl2.ownBlock = some q → w1.heap.size ≤ q ∨ ∃ p, cl.ownBlock = some p ∧ p ≤ q) :
    Rd B (w2.setCell ⟨fg, m * 4 + 3, none⟩ cl2) b (.slice (some ⟨fg, 0, none⟩) (m + 1) fc) av uv (cd ++ [cl2]) { st with funcs := fs ++ [{ f with code := f.code ++ [(op, x)] }] } ∧ Below B w (w2.setCell ⟨fg, m * 4 + 3, none⟩ cl2) := by
  subst hcs
  have h1 := h.keep hb
  have hlen : cd.length = fs.length := by have := h.len; rw [hfs] at this; simpa using this
  have hcl : w1.ownsRow B 42 2 cl f.code.length (insV f.code) := by
    have := h1.codes cd.length (by simp) (by rw [hfs, hlen]; simp)
    simp only [hfs] at this
    simpa [hlen] using this
  have hs2 := grown_heap hg hcl h1.self (by decide)
  obtain ⟨fcur, hfcur⟩ := own_tag h1.fns (g := fg) rfl
  have hf2 : w2.heap[fg]? = some (.cells fcur 45 (0, 0)) := grown_heap hg hcl hfcur (by decide)
  have hg3 := grown_setCell w2 fg (m * 4 + 3) cl2
  have k3 : ∀ {e k n : Nat} {v : Value} {xs : List Value}, w2.ownsRow B e k v n xs → e ≠ 45 → (w2.setCell ⟨fg, m * 4 + 3, none⟩ cl2).ownsRow B e k v n xs := fun ho he =>
    own_far ho hg3 (fun cur => tag_ne hf2 (Ne.symm he))
  have kk : ∀ {e k n : Nat} {v : Value} {xs : List Value}, w1.ownsRow B e k v n xs → e ≠ 42 → e ≠ 45 → (w2.setCell ⟨fg, m * 4 + 3, none⟩ cl2).ownsRow B e k v n xs := fun ho he he' => k3 (own_apart ho hcl he hg) he'
  have hbf : fg ≠ b := fun e => by
    rw [e] at hfcur
    exact tag_ne hfcur (by decide) h1.self
  have hap := List.pairwise_append.1 h.apart
  have hfl : st.funcs.length = m + 1 := by rw [hfs, hm]; simp
  refine ⟨⟨h.nine, h.le, ?_, by simp [hlen], ?_, ?_, ?_, kk h1.args (by decide) (by decide), kk h1.uses (by decide) (by decide)⟩, ?_⟩
  · rw [Below.heap_setCell _ _ _ _ (by simpa using hbf.symm)]
    exact hs2
  · have hf := own_apart h1.fns hcl (by decide) hg
    have := own_set (j := m * 4 + 3) (u := cl2) hf (g := fg) rfl
    rw [hfs, hm, funV_set fs f cd cl cl2 hlen (f.code ++ [(op, x)])] at this
    rw [hm]
    simpa using this
  · intro i hi hi'
    rcases Nat.lt_or_ge i fs.length with hlt | hge
    · have e1 : (cd ++ [cl2])[i] = cd[i]'(by rw [hlen]; exact hlt) := List.getElem_append_left _
      have e2 : (fs ++ [{ f with code := f.code ++ [(op, x)] }])[i] = fs[i] := List.getElem_append_left _
      have h3 := h1.codes i (by simp; omega) (by rw [hfs]; simp; omega)
      have e3 : (cd ++ [cl])[i]'(by simp; omega) = cd[i]'(by rw [hlen]; exact hlt) := List.getElem_append_left _
      have e4 : st.funcs[i]'(by rw [hfs]; simp; omega) = fs[i] := by simp only [hfs]; exact List.getElem_append_left _
      rw [e3, e4] at h3
      simp only [e1, e2]
      refine k3 (h3.kept hg ?_) (by decide)
      exact (hap.2.2 _ (List.getElem_mem _) cl (by simp)).ne
    · have hi2 : i = fs.length := by simp at hi'; omega
      subst hi2
      have e1 : (cd ++ [cl2])[fs.length] = cl2 := by simp [← hlen]
      have e2 : (fs ++ [{ f with code := f.code ++ [(op, x)] }])[fs.length] = { f with code := f.code ++ [(op, x)] } := by simp
      simp only [e1, e2]
      have := k3 ho (by decide)
      simpa [insV] using this
  · rw [List.pairwise_append]
    refine ⟨hap.1, by simp, fun a ha c hc => ?_⟩
    simp only [List.mem_singleton] at hc
    subst hc
    intro p q hp hq
    rcases hnew q hq with h5 | ⟨p', hp', hle⟩
    · obtain ⟨i, hi, hai⟩ := List.getElem_of_mem ha
      have h3 := h1.codes i (by simp; omega) (by rw [hfl, hm, ← hlen]; omega)
      have e3 : (cd ++ [cl])[i]'(by simp; omega) = a := by rw [List.getElem_append_left hi]; exact hai
      rw [e3] at h3
      have := (h3.lt p hp).2
      omega
    · have := hap.2.2 a ha cl (by simp) p p' hp hp'
      omega
  · exact ((hb.mono hB).grown hg (Nat.le_trans hB hb.size) (fun k hk => (hcl.lt k hk).1)).setCell (p := ⟨fg, m * 4 + 3, none⟩) (by have := (h1.fns.lt fg rfl).1; exact this) _

end Go.Proofs.YtfnloomcianbiaaGreatDoor
