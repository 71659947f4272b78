/- gleanerref4's line: one line. -/
import Derived.Test.YtfnloomcianbiaaGreatDoorRefI
import Derived.Test.YtfnloomcianbiaaGreatDoorCodeA
namespace Go.Proofs.YtfnloomcianbiaaGreatDoor
open Go.RowKit Go.ChangeShapes Go.WideShapes Go.ChangeAt Go.Deep

set_option maxRecDepth 100000 in
set_option maxHeartbeats 1000000 in
theorem two_is (a b : ByteArray) (ha : a.size ≤ 1000000000) (hb : b.size ≤ 1000000000) {x y : Int} {p q : Bool} (h1 : readV a = .tuple #[.int .i64 x, .bool p]) (h2 : readV b = .tuple #[.int .i64 y, .bool q]) (w : World) : Calls Tryz.prog 38 #[.string a, .string b] w fun e w' => e = .returned (.tuple #[.int .i64 x, .int .i64 y, .bool (p && q)]) ∧ w' = w := by
  have C1 := readInt_any a ha w
  have C2 := readInt_any b hb w
  rw [h1] at C1
  rw [h2] at C2
  clear h1 h2
  go_enter Tryz.func38, Tryz.ntmps38
  go_wp2_with (go_at_call 39; go_must (first | (with_reducible refine C1.mono ?_; clear C1; rintro e wz ⟨rfl, hwz⟩; replace hwz := hwz.symm; subst hwz; refine Hid.out ?_) | (with_reducible refine C2.mono ?_; rintro e wz ⟨rfl, hwz⟩; replace hwz := hwz.symm; subst hwz; refine Hid.out ?_)))
  refine Lib.hid ?_
  go_wp2_with (go_at_call 39; go_must (with_reducible refine C2.mono ?_; rintro e wz ⟨rfl, hwz⟩; replace hwz := hwz.symm; subst hwz; refine Hid.out ?_))
  refine Lib.hid ?_
  cases p
  · go_wp2
    exact bodyPost_ret (v := .tuple #[.int .i64 x, .int .i64 y, .bool false]) (by simp [results, Tryz.results38, go_sem]) rfl ⟨rfl, rfl⟩
  · go_wp2
    exact bodyPost_ret (v := .tuple #[.int .i64 x, .int .i64 y, .bool q]) (by simp [results, Tryz.results38, go_sem]) rfl ⟨by simp, rfl⟩

/-- A line that is an instruction's. -/
def isInd (l : List UInt8) : Bool := match l with
  | 32 :: 32 :: _ :: _ => true
  | _ => false
/-- A line, read. -/
def lineL (k : Int) (l : ByteArray) (st : St) : Option St :=
  if k = 1 then (jobL (wordsOf l)).map fun p => { st with fuel := p.1, tasks := p.2 }
  else if k = 2 then (mainL (wordsOf l)).map fun p => { st with args := p.2, uses := st.uses ++ [⟨p.1, 2, -1, 0⟩] }
  else if isInd l.data.toList = true then
    match insW (wordsOf (bs (l.data.toList.drop 2))), st.funcs.getLast? with
    | some x, some f => if f.code.length < 256 then some (St.add { st with line := k } st.funcs.dropLast f x) else none
    | _, _ => none
  else (funcL (wordsOf l) st.funcs).map fun f => { st with funcs := st.funcs ++ [f] }
def LinePost (B b : Nat) (k : Int) (l : ByteArray) (st : St) (w : World) (e : Ending) (w' : World) : Prop :=
  ∃ ok, e = .returned (.bool ok) ∧ Below B w w' ∧ ((ok = true ∧ ∃ st' fv av uv cs, lineL k l st = some st' ∧ Rf B w' b fv av uv cs st') ∨ (ok = false ∧ lineL k l st = none))

theorem own_words {w : World} {B : Nat} {v : Value} {ws : List ByteArray} (h : w.ownsRow B 9 1 v ws.length (ws.map Value.string)) (hne : ws ≠ []) : ∃ g cap cur, v = .slice (some ⟨g, 0, none⟩) ws.length cap ∧ B ≤ g ∧ w.heap[g]? = some (.cells cur 9 (0, 0)) ∧ ∀ j s, ws[j]? = some s → w.cell? ⟨g, j, none⟩ = some (.string s) := by
  rcases h.2 with ⟨_, e⟩ | ⟨g, cap, cur, rfl, hB, hh, _⟩
  · exact absurd (List.eq_nil_of_length_eq_zero e) hne
  · refine ⟨g, cap, cur, rfl, hB, hh, fun j s hs => ?_⟩
    have := h.cells (g := g) rfl j (.string s) (by rw [List.getElem?_map, hs]; rfl)
    rwa [add_none, Nat.zero_add] at this
theorem words_le {s y : ByteArray} (h : y ∈ wordsOf s) : y.size ≤ s.size := words_size s _ s y h (Nat.le_refl _)
theorem words_ne (s : ByteArray) : wordsOf s ≠ [] := fun h => by
  have hl : (wordsOf s).length = Lib.countB s sp + 1 := Lib.splitB_all sp (by decide) 0 _ s rfl
  rw [h] at hl
  simp at hl

set_option maxRecDepth 100000 in
set_option maxHeartbeats 4000000 in
set_option linter.unusedSimpArgs false in
theorem line1_any (B b : Nat) (fv av uv : Value) (cs : List Value) (st : St) (l : ByteArray) (hl : l.size ≤ 1000000) (w : World) (hB : B ≤ w.heap.size) (hR : Rf B w b fv av uv cs st) :
    Calls Tryz.prog 23 #[.pointer (some ⟨b, 0, none⟩), .int .i64 1, .string l] w (LinePost B b 1 l st w) := by
  have SP := refSplit_any l hl w
  have hne := words_ne l
  have HLN := hide (show lineL 1 l st = (jobL (wordsOf l)).map fun p => { st with fuel := p.1, tasks := p.2 } from by unfold lineL; rw [if_pos rfl])
  have HSZ := hide (show ∀ s ∈ wordsOf l, s.size ≤ 1000000 from fun s hs => by
    have := words_le hs
    omega)
  generalize wordsOf l = ws at SP hne HLN HSZ
  go_enter Tryz.func23, Tryz.ntmps23
  go_wp2_with (go_at_call 37; go_must (refine SP.mono ?_; rintro e w1 ⟨v, rfl, ho, hb1⟩; refine Hid.out ?_))
  refine Lib.hid ?_
  clear SP
  obtain ⟨g, cap, wcur, rfl, hgB, hw1, hwc⟩ := own_words ho hne
  have hR1 := hR.keep hb1
  have hbB := hb1.mono hB
  obtain ⟨n, hn⟩ : ∃ n, n = ws.length := ⟨_, rfl⟩
  rw [← hn] at ho ⊢
  by_cases h3 : n = 3
  · obtain ⟨s0, s1, s2, rfl⟩ : ∃ s0 s1 s2, ws = [s0, s1, s2] := by
      match ws, hn with
      | [a, b, c], _ => exact ⟨a, b, c, rfl⟩
      | [], hn => simp at hn; omega
      | [_], hn => simp at hn; omega
      | [_, _], hn => simp at hn; omega
      | _ :: _ :: _ :: _ :: _, hn => simp at hn; omega
    subst h3
    have c0 := hwc 0 s0 rfl
    have c1 := hwc 1 s1 rfl
    have c2 := hwc 2 s2 rfl
    have hgl := cell_some_lt c0
    obtain ⟨x, p, e1, k1⟩ := readV_is s1
    obtain ⟨y, q, e2, k2⟩ := readV_is s2
    have TW := fun w => two_is s1 s2 (by have := HSZ.out s1 (by simp); omega) (by have := HSZ.out s2 (by simp); omega) e1 e2 w
    have HNM := hide (show ((p && q) = true ∧ numsL [s1, s2] = some [x, y]) ∨ ((p && q) = false ∧ numsL [s1, s2] = none) by
      rw [nums_two]
      rcases k1 with ⟨rfl, h1⟩ | ⟨rfl, h1⟩ <;> rcases k2 with ⟨rfl, h2⟩ | ⟨rfl, h2⟩ <;> simp [h1, h2])
    clear e1 e2 k1 k2 hwc
    generalize (p && q) = pq at TW HNM
    have HJ := hide (show jobL [s0, s1, s2] = match numsL [s1, s2] with | some [x, y] => if isWord s0 [106, 111, 98] then some (x, y) else none | _ => none from rfl)
    cases hw0 : isWord s0 [106, 111, 98] with
    | false =>
      have hw0' : (s0.toList == [106, 111, 98]) = false := hw0
      have HF := hide (show lineL 1 l st = none by
        rw [HLN.out, HJ.out, hw0]
        rcases HNM.out with ⟨_, h⟩ | ⟨_, h⟩ <;> rw [h] <;> rfl)
      clear HNM TW
      go_wp2
      exact bodyPost_ret (v := .bool false) (by simp [results, Tryz.results23, go_sem]) rfl ⟨_, rfl, hbB, .inr ⟨rfl, HF.out⟩⟩
    | true =>
      have hw0' : (s0.toList == [106, 111, 98]) = true := hw0
      go_upto_region 5 with fail
      go_quiet (first | (go_at_call 38; with_reducible exact Calls.quiet_of_same (TW _)))
      have hbd : Below w1.heap.size w1 (w1.drewN nq) := below_drewN (Below.refl _ _) nq
      have hR2 := hR1.keep hbd
      have hb2 : Below B w (w1.drewN nq) := hbB.trans (hbd.mono (Nat.le_trans hB hb1.size))
      generalize w1.drewN nq = w2 at hR2 hb2 ⊢
      obtain ⟨y0, y1, y2, y3, y4, y5⟩ := hR2.cells
      have f3 := hR2.unfrozen 3
      have f4 := hR2.unfrozen 4
      have hbl := lt_row hR2.self
      have hs1 := set_row (i := 3) hR2.self (.int .i64 x)
      have hs2 := set_row (i := 4) hs1 (.int .i64 y)
      have k4 := cell_row (i := 4) hs1 rfl
      have g4 := frozen_row (i := 4) hs1
      have HG := hide (show Rf B ((w2.setCell ⟨b, 3, none⟩ (.int .i64 x)).setCell ⟨b, 4, none⟩ (.int .i64 y)) b fv av uv cs { st with main := st.main, fuel := x, tasks := y } from hR2.turn (grown_trans (grown_setCell _ _ _ _) (grown_setCell _ _ _ _)) hs2)
      have HBe := hide (hb2.trans (((Below.refl B w2).setCell (p := ⟨b, 3, none⟩) hR2.le (.int .i64 x)).setCell (p := ⟨b, 4, none⟩) hR2.le (.int .i64 y)))
      have HF := hide (show (pq = true ∧ lineL 1 l st = some { st with fuel := x, tasks := y }) ∨ (pq = false ∧ lineL 1 l st = none) by
        rw [HLN.out, HJ.out, hw0]
        rcases HNM.out with ⟨h, h'⟩ | ⟨h, h'⟩
        · exact .inl ⟨h, by rw [h']; rfl⟩
        · exact .inr ⟨h, by rw [h']; rfl⟩)
      clear HNM HJ HLN hs1 hs2 hR2 TW
      go_wp2
      refine bodyPost_ret (v := .bool pq) (by simp [results, Tryz.results23, go_sem]) rfl ⟨_, rfl, HBe.out, ?_⟩
      rcases HF.out with ⟨h, h'⟩ | ⟨h, h'⟩
      · exact .inl ⟨h, _, fv, av, uv, cs, h', HG.out⟩
      · exact .inr ⟨h, h'⟩
  · have q3 : ¬ (n : Int) = 3 := by omega
    have HF := hide (show lineL 1 l st = none by
      rw [HLN.out]
      have : jobL ws = none := by
        unfold jobL
        split
        · rename_i x y h
          have := nums_len h
          rw [List.length_tail] at this
          simp at this
          omega
        · rfl
      rw [this]; rfl)
    go_wp2
    exact bodyPost_ret (v := .bool false) (by simp [results, Tryz.results23, go_sem]) rfl ⟨_, rfl, hbB, .inr ⟨rfl, HF.out⟩⟩
end Go.Proofs.YtfnloomcianbiaaGreatDoor
