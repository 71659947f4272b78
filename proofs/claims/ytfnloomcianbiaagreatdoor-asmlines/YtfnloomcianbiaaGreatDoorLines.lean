/- gleanerref1.Lines. -/
import Derived.Test.YtfnloomcianbiaaGreatDoorSplit
namespace Go.Proofs.YtfnloomcianbiaaGreatDoor
open Go.RowKit Go.ChangeShapes Go.WideShapes Go.ChangeAt Go.Deep

/-- The lines of a text behind what stands already of the first one; is the last one whole? -/
def linesFrom : List UInt8 → List UInt8 → List ByteArray × Bool
  | acc, [] => if acc = [] then ([], true) else ([bs acc], false)
  | acc, c :: r => if c = 10 then (bs acc :: (linesFrom [] r).1, (linesFrom [] r).2) else linesFrom (acc ++ [c]) r
def linesOf (l : List UInt8) : List ByteArray × Bool := linesFrom [] l
theorem lines_more (r : List UInt8) : ∀ (p acc : List UInt8), (10 : UInt8) ∉ p → linesFrom acc (p ++ 10 :: r) = (bs (acc ++ p) :: (linesOf r).1, (linesOf r).2)
  | [], acc, _ => by
    rw [List.nil_append, linesFrom, if_pos rfl, List.append_nil]
    rfl
  | c :: p, acc, h => by
    have hc : c ≠ 10 := fun e => h (by simp [e])
    rw [List.cons_append, linesFrom, if_neg hc, lines_more r p (acc ++ [c]) (fun e => h (by simp [e]))]
    simp
theorem lines_cut {p r : List UInt8} (h : (10 : UInt8) ∉ p) : linesOf (p ++ 10 :: r) = (bs p :: (linesOf r).1, (linesOf r).2) := by
  have := lines_more r p [] h
  rw [List.nil_append] at this
  exact this
theorem lines_last : ∀ (p acc : List UInt8), (10 : UInt8) ∉ p → linesFrom acc p = if acc ++ p = [] then ([], true) else ([bs (acc ++ p)], false)
  | [], acc, _ => by
    rw [linesFrom, List.append_nil]
  | c :: p, acc, h => by
    have hc : c ≠ 10 := fun e => h (by simp [e])
    rw [linesFrom, if_neg hc, lines_last p (acc ++ [c]) (fun e => h (by simp [e]))]
    simp
theorem lines_end {p : List UInt8} (h : (10 : UInt8) ∉ p) : linesOf p = if p = [] then ([], true) else ([bs p], false) := by
  have := lines_last p [] h
  rw [List.nil_append] at this
  exact this

/-- Lines' answer. -/
def LinesPost (L : List ByteArray × Bool) (w : World) (e : Ending) (w' : World) : Prop := ∃ v, e = .returned (.tuple #[v, .bool L.2]) ∧ w'.ownsRow w.heap.size 9 1 v L.1.length (L.1.map Value.string) ∧ Below w.heap.size w w'

set_option maxRecDepth 100000 in
set_option maxHeartbeats 2000000 in
theorem lines_any (s : ByteArray) (hs : s.size ≤ 1000000) (w : World) : Calls Tryz.prog 7 #[.string s] w (LinesPost (linesOf s.data.toList) w) := by
  obtain ⟨i0, hi, hz0, hz1, hz2⟩ := info_parts Tryz.info9
  have HL := hide (Lib.size_eq s)
  have HW := hide (show linesOf s.data.toList = ([] ++ (linesOf (s.data.toList.drop 0)).1, (linesOf (s.data.toList.drop 0)).2) by
    rw [List.nil_append, List.drop_zero])
  generalize linesOf s.data.toList = WS at HW ⊢
  go_enter Tryz.func7, Tryz.ntmps7
  go_wp2
  go_loopw [4, 5, 6] (fun o f i wr => Below w.heap.size w wr ∧ ∃ (k fr : Nat) (ws : List ByteArray), k ≤ s.size ∧ fr ≤ k ∧ ws.length ≤ k ∧ i = .int .i64 (k : Nat) ∧ f = .int .i64 (fr : Nat) ∧ wr.ownsRow w.heap.size 9 1 o ws.length (ws.map Value.string) ∧ Hid (WS = (ws ++ (linesOf (s.data.toList.drop fr)).1, (linesOf (s.data.toList.drop fr)).2)) ∧ Hid ((10 : UInt8) ∉ (s.data.toList.drop fr).take (k - fr))) (fun _ _ i _ => s.size - (intOf i).toNat)
  case atStart => exact ⟨Below.refl _ _, 0, 0, [], by omega, by omega, by simp, rfl, rfl, by simpa using World.ownsRow_nil w _ 9 1, HW, (by refine Lib.hid ?_; simp)⟩
  case round =>
    clear HW
    obtain ⟨hbw, k, fr, ws, hk, hfr, hwl, rfl, rfl, ho, hh, hn⟩ := hrel
    have hszw := hbw.size
    by_cases hlt : k < s.size
    · have hg : ∃ x, s.data.toList[k]? = some x := ⟨s.data.toList[k]'(by rw [← Lib.size_eq]; exact hlt), List.getElem?_eq_getElem _⟩
      obtain ⟨x, hx⟩ := hg
      have ik := fun w => index_str (s := s) (j := k) hx w
      have hlt' : (k : Int) < (s.size : Int) := by omega
      by_cases h32 : x.toNat = 10
      · have hx32 : x = 10 := UInt8.toNat_inj.1 h32
        subst hx32
        have HP := hide (show s.extract fr k = bs ((s.data.toList.drop fr).take (k - fr)) from extract_bs s fr k)
        have HS := hide (show WS = ((ws ++ [s.extract fr k]) ++ (linesOf (s.data.toList.drop (k + 1))).1, (linesOf (s.data.toList.drop (k + 1))).2) by
          have e1 := lines_cut (p := (s.data.toList.drop fr).take (k - fr)) (r := s.data.toList.drop (k + 1)) hn.out
          rw [← drop_at hx hfr] at e1
          rw [hh.out, HP.out, e1]
          simp)
        have q32 : ((10 : UInt8).toNat : Int) = 10 := rfl
        have HB := hide hbw
        clear hx h32 hh hn
        go_wp2_with (at_builtin; go_must (refine wpList_append_own _ rfl (.tmp 17) (.tmp 22) 28 rfl w.heap.size 9 i0 (.string ⟨#[]⟩) 1 16 Tryz.underlying28 hi hz0 hz1 hz2 rfl (by decide) u4 _ _ rfl (ho.alloc _) ⟨wr.heap.size, 0, none⟩ 1 1 [.string (s.extract fr k)] rfl rfl (cell_one_new _ _ _) (by simp [Value.oneCell']) (by unfold maxLen; omega) (by omega) (by simp; omega) ?_; intro v2 w3 ho3 hg3 _))
        have hb3 : Below w.heap.size w w3 := (HB.out.alloc (by omega) _).grown hg3 (by simp; omega) (fun q hq => (ho.lt q hq).1)
        go_roundw
        case rel => exact ⟨hb3, k + 1, k + 1, ws ++ [s.extract fr k], by omega, by omega, by simp; omega, by go_num, by go_num, by simpa using ho3, HS, (by refine Lib.hid ?_; simp)⟩
        case measure => simp [intOf]; omega
      · have q32 : ¬ (x.toNat : Int) = 10 := by omega
        have HN := hide (show (10 : UInt8) ∉ (s.data.toList.drop fr).take (k + 1 - fr) by
          rw [take_at hx hfr]
          intro hm
          rcases List.mem_append.1 hm with hm | hm
          · exact hn.out hm
          · simp only [List.mem_singleton] at hm
            apply h32
            rw [← hm]; rfl)
        generalize x.toNat = n at *
        clear hx h32 hn
        go_wp2
        go_roundw
        case rel => exact ⟨hbw, k + 1, fr, ws, by omega, by omega, by omega, by go_num, rfl, ho, hh, HN⟩
        case measure => simp [intOf]; omega
    · have hks : k = s.size := by omega
      have hlt' : ¬ (k : Int) < (s.size : Int) := by omega
      have HE := hide (show linesOf (s.data.toList.drop fr) = if s.data.toList.drop fr = [] then ([], true) else ([bs (s.data.toList.drop fr)], false) from lines_end (by
        have := hn.out
        rw [List.take_of_length_le (by rw [List.length_drop, ← HL.out]; omega)] at this
        exact this))
      have HP := hide (show s.extract fr s.size = bs (s.data.toList.drop fr) by
        rw [extract_bs s fr s.size, List.take_of_length_le]
        rw [List.length_drop, HL.out]
        exact Nat.le_refl _)
      have HB := hide hbw
      have hfs : fr ≤ s.size := by omega
      by_cases hfe : fr < s.size
      · have hfe' : (fr : Int) < (s.size : Int) := by omega
        have HS := hide (show WS = (ws ++ [s.extract fr s.size], false) by
          rw [hh.out, HP.out, HE.out, if_neg]
          intro h
          have := congrArg List.length h
          rw [List.length_drop, ← HL.out] at this
          simp at this
          omega)
        clear hh hn hks HE
        go_wp2_with (at_builtin; go_must (refine wpList_append_own _ rfl (.tmp 30) (.tmp 34) 28 rfl w.heap.size 9 i0 (.string ⟨#[]⟩) 1 16 Tryz.underlying28 hi hz0 hz1 hz2 rfl (by decide) u4 _ _ rfl (ho.alloc _) ⟨wr.heap.size, 0, none⟩ 1 1 [.string (s.extract fr s.size)] rfl rfl (cell_one_new _ _ _) (by simp [Value.oneCell']) (by unfold maxLen; omega) (by omega) (by simp; omega) ?_; intro v2 w3 ho3 hg3 _))
        have hb3 : Below w.heap.size w w3 := (HB.out.alloc (by omega) _).grown hg3 (by simp; omega) (fun q hq => (ho.lt q hq).1)
        refine bodyPost_ret (v := .tuple #[v2, .bool false]) (by simp [results, Tryz.results7, go_sem]) rfl ?_
        rw [HS.out]
        exact ⟨v2, rfl, by simpa using ho3, hb3⟩
      · have hfe' : ¬ (fr : Int) < (s.size : Int) := by omega
        have HS := hide (show WS = (ws, true) by
          rw [hh.out, HE.out, if_pos]
          · simp
          · apply List.eq_nil_of_length_eq_zero
            rw [List.length_drop, ← HL.out]
            omega)
        clear hh hn hks HE
        go_wp2
        refine bodyPost_ret (v := .tuple #[u4, .bool true]) (by simp [results, Tryz.results7, go_sem]) rfl ?_
        rw [HS.out]
        exact ⟨u4, rfl, ho, HB.out⟩
end Go.Proofs.YtfnloomcianbiaaGreatDoor
