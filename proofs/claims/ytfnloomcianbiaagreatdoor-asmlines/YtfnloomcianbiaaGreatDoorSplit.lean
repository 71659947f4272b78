/- gleanerref1.Split and gleanerref4.two. -/
import Derived.Test.YtfnloomcianbiaaGreatDoorReadI
import Derived.Test.YtfnloomcianbiaaGreatDoorTakeM
namespace Go.Proofs.YtfnloomcianbiaaGreatDoor
open Go.RowKit Go.ChangeShapes Go.WideShapes Go.ChangeAt Go.Deep

theorem Tryz.info9 : (Tryz.prog.info? 9).map (fun i => (i.zero, i.size, i.bytes)) = some (some (.string ⟨#[]⟩), 1, 16) := by kernel_rfl
theorem extract_bs (s : ByteArray) (a b : Nat) : s.extract a b = bs ((s.data.toList.drop a).take (b - a)) := by
  apply bytes_inj
  rw [bs_list, ByteArray.data_extract, Array.toList_extract]
  try simp [List.extract]
theorem drop_at {l : List UInt8} {a k : Nat} {c : UInt8} (h : l[k]? = some c) (ha : a ≤ k) : l.drop a = (l.drop a).take (k - a) ++ c :: l.drop (k + 1) := by
  have e : (l.drop a).drop (k - a) = c :: l.drop (k + 1) := by
    rw [List.drop_drop, show a + (k - a) = k by omega]
    obtain ⟨hk, rfl⟩ := List.getElem?_eq_some_iff.1 h
    exact List.drop_eq_getElem_cons hk
  rw [← e, List.take_append_drop]
theorem take_at {l : List UInt8} {a k : Nat} {c : UInt8} (h : l[k]? = some c) (ha : a ≤ k) : (l.drop a).take (k + 1 - a) = (l.drop a).take (k - a) ++ [c] := by
  rw [show k + 1 - a = (k - a) + 1 by omega, List.take_add_one]
  congr 1
  rw [List.getElem?_drop, show a + (k - a) = k by omega, h]
  rfl

/-- Split's answer. -/
def SplitPost (ws : List ByteArray) (w : World) (e : Ending) (w' : World) : Prop := ∃ v, e = .returned v ∧ w'.ownsRow w.heap.size 9 1 v ws.length (ws.map Value.string) ∧ Below w.heap.size w w'

set_option maxRecDepth 100000 in
set_option maxHeartbeats 2000000 in
theorem refSplit_any (s : ByteArray) (hs : s.size ≤ 1000000) (w : World) : Calls Tryz.prog 37 #[.string s] w (SplitPost (wordsOf s) w) := by
  obtain ⟨i0, hi, hz0, hz1, hz2⟩ := info_parts Tryz.info9
  have HL := hide (Lib.size_eq s)
  have HW := hide (show wordsOf s = [] ++ wordsOf (bs (s.data.toList.drop 0)) by
    rw [List.nil_append, List.drop_zero]
    rw [show bs s.data.toList = s by apply bytes_inj; rw [bs_list]])
  generalize wordsOf s = WS at HW ⊢
  go_enter Tryz.func37, Tryz.ntmps37
  go_wp2
  go_loopw [3, 4, 5] (fun o f i wr => Below w.heap.size w wr ∧ ∃ (k fr : Nat) (ws : List ByteArray), k ≤ s.size ∧ fr ≤ k ∧ ws.length ≤ k ∧ i = .int .i64 (k : Nat) ∧ f = .int .i64 (fr : Nat) ∧ wr.ownsRow w.heap.size 9 1 o ws.length (ws.map Value.string) ∧ Hid (WS = ws ++ wordsOf (bs (s.data.toList.drop fr))) ∧ Hid ((32 : UInt8) ∉ (s.data.toList.drop fr).take (k - fr))) (fun _ _ i _ => s.size - (intOf i).toNat)
  case atStart => exact ⟨Below.refl _ _, 0, 0, [], by omega, by omega, by simp, rfl, rfl, by simpa using World.ownsRow_nil w _ 9 1, HW, (by refine Lib.hid ?_; simp)⟩
  case round =>
    clear HW
    obtain ⟨hbw, k, fr, ws, hk, hfr, hwl, rfl, rfl, ho, hh, hn⟩ := hrel
    have hszw := hbw.size
    by_cases hlt : k < s.size
    · have hg : ∃ x, s.data.toList[k]? = some x := ⟨s.data.toList[k]'(by rw [← Lib.size_eq]; exact hlt), List.getElem?_eq_getElem _⟩
      obtain ⟨x, hx⟩ := hg
      have ik := fun w => index_str (s := s) (j := k) hx w
      have hlt' : (k : Int) < (s.size : Int) := by omega
      by_cases h32 : x.toNat = 32
      · have hx32 : x = 32 := UInt8.toNat_inj.1 h32
        subst hx32
        have HP := hide (show s.extract fr k = bs ((s.data.toList.drop fr).take (k - fr)) from extract_bs s fr k)
        have HS := hide (show WS = (ws ++ [s.extract fr k]) ++ wordsOf (bs (s.data.toList.drop (k + 1))) by
          rw [hh.out, HP.out]
          conv => lhs; rw [drop_at hx hfr]
          rw [words_more _ _ hn.out]
          simp)
        have q32 : ((32 : UInt8).toNat : Int) = 32 := rfl
        have HB := hide hbw
        clear hx h32 hh hn
        go_wp2_with (at_builtin; go_must (refine wpList_append_own _ rfl (.tmp 16) (.tmp 21) 28 rfl w.heap.size 9 i0 (.string ⟨#[]⟩) 1 16 Tryz.underlying28 hi hz0 hz1 hz2 rfl (by decide) u3 _ _ rfl (ho.alloc _) ⟨wr.heap.size, 0, none⟩ 1 1 [.string (s.extract fr k)] rfl rfl (cell_one_new _ _ _) (by simp [Value.oneCell']) (by unfold maxLen; omega) (by omega) (by simp; omega) ?_; intro v2 w3 ho3 hg3 _))
        have hb3 : Below w.heap.size w w3 := (HB.out.alloc (by omega) _).grown hg3 (by simp; omega) (fun q hq => (ho.lt q hq).1)
        go_roundw
        case rel => exact ⟨hb3, k + 1, k + 1, ws ++ [s.extract fr k], by omega, by omega, by simp; omega, by go_num, by go_num, by simpa using ho3, HS, (by refine Lib.hid ?_; simp)⟩
        case measure => simp [intOf]; omega
      · have q32 : ¬ (x.toNat : Int) = 32 := by omega
        have HN := hide (show (32 : UInt8) ∉ (s.data.toList.drop fr).take (k + 1 - fr) by
          rw [take_at hx hfr]
          intro hm
          rcases List.mem_append.1 hm with hm | hm
          · exact hn.out hm
          · simp only [List.mem_singleton] at hm
            apply h32
            rw [← hm]; rfl)
        generalize x.toNat = n at *
        clear hx h32 hn
        go_wp2
        go_roundw
        case rel => exact ⟨hbw, k + 1, fr, ws, by omega, by omega, by omega, by go_num, rfl, ho, hh, HN⟩
        case measure => simp [intOf]; omega
    · have hks : k = s.size := by omega
      have hlt' : ¬ (k : Int) < (s.size : Int) := by omega
      have HP := hide (show s.extract fr s.size = bs (s.data.toList.drop fr) by
        rw [extract_bs s fr s.size, List.take_of_length_le]
        rw [List.length_drop, HL.out]
        exact Nat.le_refl _)
      have HS := hide (show WS = ws ++ [s.extract fr s.size] by
        rw [hh.out, HP.out, words_one]
        have := hn.out
        rw [List.take_of_length_le (by rw [List.length_drop, ← HL.out]; omega)] at this
        exact this)
      have HB := hide hbw
      have hfs : fr ≤ s.size := by omega
      clear hh hn hks
      go_wp2_with (at_builtin; go_must (refine wpList_append_own _ rfl (.tmp 25) (.tmp 29) 28 rfl w.heap.size 9 i0 (.string ⟨#[]⟩) 1 16 Tryz.underlying28 hi hz0 hz1 hz2 rfl (by decide) u3 _ _ rfl (ho.alloc _) ⟨wr.heap.size, 0, none⟩ 1 1 [.string (s.extract fr s.size)] rfl rfl (cell_one_new _ _ _) (by simp [Value.oneCell']) (by unfold maxLen; omega) (by omega) (by simp; omega) ?_; intro v2 w3 ho3 hg3 _))
      have hb3 : Below w.heap.size w w3 := (HB.out.alloc (by omega) _).grown hg3 (by simp; omega) (fun q hq => (ho.lt q hq).1)
      go_ret
      refine ⟨v2, rfl, ?_, hb3⟩
      rw [HS.out]
      simpa using ho3

theorem readV_is (s : ByteArray) : ∃ x p, readV s = .tuple #[.int .i64 x, .bool p] ∧ ((p = true ∧ num s = some x) ∨ (p = false ∧ num s = none)) := by
  cases h : num s with
  | none => exact ⟨0, false, readV_none h, .inr ⟨rfl, rfl⟩⟩
  | some v => exact ⟨v, true, readV_some h, .inl ⟨rfl, rfl⟩⟩
theorem nums_two (a b : ByteArray) : numsL [a, b] = match num a, num b with | some x, some y => some [x, y] | _, _ => none := by
  unfold numsL
  cases h1 : num a <;> cases h2 : num b <;> simp [h1, h2]
/-- two's answer. -/
def TwoPost (a b : ByteArray) (w : World) (e : Ending) (w' : World) : Prop := ∃ x y ok, e = .returned (.tuple #[.int .i64 x, .int .i64 y, .bool ok]) ∧ w' = w ∧ Hid ((ok = true ∧ numsL [a, b] = some [x, y]) ∨ (ok = false ∧ numsL [a, b] = none))

set_option maxRecDepth 100000 in
set_option maxHeartbeats 1000000 in
theorem two_any (a b : ByteArray) (ha : a.size ≤ 1000000000) (hb : b.size ≤ 1000000000) (w : World) : Calls Tryz.prog 38 #[.string a, .string b] w (TwoPost a b w) := by
  have C1 := readInt_any a ha w
  have C2 := readInt_any b hb w
  obtain ⟨x, p, e1, h1⟩ := readV_is a
  obtain ⟨y, q, e2, h2⟩ := readV_is b
  rw [e1] at C1
  rw [e2] at C2
  have HQ := hide (show ((p && q) = true ∧ numsL [a, b] = some [x, y]) ∨ ((p && q) = false ∧ numsL [a, b] = none) by
    rw [nums_two]
    rcases h1 with ⟨rfl, h1⟩ | ⟨rfl, h1⟩ <;> rcases h2 with ⟨rfl, h2⟩ | ⟨rfl, h2⟩ <;> simp [h1, h2])
  clear h1 h2 e1 e2
  go_enter Tryz.func38, Tryz.ntmps38
  go_wp2_with (go_at_call 39; go_must (first | (with_reducible refine C1.mono ?_; clear C1; rintro e wz ⟨rfl, hwz⟩; replace hwz := hwz.symm; subst hwz; refine Hid.out ?_) | (with_reducible refine C2.mono ?_; rintro e wz ⟨rfl, hwz⟩; replace hwz := hwz.symm; subst hwz; refine Hid.out ?_)))
  refine Lib.hid ?_
  go_wp2_with (go_at_call 39; go_must (with_reducible refine C2.mono ?_; rintro e wz ⟨rfl, hwz⟩; replace hwz := hwz.symm; subst hwz; refine Hid.out ?_))
  refine Lib.hid ?_
  cases p
  · go_wp2
    exact bodyPost_ret (v := .tuple #[.int .i64 x, .int .i64 y, .bool false]) (by simp [results, Tryz.results38, go_sem]) rfl ⟨x, y, false, rfl, rfl, HQ.out⟩
  · go_wp2
    exact bodyPost_ret (v := .tuple #[.int .i64 x, .int .i64 y, .bool q]) (by simp [results, Tryz.results38, go_sem]) rfl ⟨x, y, q, rfl, rfl, by refine Lib.hid ?_; simpa using HQ.out⟩
end Go.Proofs.YtfnloomcianbiaaGreatDoor
