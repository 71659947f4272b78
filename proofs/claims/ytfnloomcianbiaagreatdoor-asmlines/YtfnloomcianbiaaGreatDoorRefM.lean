/- gleanerref4's line at the second line. -/
import Derived.Test.YtfnloomcianbiaaGreatDoorRefL
namespace Go.Proofs.YtfnloomcianbiaaGreatDoor
open Go.RowKit Go.ChangeShapes Go.WideShapes Go.ChangeAt Go.Deep

theorem Rf.arg {B : Nat} {w w1 w2 : World} {b : Nat} {fv av uv av2 : Value} {cs : List Value} {st : St} (h : Rf B w b fv av uv cs st) (v : Int) (hb : Below w.heap.size w w1) (hB : B ≤ w.heap.size)
    (ho : w2.ownsRow B 3 1 av2 (st.args.length + 1) (iV st.args ++ [.int .i64 v])) (hg : w1.grownBy w2 av.ownBlock) :
    Rf B (w2.setCell ⟨b, 2, none⟩ av2) b fv av2 uv cs { st with args := st.args ++ [v] } ∧ Below B w (w2.setCell ⟨b, 2, none⟩ av2) := by
  have h1 := h.keep hb
  have hs2 := grown_heap hg h1.args h1.self (by decide)
  have hs3 := set_row (i := 2) hs2 av2
  have hg3 := grown_setCell w2 b 2 av2
  have f : ∀ {e k n : Nat} {v : Value} {xs : List Value}, w1.ownsRow B e k v n xs → e ≠ 3 → e ≠ 58 → (w2.setCell ⟨b, 2, none⟩ av2).ownsRow B e k v n xs := fun ho he he' =>
    own_far (own_apart ho h1.args he hg) hg3 (fun cur => tag_ne hs2 (Ne.symm he'))
  refine ⟨⟨h.nine, h.le, hs3, h.len, f h1.fns (by decide) (by decide), fun i hi hi' => f (h1.codes i hi hi') (by decide) (by decide), h.apart, ?_, f h1.uses (by decide) (by decide)⟩, ?_⟩
  · have := own_far ho hg3 (fun cur => tag_ne hs2 (by decide))
    simpa [iV] using this
  · exact ((hb.mono hB).grown hg (Nat.le_trans hB hb.size) (fun k hk => (h1.args.lt k hk).1)).setCell (p := ⟨b, 2, none⟩) h.le _

theorem nums_snoc (l : List ByteArray) (s : ByteArray) : numsL (l ++ [s]) = match numsL l, num s with | some vs, some v => some (vs ++ [v]) | _, _ => none := by
  unfold numsL
  by_cases h : ∀ x ∈ l, (num x).isSome = true
  · rw [if_pos h]
    cases hs : num s with
    | none =>
      rw [if_neg]
      intro h'
      have := h' s (by simp)
      rw [hs] at this
      cases this
    | some v =>
      rw [if_pos]
      · simp [List.filterMap_append, hs]
      · intro x hx
        rcases List.mem_append.1 hx with hx | hx
        · exact h x hx
        · simp only [List.mem_singleton] at hx
          rw [hx, hs]; rfl
  · rw [if_neg h, if_neg]
    intro h'
    exact h fun x hx => h' x (by simp [hx])
theorem nums_no {l r : List ByteArray} (h : numsL l = none) : numsL (l ++ r) = none := by
  unfold numsL at *
  by_cases h' : ∀ x ∈ l, (num x).isSome = true
  · rw [if_pos h'] at h; cases h
  · rw [if_neg]
    intro h2
    exact h' fun x hx => h2 x (by simp [hx])

set_option maxRecDepth 100000 in
set_option maxHeartbeats 1000000 in
set_option linter.unusedSimpArgs false in
theorem line2_any (B b : Nat) (fv av uv : Value) (cs : List Value) (st : St) (l : ByteArray) (hl : l.size ≤ 1000000) (hub : st.uses.length ≤ 1000000) (ha : st.args = []) (w : World) (hB : B ≤ w.heap.size) (hR : Rf B w b fv av uv cs st) :
    Calls Tryz.prog 23 #[.pointer (some ⟨b, 0, none⟩), .int .i64 2, .string l] w (LinePost B b 2 l st w) := by
  have SP := refSplit_any l hl w
  have hne := words_ne l
  have HLN := hide (show lineL 2 l st = (mainL (wordsOf l)).map fun p => { st with args := p.2, uses := st.uses ++ [⟨p.1, 2, -1, 0⟩] } from by unfold lineL; rw [if_neg (by decide), if_pos rfl])
  have HSZ := hide (show ∀ s ∈ wordsOf l, s.size ≤ 1000000 from fun s hs => by
    have := words_le hs
    omega)
  generalize wordsOf l = ws at SP hne HLN HSZ
  go_enter Tryz.func23, Tryz.ntmps23
  go_wp2_with (go_at_call 37; go_must (refine SP.mono ?_; rintro e w1 ⟨v, rfl, ho, hb1⟩; refine Hid.out ?_))
  refine Lib.hid ?_
  clear SP
  obtain ⟨g, cap, wcur, rfl, hgB, hw1, hwc⟩ := own_words ho hne
  have hR1 := hR.keep hb1
  have hbB := hb1.mono hB
  obtain ⟨n, hn⟩ : ∃ n, n = ws.length := ⟨_, rfl⟩
  rw [← hn] at ho ⊢
  by_cases h2 : n < 2
  · have q2 : (n : Int) < 2 := by omega
    have HF := hide (show lineL 2 l st = none by
      rw [HLN.out]
      match ws, hn with
      | [], _ => rfl
      | [_], _ => rfl
      | _ :: _ :: _, hn => simp at hn; omega)
    clear hn
    go_wp2
    exact bodyPost_ret (v := .bool false) (by simp [results, Tryz.results23, go_sem]) rfl ⟨_, rfl, hbB, .inr ⟨rfl, HF.out⟩⟩
  · obtain ⟨s0, nm, r, rfl⟩ : ∃ s0 nm r, ws = s0 :: nm :: r := by
      match ws, hn with
      | [], hn => simp at hn; omega
      | [_], hn => simp at hn; omega
      | a :: b :: r, _ => exact ⟨a, b, r, rfl⟩
    have q2 : ¬ (n : Int) < 2 := by omega
    have HM := hide (show mainL (s0 :: nm :: r) = if isWord s0 [109, 97, 105, 110] && isNameL nm.data.toList then (match numsL r with | some vs => if vs.length ≤ 8 then some (nm, vs) else none | none => none) else none from rfl)
    by_cases h10 : 10 < n
    · have q10 : (10 : Int) < (n : Int) := by omega
      have HF := hide (show lineL 2 l st = none by
        rw [HLN.out, HM.out]
        split
        · cases h : numsL r with
          | none => rfl
          | some vs =>
            have := nums_len h
            simp only
            rw [if_neg (by simp at hn; omega)]
            rfl
        · rfl)
      clear hn
      go_wp2
      exact bodyPost_ret (v := .bool false) (by simp [results, Tryz.results23, go_sem]) rfl ⟨_, rfl, hbB, .inr ⟨rfl, HF.out⟩⟩
    · have q10 : ¬ (10 : Int) < (n : Int) := by omega
      have c0 := hwc 0 s0 rfl
      have c1 := hwc 1 nm rfl
      have hgl := cell_some_lt c0
      have q0n : (0 : Int) < (n : Int) := by omega
      have q1n : (1 : Int) < (n : Int) := by omega
      have HRL := hide (show r.length + 2 = n by simp at hn; omega)
      clear hn
      cases hw0 : isWord s0 [109, 97, 105, 110] with
      | false =>
        have hw0' : (s0.toList == [109, 97, 105, 110]) = false := hw0
        have HF := hide (show lineL 2 l st = none by rw [HLN.out, HM.out, hw0]; rfl)
        go_wp2
        exact bodyPost_ret (v := .bool false) (by simp [results, Tryz.results23, go_sem]) rfl ⟨_, rfl, hbB, .inr ⟨rfl, HF.out⟩⟩
      | true =>
        have hw0' : (s0.toList == [109, 97, 105, 110]) = true := hw0
        have CN := fun w => refname_any nm (by have := HSZ.out nm (by simp); omega) w
        cases hq : isNameL nm.data.toList with
        | false =>
          rw [hq] at CN
          have HF := hide (show lineL 2 l st = none by rw [HLN.out, HM.out, hw0, hq]; rfl)
          go_wp2_with (go_at_call 15; go_must (refine (CN _).mono ?_; rintro e wz ⟨rfl, hwz⟩; replace hwz := hwz.symm; subst hwz))
          exact bodyPost_ret (v := .bool false) (by simp [results, Tryz.results23, go_sem]) rfl ⟨_, rfl, hbB, .inr ⟨rfl, HF.out⟩⟩
        | true =>
          rw [hq] at CN
          have HMM := hide (show lineL 2 l st = (match numsL r with | some vs => if vs.length ≤ 8 then some (nm, vs) else none | none => none).map fun (p : ByteArray × List Int) => ({ st with args := p.2, uses := st.uses ++ [(⟨p.1, 2, -1, 0⟩ : Use)] } : St) by
            rw [HLN.out, HM.out, hw0, hq]; rfl)
          have HWC := hide hwc
          have HW1 := hide hw1
          have HR1 := hide hR1
          have HBB := hide hbB
          have hsB : B ≤ w1.heap.size := Nat.le_trans hB hb1.size
          clear HM HLN hwc hR1 hbB
          go_wp2_with (go_at_call 15; go_must (refine (CN _).mono ?_; rintro e wz ⟨rfl, hwz⟩; replace hwz := hwz.symm; subst hwz))
          clear CN c0 hw0'
          obtain ⟨i0, hi, hz0, hz1, hz2⟩ := info_parts Tryz.info3
          go_loopw [11] (fun i wr => ∃ (k : Nat) (av' : Value) (vs : List Int), (2 ≤ k ∧ k ≤ n) ∧ i = .int .i64 (k : Nat) ∧ Hid (Rf B wr b fv av' uv cs { st with args := vs }) ∧ vs.length = k - 2 ∧ Hid (numsL (r.take (k - 2)) = some vs) ∧ Hid (Below B w wr) ∧ Hid (wr.heap[g]? = some (.cells wcur 9 (0, 0))) ∧ Hid (w1.heap.size ≤ wr.heap.size)) (fun i _ => n - (intOf i).toNat)
          case atStart => exact ⟨2, av, [], ⟨Nat.le_refl _, by omega⟩, rfl, (by refine Lib.hid ?_; have h := HR1.out; exact ⟨h.nine, h.le, h.self, h.len, h.fns, h.codes, h.apart, by have := h.args; rw [ha] at this; exact this, h.uses⟩), rfl, (by refine Lib.hid ?_; rfl), HBB, HW1, Nat.le_refl _⟩
          case round =>
            obtain ⟨k, av', vs, hk, rfl, hRf, hvl, hnv, hBr, hWr, hszr⟩ := hrel
            have hcw : ∀ j s, (s0 :: nm :: r)[j]? = some s → wr.cell? ⟨g, j, none⟩ = some (.string s) := fun j s h => by
              rw [World.cell?_of_block (hWr.out.trans HW1.out.symm)]
              exact HWC.out j s h
            have hgl' := lt_row hWr.out
            have hBw : B ≤ wr.heap.size := Nat.le_trans hsB hszr.out
            by_cases hlt' : k < n
            · have hkn : (k : Int) < (n : Int) := by omega
              have hlt : k - 2 < r.length := by have := HRL.out; omega
              have hx := List.getElem?_eq_getElem hlt
              have hxs := HSZ.out r[k - 2] (by simp)
              generalize r[k - 2] = s at hx hxs
              have c2 := hcw k s (by
                have e : (s0 :: nm :: r)[k]? = r[k - 2]? := by
                  obtain ⟨j, rfl⟩ : ∃ j, k = j + 2 := ⟨k - 2, by omega⟩
                  simp
                rw [e]; exact hx)
              have CR := fun w => readInt_any s (by omega) w
              cases hqn : num s with
              | none =>
                rw [readV_none hqn] at CR
                have HF := hide (show lineL 2 l st = none by
                  rw [HMM.out]
                  have : numsL r = none := by
                    have e : r = (r.take (k - 2) ++ [s]) ++ r.drop (k - 2 + 1) := by
                      have e1 : r.take (k - 2 + 1) = r.take (k - 2) ++ [s] := by rw [List.take_add_one, hx]; rfl
                      rw [← e1, List.take_append_drop]
                    rw [e]
                    exact nums_no (by rw [nums_snoc, hnv.out, hqn])
                  rw [this]; rfl)
                clear hx hqn hnv hlt hcw
                go_wp2_with (go_at_call 39; go_must (with_reducible refine (CR _).mono ?_; rintro e wz ⟨rfl, hwz⟩; replace hwz := hwz.symm; subst hwz))
                exact bodyPost_ret (v := .bool false) (by simp [results, Tryz.results23, go_sem]) rfl ⟨_, rfl, hBr.out, .inr ⟨rfl, HF.out⟩⟩
              | some v =>
                rw [readV_some hqn] at CR
                have HNV := hide (show numsL (r.take (k + 1 - 2)) = some (vs ++ [v]) by
                  have e1 : r.take (k + 1 - 2) = r.take (k - 2) ++ [s] := by rw [show k + 1 - 2 = k - 2 + 1 by omega]; exact (by rw [List.take_add_one, hx]; rfl)
                  rw [e1, nums_snoc, hnv.out, hqn])
                have hoa : wr.ownsRow B 3 1 av' vs.length (iV vs) := hRf.out.args
                obtain ⟨aa, ac, rfl⟩ := own_any hoa
                obtain ⟨y0, y1, y2, y3, y4, y5⟩ := hRf.out.cells
                have hbself := hRf.out.self
                have hbl := lt_row hbself
                have hvm : vs.length ≤ 100 := by omega
                have HVL := hide hvl
                clear hx hqn hnv hcw hlt hvl
                go_wp2_with (first
                  | (go_at_call 39; go_must (with_reducible refine (CR _).mono ?_; rintro e wz ⟨rfl, hwz⟩; replace hwz := hwz.symm; subst hwz))
                  | (at_builtin; go_must (refine wpList_append_own _ rfl (.tmp 99) (.tmp 101) 23 rfl B 3 i0 (.int .i64 0) 1 8 Tryz.underlying23 hi hz0 hz1 hz2 rfl (by decide) (.slice aa vs.length ac) _ _ rfl (hoa.alloc _) ⟨wr.heap.size, 0, none⟩ 1 1 [.int .i64 v] rfl rfl (cell_one_new _ _ _) (by simp [Value.oneCell']) (by unfold maxLen; omega) (by omega) (by simp; omega) ?_; intro v2 w3 ho3 hg3 _; refine Hid.out ?_)))
                refine Lib.hid ?_
                have AB := alloc_below wr (.cells #[.int .i64 v] 3)
                have hb73 := grown_heap hg3 (own_keep hoa AB) (by rw [AB.block b hbl]; exact hbself) (by decide)
                have hg73 := grown_heap hg3 (own_keep hoa AB) (by rw [AB.block g hgl']; exact hWr.out) (by decide)
                have k73 := cell_row (i := 2) hb73 rfl
                have f73 := frozen_row (i := 2) hb73
                have hgb : g ≠ b := fun e => by
                  have h1 := hWr.out
                  rw [e] at h1
                  exact tag_ne h1 (by decide) hbself
                obtain ⟨a3, c3, rfl⟩ := own_any ho3
                have R := hRf.out.arg v AB hBw ho3 hg3
                have HR9 := hide R.1
                have HB9 := hide (hBr.out.trans R.2)
                have HG9 := hide (show (w3.setCell ⟨b, 2, none⟩ (.slice a3 (vs.length + 1) c3)).heap[g]? = some (.cells wcur 9 (0, 0)) by
                  rw [Below.heap_setCell _ _ _ _ (by simpa using hgb)]
                  exact hg73)
                have HS9 := hide (show w1.heap.size ≤ (w3.setCell ⟨b, 2, none⟩ (.slice a3 (vs.length + 1) c3)).heap.size by
                  have h1 := R.2.size
                  have h2 := hszr.out
                  omega)
                have hbl3 := lt_row hb73
                clear R hb73 hg73 hg3 ho3 hoa hbself CR
                go_wp2
                go_roundw
                case rel => exact ⟨k + 1, _, vs ++ [v], ⟨by omega, by omega⟩, by go_num, HR9, by have := HVL.out; simp; omega, HNV, HB9, HG9, HS9⟩
                case measure => simp [intOf]; omega
            · have hkn : ¬ (k : Int) < (n : Int) := by omega
              have hke : k - 2 = r.length := by have := HRL.out; omega
              have HVS := hide (show numsL r = some vs by
                have := hnv.out
                rw [hke, List.take_of_length_le (Nat.le_refl _)] at this
                exact this)
              have HFIN := hide (show lineL 2 l st = some { st with args := vs, uses := st.uses ++ [⟨nm, 2, -1, 0⟩] } by
                rw [HMM.out, HVS.out]
                simp only
                rw [if_pos (by have := HRL.out; omega)]
                rfl)
              have c1' := hcw 1 nm rfl
              obtain ⟨y0, y1, y2, y3, y4, y5⟩ := hRf.out.cells
              have hou : wr.ownsRow B 61 4 uv st.uses.length (lateV st.uses) := hRf.out.uses
              have hbself := hRf.out.self
              have hbl := lt_row hbself
              have hgb' : ¬ b = g := fun e => by
                have h1 := hWr.out
                rw [← e] at h1
                exact tag_ne h1 (by decide) hbself
              clear hnv hcw hke hvl hlt'
              clear hi hz0 hz1 hz2 i0
              obtain ⟨i0, hi, hz0, hz1, hz2⟩ := info_parts Tryz.info61
              go_upto_region 19 with fail
              refine wp_region_noPanic ?_
              refine wp_region_held_drew (S := fun W => W.cell? ⟨g, 1, none⟩ = some (.string nm)) (by kernel_rfl) (by simpa using c1') (fun hHeld => ?_)
              refine takeD (i := 0) (d := some 106) (v := ?_) rfl rfl (by kernel_rfl) (by kernel_rfl) (by kernel_rfl) (fun _ _ _ h => h) (Or.inl ⟨by rfl, ?_⟩) (by assumption) ?_
              rotate_left
              · intro w hSw
                go_simp
                try (with_reducible rfl)
              try simp only [Act.put, List.setIfInBounds_toArray, List.set_cons_zero, List.set_cons_succ]
              refine takeD (i := 1) (d := some 107) (v := ?_) rfl rfl (by kernel_rfl) (by kernel_rfl) (by kernel_rfl) (fun _ _ _ h => h) (Or.inl ⟨by rfl, ?_⟩) (by assumption) ?_
              rotate_left
              · intro w hSw
                go_simp
                try (with_reducible rfl)
              try simp only [Act.put, List.setIfInBounds_toArray, List.set_cons_zero, List.set_cons_succ]
              refine takeD (i := 2) (d := some 108) (v := ?_) rfl rfl (by kernel_rfl) (by kernel_rfl) (by kernel_rfl) (fun _ _ _ h => h) (Or.inl ⟨by rfl, ?_⟩) (by assumption) ?_
              rotate_left
              · intro w hSw
                go_simp
                try (with_reducible rfl)
              try simp only [Act.put, List.setIfInBounds_toArray, List.set_cons_zero, List.set_cons_succ]
              refine takeD (i := 3) (d := some 109) (v := ?_) rfl rfl (by kernel_rfl) (by kernel_rfl) (by kernel_rfl) (fun _ _ _ h => h) (Or.inl ⟨by rfl, ?_⟩) (by assumption) ?_
              rotate_left
              · intro w hSw
                go_simp
                try (with_reducible rfl)
              try simp only [Act.put, List.setIfInBounds_toArray, List.set_cons_zero, List.set_cons_succ]
              refine takeD (i := 5) (d := some 111) (v := ?_) rfl rfl (by kernel_rfl) (by kernel_rfl) (by kernel_rfl) (fun _ _ _ h => h) (Or.inl ⟨by rfl, ?_⟩) (by assumption) ?_
              rotate_left
              · intro w hSw
                go_simp
                try (with_reducible rfl)
              try simp only [Act.put, List.setIfInBounds_toArray, List.set_cons_zero, List.set_cons_succ]
              refine takeD (i := 6) (d := some 112) (v := ?_) rfl rfl (by kernel_rfl) (by kernel_rfl) (by kernel_rfl) (fun _ _ _ h => h) (Or.inl ⟨by rfl, ?_⟩) (by assumption) ?_
              rotate_left
              · intro w hSw
                go_simp
                try (with_reducible rfl)
              try simp only [Act.put, List.setIfInBounds_toArray, List.set_cons_zero, List.set_cons_succ]
              refine takeD (i := 7) (d := some 113) (v := ?_) rfl rfl (by kernel_rfl) (by kernel_rfl) (by kernel_rfl) (fun _ _ _ h => h) (Or.inl ⟨by rfl, ?_⟩) (by assumption) ?_
              rotate_left
              · intro w hSw
                go_simp
                try (with_reducible rfl)
              try simp only [Act.put, List.setIfInBounds_toArray, List.set_cons_zero, List.set_cons_succ]
              refine takeD (i := 8) (d := some 114) (v := ?_) rfl rfl (by kernel_rfl) (by kernel_rfl) (by kernel_rfl) (fun _ _ _ h => h) (Or.inl ⟨by rfl, ?_⟩) (by assumption) ?_
              rotate_left
              · intro w hSw
                go_simp
                try (with_reducible rfl)
              try simp only [Act.put, List.setIfInBounds_toArray, List.set_cons_zero, List.set_cons_succ]
              refine takeD (i := 9) (d := some 115) (v := ?_) rfl rfl (by kernel_rfl) (by kernel_rfl) (by kernel_rfl) (fun _ _ _ h => h) (Or.inl ⟨by rfl, ?_⟩) (by assumption) ?_
              rotate_left
              · intro w hSw
                go_simp
                try (with_reducible rfl)
              try simp only [Act.put, List.setIfInBounds_toArray, List.set_cons_zero, List.set_cons_succ]
              refine wpAnyH_ready (rs := [4, 10]) (by kernel_rfl) (by simp) ?_
              refine AllReadyH.cons rfl (fun K hK => ?_) (AllReadyH.cons rfl (fun K hK => ?_) AllReadyH.nil)
              · go_simp
                refine hK.out _ _ hHeld (fun hHeld => ?_)
                clear hK K
                try simp only [Act.put, List.setIfInBounds_toArray, List.set_cons_zero, List.set_cons_succ]
                refine wpAnyH_ready (rs := [10]) (by kernel_rfl) (by simp) ?_
                refine AllReadyH.cons rfl (fun K hK => ?_) AllReadyH.nil
                go_simp
                clear hHeld
                refine hK.out _ _ (by simp [World.cell?_alloc_some, c1']) (fun hHeld => ?_)
                clear hK K
                try simp only [Act.put, List.setIfInBounds_toArray, List.set_cons_zero, List.set_cons_succ]
                refine wpAnyH_ready (rs := [11]) (by kernel_rfl) (by simp) ?_
                refine AllReadyH.cons rfl (fun K hK => ?_) AllReadyH.nil
                rw [if_pos (by rfl)]
                refine wp_append_own _ (.tmp 110) (.tmp 116) 56 rfl B 61 i0 (.agg #[.int .i64 0, .int .i64 0, .int .i64 0, .string ⟨#[]⟩]) 4 40 Tryz.underlying56 hi hz0 hz1 hz2 rfl (by decide) uv st.uses.length (lateV st.uses) rfl (by exact hou.alloc _) ⟨wr.heap.size, 0, none⟩ 1 1 [.int .i64 2, .int .i64 (-1), .int .i64 0, .string nm] (by rfl) rfl (by exact cells_new wr _ 61) (by simp [Value.oneCell']) (by unfold maxLen; omega) (by omega) (by simp; omega) ?_
                intro v3 w3 ho3 hg3 _
                have hb73 := grown_heap hg3 (own_keep hou ((alloc_below wr (.cells #[.int .i64 2, .int .i64 (-1), .int .i64 0, .string nm] 61)).drew)) (by rw [((alloc_below wr (.cells #[.int .i64 2, .int .i64 (-1), .int .i64 0, .string nm] 61)).drew).block b (lt_row hbself)]; exact hbself) (by decide)
                have k73 := cell_row (i := 5) hb73 rfl
                have f73 := frozen_row (i := 5) hb73
                obtain ⟨a3, c3, rfl⟩ := own_any ho3
                clear hHeld
                refine hK.out _ _ (cell_grown' ((alloc_below wr (.cells #[.int .i64 2, .int .i64 (-1), .int .i64 0, .string nm] 61)).drew) hg3 hou c1' hWr.out (by decide)) (fun hHeld => ?_)
                clear hK K
                try simp only [Act.put, List.setIfInBounds_toArray, List.set_cons_zero, List.set_cons_succ]
                refine takeD (i := 12) (d := some 118) (v := ?_) rfl rfl (by kernel_rfl) (by kernel_rfl) (by kernel_rfl) (fun _ _ _ h => h) (Or.inl ⟨by rfl, ?_⟩) (by assumption) ?_
                rotate_left
                · intro w hSw
                  go_simp
                  try (with_reducible rfl)
                try simp only [Act.put, List.setIfInBounds_toArray, List.set_cons_zero, List.set_cons_succ]
                refine takeD (i := 13) (d := some 119) (v := ?_) rfl rfl (by kernel_rfl) (by kernel_rfl) (by kernel_rfl) (fun _ _ _ h => h) (Or.inl ⟨by rfl, ?_⟩) (by assumption) ?_
                rotate_left
                · intro w hSw
                  go_simp
                  try (with_reducible rfl)
                try simp only [Act.put, List.setIfInBounds_toArray, List.set_cons_zero, List.set_cons_succ]
                refine wpAnyH_ready (rs := [14]) (by kernel_rfl) (by simp) ?_
                refine AllReadyH.cons rfl (fun K hK => ?_) AllReadyH.nil
                go_simp
                refine hK.out _ _ (by rw [World.cell?_setCell_far _ _ _ _ (by simpa using hgb')]; exact hHeld) (fun hHeld => ?_)
                clear hK K
                try simp only [Act.put, List.setIfInBounds_toArray, List.set_cons_zero, List.set_cons_succ]
                refine wpAnyH_done (by kernel_rfl) ?_ _
                refine NoPanic.normal ?_
                have R := hRf.out.use ⟨nm, 2, -1, 0⟩ ((alloc_below wr (.cells #[.int .i64 2, .int .i64 (-1), .int .i64 0, .string nm] 61)).drew) hBw ho3 hg3
                have HR9 := hide R.1
                have HB9 := hide (hBr.out.trans R.2)
                go_wp2
                exact bodyPost_ret (v := .bool true) (by simp [results, Tryz.results23, go_sem]) rfl ⟨_, rfl, HB9.out, .inl ⟨rfl, _, _, _, _, _, HFIN.out, HR9.out⟩⟩
              · go_simp
                clear hHeld
                refine hK.out _ _ (by simp [World.cell?_alloc_some, c1']) (fun hHeld => ?_)
                clear hK K
                try simp only [Act.put, List.setIfInBounds_toArray, List.set_cons_zero, List.set_cons_succ]
                have k7a := keep_cell y5 (alloc_below wr (.cells #[.int .i64 2, .int .i64 (-1), .int .i64 0, .string nm] 61))
                refine wpAnyH_ready (rs := [4]) (by kernel_rfl) (by simp) ?_
                refine AllReadyH.cons rfl (fun K hK => ?_) AllReadyH.nil
                go_simp
                refine hK.out _ _ hHeld (fun hHeld => ?_)
                clear hK K
                try simp only [Act.put, List.setIfInBounds_toArray, List.set_cons_zero, List.set_cons_succ]
                refine wpAnyH_ready (rs := [11]) (by kernel_rfl) (by simp) ?_
                refine AllReadyH.cons rfl (fun K hK => ?_) AllReadyH.nil
                rw [if_pos (by rfl)]
                refine wp_append_own _ (.tmp 110) (.tmp 116) 56 rfl B 61 i0 (.agg #[.int .i64 0, .int .i64 0, .int .i64 0, .string ⟨#[]⟩]) 4 40 Tryz.underlying56 hi hz0 hz1 hz2 rfl (by decide) uv st.uses.length (lateV st.uses) rfl (by exact hou.alloc _) ⟨wr.heap.size, 0, none⟩ 1 1 [.int .i64 2, .int .i64 (-1), .int .i64 0, .string nm] (by rfl) rfl (by exact cells_new wr _ 61) (by simp [Value.oneCell']) (by unfold maxLen; omega) (by omega) (by simp; omega) ?_
                intro v3 w3 ho3 hg3 _
                have hb73 := grown_heap hg3 (own_keep hou ((alloc_below wr (.cells #[.int .i64 2, .int .i64 (-1), .int .i64 0, .string nm] 61)).drew)) (by rw [((alloc_below wr (.cells #[.int .i64 2, .int .i64 (-1), .int .i64 0, .string nm] 61)).drew).block b (lt_row hbself)]; exact hbself) (by decide)
                have k73 := cell_row (i := 5) hb73 rfl
                have f73 := frozen_row (i := 5) hb73
                obtain ⟨a3, c3, rfl⟩ := own_any ho3
                clear hHeld
                refine hK.out _ _ (cell_grown' ((alloc_below wr (.cells #[.int .i64 2, .int .i64 (-1), .int .i64 0, .string nm] 61)).drew) hg3 hou c1' hWr.out (by decide)) (fun hHeld => ?_)
                clear hK K
                try simp only [Act.put, List.setIfInBounds_toArray, List.set_cons_zero, List.set_cons_succ]
                refine takeD (i := 12) (d := some 118) (v := ?_) rfl rfl (by kernel_rfl) (by kernel_rfl) (by kernel_rfl) (fun _ _ _ h => h) (Or.inl ⟨by rfl, ?_⟩) (by assumption) ?_
                rotate_left
                · intro w hSw
                  go_simp
                  try (with_reducible rfl)
                try simp only [Act.put, List.setIfInBounds_toArray, List.set_cons_zero, List.set_cons_succ]
                refine takeD (i := 13) (d := some 119) (v := ?_) rfl rfl (by kernel_rfl) (by kernel_rfl) (by kernel_rfl) (fun _ _ _ h => h) (Or.inl ⟨by rfl, ?_⟩) (by assumption) ?_
                rotate_left
                · intro w hSw
                  go_simp
                  try (with_reducible rfl)
                try simp only [Act.put, List.setIfInBounds_toArray, List.set_cons_zero, List.set_cons_succ]
                refine wpAnyH_ready (rs := [14]) (by kernel_rfl) (by simp) ?_
                refine AllReadyH.cons rfl (fun K hK => ?_) AllReadyH.nil
                go_simp
                refine hK.out _ _ (by rw [World.cell?_setCell_far _ _ _ _ (by simpa using hgb')]; exact hHeld) (fun hHeld => ?_)
                clear hK K
                try simp only [Act.put, List.setIfInBounds_toArray, List.set_cons_zero, List.set_cons_succ]
                refine wpAnyH_done (by kernel_rfl) ?_ _
                refine NoPanic.normal ?_
                have R := hRf.out.use ⟨nm, 2, -1, 0⟩ ((alloc_below wr (.cells #[.int .i64 2, .int .i64 (-1), .int .i64 0, .string nm] 61)).drew) hBw ho3 hg3
                have HR9 := hide R.1
                have HB9 := hide (hBr.out.trans R.2)
                go_wp2
                exact bodyPost_ret (v := .bool true) (by simp [results, Tryz.results23, go_sem]) rfl ⟨_, rfl, HB9.out, .inl ⟨rfl, _, _, _, _, _, HFIN.out, HR9.out⟩⟩
end Go.Proofs.YtfnloomcianbiaaGreatDoor
