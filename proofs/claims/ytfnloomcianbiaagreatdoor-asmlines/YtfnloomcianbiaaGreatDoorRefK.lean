/- gleanerref4's line from the third line on. -/
import Derived.Test.YtfnloomcianbiaaGreatDoorRefM
import Derived.Test.YtfnloomcianbiaaGreatDoorRefQ
namespace Go.Proofs.YtfnloomcianbiaaGreatDoor
open Go.RowKit Go.ChangeShapes Go.WideShapes Go.ChangeAt Go.Deep

theorem isInd_iff (l : ByteArray) : isInd l.data.toList = (decide (2 < l.size) && ((l.extract 0 2).toList == [32, 32])) := by
  rw [ByteArray.toList_eq, extract_bs l 0 2, bs_list, List.drop_zero, Lib.size_eq]
  generalize l.data.toList = d
  match d with
  | [] => rfl
  | [a] => simp [isInd]
  | [a, b] => simp [isInd]
  | a :: b :: c :: r =>
    by_cases h1 : a = 32
    · subst h1
      by_cases h2 : b = 32
      · subst h2; simp [isInd]
      · simp [isInd, h2]
    · simp [isInd, h1]
theorem ind_tail (l : ByteArray) : l.extract 2 l.size = bs (l.data.toList.drop 2) := by
  rw [extract_bs l 2 l.size, List.take_of_length_le]
  rw [List.length_drop, Lib.size_eq]
  exact Nat.le_refl _
theorem words_count (s : ByteArray) : (wordsOf s).length ≤ s.size + 1 := by
  have hl : (wordsOf s).length = Lib.countB s sp + 1 := Lib.splitB_all sp (by decide) 0 _ s rfl
  have := Lib.countB_le sp (by decide) _ s (Nat.le_refl _)
  omega
theorem line_ind {k : Int} (h3 : 3 ≤ k) {l : ByteArray} {st : St} (h : isInd l.data.toList = true) : lineL k l st = match insW (wordsOf (bs (l.data.toList.drop 2))), st.funcs.getLast? with
    | some x, some f => if f.code.length < 256 then some (St.add { st with line := k } st.funcs.dropLast f x) else none
    | _, _ => none := by
  unfold lineL
  rw [if_neg (by omega), if_neg (by omega), if_pos h]
  rfl
theorem line_fun {k : Int} (h3 : 3 ≤ k) {l : ByteArray} {st : St} (h : isInd l.data.toList = false) : lineL k l st = (funcL (wordsOf l) st.funcs).map fun f => { st with funcs := st.funcs ++ [f] } := by
  unfold lineL
  rw [if_neg (by omega), if_neg (by omega), h, if_neg (by decide)]

set_option maxRecDepth 100000 in
set_option maxHeartbeats 2000000 in
set_option linter.unusedSimpArgs false in
theorem lineI_any (B b : Nat) (fv av uv : Value) (cs : List Value) (st : St) (k : Int) (h3 : 3 ≤ k) (l : ByteArray) (hl : l.size ≤ 1000000) (hub : st.uses.length ≤ 1000000) (hfb : st.funcs.length ≤ 1000000) (hcb : ∀ f ∈ st.funcs, f.code.length ≤ 1000000) (hind : isInd l.data.toList = true) (w : World) (hB : B ≤ w.heap.size) (hR : Rf B w b fv av uv cs st) :
    Calls Tryz.prog 23 #[.pointer (some ⟨b, 0, none⟩), .int .i64 k, .string l] w (LinePost B b k l st w) := by
  have SP := refSplit_any l hl w
  have hi2 := isInd_iff l
  rw [hind] at hi2
  have hi3 : 2 < l.size ∧ ((l.extract 0 2).toList == [32, 32]) = true := by
    have := hi2.symm
    simp only [Bool.and_eq_true, decide_eq_true_eq] at this
    exact this
  obtain ⟨hs2, hq2⟩ := hi3
  have HLN := hide (line_ind (st := st) h3 hind)
  have HTL := hide (ind_tail l)
  have hts : (bs (l.data.toList.drop 2)).size ≤ 1000000 := by
    rw [bs_size, List.length_drop, ← Lib.size_eq]
    omega
  have SP2 := fun w => refSplit_any (bs (l.data.toList.drop 2)) hts w
  have hne := words_ne (bs (l.data.toList.drop 2))
  have HSZ := hide (show ∀ s ∈ wordsOf (bs (l.data.toList.drop 2)), s.size ≤ 1000000 from fun s hs => by
    have := words_le hs
    omega)
  have HLEN := hide (show (wordsOf (bs (l.data.toList.drop 2))).length ≤ 1000000 from by
    have := words_count (bs (l.data.toList.drop 2))
    rw [bs_size, List.length_drop, ← Lib.size_eq] at this
    omega)
  generalize wordsOf (bs (l.data.toList.drop 2)) = ws at SP2 hne HLN HSZ HLEN
  rw [← HTL.out] at SP2
  generalize wordsOf l = ws0 at SP
  have q1 : ¬ k = 1 := by omega
  have q2 : ¬ k = 2 := by omega
  have hs2' : (2 : Int) < (l.size : Int) := by omega
  clear hi2 hind hts
  go_enter Tryz.func23, Tryz.ntmps23
  go_wp2_with (go_at_call 37; go_must ((with_reducible refine SP.mono ?_); rintro e w1 ⟨v, rfl, ho, hb1⟩; clear SP; refine Hid.out ?_))
  refine Lib.hid ?_
  have SP3 := SP2 w1
  have hR1 := hR.keep hb1
  have hbB := hb1.mono hB
  go_wp2_with (go_at_call 37; go_must ((with_reducible refine SP3.mono ?_); rintro e w2 ⟨v2, rfl, ho2, hb2⟩; refine Hid.out ?_))
  refine Lib.hid ?_
  clear SP2 SP3
  obtain ⟨g, cap, wcur, rfl, hgB, hw2, hwc⟩ := own_words ho2 hne
  have hR2 := hR1.keep hb2
  have hb2B : Below B w w2 := hbB.trans (hb2.mono (Nat.le_trans hB hb1.size))
  have hBw2 : B ≤ w2.heap.size := Nat.le_trans hB hb2B.size
  have IN := refIns_any B b fv av uv cs st k ws g ws.length cap wcur rfl (by
    have := hne
    cases ws with
    | nil => exact absurd rfl this
    | cons a r => simp) HLEN.out hfb hub hcb HSZ.out w2 hBw2 hR2 hw2 hwc
  have HPOST := hide (show ∀ e w', RInsPost B b st k ws w2 e w' → LinePost B b k l st w e w' from fun e w' h => by
    obtain ⟨ok, he, h⟩ := h
    rcases h with ⟨rfl, hb, x, fs, f, fv', av', uv', cs', h1, h2, h4, h5⟩ | ⟨rfl, hb, h⟩
    · refine ⟨true, he, hb2B.trans hb, .inl ⟨rfl, _, fv', av', uv', cs', ?_, h5⟩⟩
      rw [HLN.out, h1, h2]
      simp only [List.getLast?_append, List.getLast?_singleton, Option.some_or, List.dropLast_concat]
      rw [if_pos h4]
    · refine ⟨false, he, hb2B.trans (hb.mono hBw2), .inr ⟨rfl, ?_⟩⟩
      rw [HLN.out]
      rcases h with h | h | ⟨fs, f, h, h'⟩
      · rw [h]
      · rw [h]
        cases insW ws <;> rfl
      · rw [h]
        simp only [List.getLast?_append, List.getLast?_singleton, Option.some_or]
        cases insW ws with
        | none => rfl
        | some x => simp only; rw [if_neg (by omega)])
  clear HLN ho ho2 hb1 hb2 hwc hw2 hR2 hR1
  go_wp2_with (go_at_call 40; go_must ((with_reducible refine IN.mono ?_); rintro e w3 hpost; obtain ⟨ok, rfl, hrest⟩ := HPOST.out _ _ hpost; refine Hid.out ?_))
  refine Lib.hid ?_
  go_wp2
  exact bodyPost_ret (v := .bool ok) (by simp [results, Tryz.results23, go_sem]) rfl ⟨ok, rfl, hrest⟩

set_option maxRecDepth 100000 in
set_option maxHeartbeats 3000000 in
set_option linter.unusedSimpArgs false in
theorem lineF_any (B b : Nat) (fv av uv : Value) (cs : List Value) (st : St) (k : Int) (h3 : 3 ≤ k) (l : ByteArray) (hl : l.size ≤ 1000000) (hfb : st.funcs.length ≤ 32) (hind : isInd l.data.toList = false) (w : World) (hB : B ≤ w.heap.size) (hR : Rf B w b fv av uv cs st) :
    Calls Tryz.prog 23 #[.pointer (some ⟨b, 0, none⟩), .int .i64 k, .string l] w (LinePost B b k l st w) := by
  have SP := refSplit_any l hl w
  have hi2 := isInd_iff l
  rw [hind] at hi2
  have hne := words_ne l
  have HLN := hide (line_fun (st := st) h3 hind)
  have HSZ := hide (show ∀ s ∈ wordsOf l, s.size ≤ 1000000 from fun s hs => by
    have := words_le hs
    omega)
  generalize wordsOf l = ws at SP hne HLN HSZ
  have q1 : ¬ k = 1 := by omega
  have q2 : ¬ k = 2 := by omega
  have q1b : (k == 1) = false := by simpa using q1
  have q2b : (k == 2) = false := by simpa using q2
  have HPRE := hide (show (2 < l.size ∧ ((l.extract 0 2).toList == [32, 32]) = false) ∨ ¬ 2 < l.size by
    by_cases h : 2 < l.size
    · left
      refine ⟨h, ?_⟩
      rw [decide_eq_true h, Bool.true_and] at hi2
      exact hi2.symm
    · exact .inr h)
  clear hi2 hind
  go_enter Tryz.func23, Tryz.ntmps23
  go_wp2_with (go_at_call 37; go_must ((with_reducible refine SP.mono ?_); rintro e w1 ⟨v, rfl, ho, hb1⟩; clear SP; refine Hid.out ?_))
  refine Lib.hid ?_
  obtain ⟨g, cap, wcur, rfl, hgB, hw1, hwc⟩ := own_words ho hne
  have hR1 := hR.keep hb1
  have hbB := hb1.mono hB
  obtain ⟨n, hn⟩ : ∃ n, n = ws.length := ⟨_, rfl⟩
  rw [← hn] at ho ⊢
  have HNN := hide hn
  clear hn
  have hB1 : B ≤ w1.heap.size := Nat.le_trans hB hb1.size
  clear hgB ho hb1 hR
  go_upto_region 21 with fail
  go_cut [120] from 121 (fun s wx => s = .bool false ∧ wx = w1)
  case first =>
    rcases HPRE.out with ⟨h1, h2⟩ | h1
    · have h1' : (2 : Int) < (l.size : Int) := by omega
      go_wp2
      go_meet
      exact ⟨rfl, rfl⟩
    · have h1' : ¬ (2 : Int) < (l.size : Int) := by omega
      go_wp2
      go_meet
      exact ⟨rfl, rfl⟩
  case rest =>
    obtain ⟨rfl, rfl⟩ := hcut
    by_cases h4 : n = 4
    · obtain ⟨s0, nm, p0, p1, rfl⟩ : ∃ s0 nm p0 p1, ws = [s0, nm, p0, p1] := by
        have hn := HNN.out
        match ws, hn with
        | [a, b, c, d], _ => exact ⟨a, b, c, d, rfl⟩
        | [], hn => simp at hn; omega
        | [_], hn => simp at hn; omega
        | [_, _], hn => simp at hn; omega
        | [_, _, _], hn => simp at hn; omega
        | _ :: _ :: _ :: _ :: _ :: _, hn => simp at hn; omega
      subst h4
      have HFL := hide (show funcL [s0, nm, p0, p1] st.funcs = if isWord s0 [102, 117, 110, 99] && isNameL nm.data.toList then (match numsL [p0, p1] with | some [x, y] => if funcOk nm st.funcs then some ⟨nm, x, y, []⟩ else none | _ => none) else none from rfl)
      have c0 := hwc 0 s0 rfl
      have c1 := hwc 1 nm rfl
      have c2 := hwc 2 p0 rfl
      have c3 := hwc 3 p1 rfl
      have hgl := cell_some_lt c0
      cases hw0 : isWord s0 [102, 117, 110, 99] with
      | false =>
        have hw0' : (s0.toList == [102, 117, 110, 99]) = false := hw0
        have HF := hide (show lineL k l st = none by rw [HLN.out, HFL.out, hw0]; rfl)
        go_wp2
        exact bodyPost_ret (v := .bool false) (by simp [results, Tryz.results23, go_sem]) rfl ⟨_, rfl, hbB, .inr ⟨rfl, HF.out⟩⟩
      | true =>
        have hw0' : (s0.toList == [102, 117, 110, 99]) = true := hw0
        have CN := fun w => refname_any nm (by have := HSZ.out nm (by simp); omega) w
        cases hq : isNameL nm.data.toList with
        | false =>
          rw [hq] at CN
          have HF := hide (show lineL k l st = none by rw [HLN.out, HFL.out, hw0, hq]; rfl)
          go_wp2_with (go_at_call 15; go_must (refine (CN _).mono ?_; rintro e wz ⟨rfl, hwz⟩; replace hwz := hwz.symm; subst hwz))
          exact bodyPost_ret (v := .bool false) (by simp [results, Tryz.results23, go_sem]) rfl ⟨_, rfl, hbB, .inr ⟨rfl, HF.out⟩⟩
        | true =>
          rw [hq] at CN
          obtain ⟨y0, y1, y2, y3, y4, y5⟩ := hR1.cells
          obtain ⟨fa, fc, rfl, hfr⟩ := hR1.freads
          have hbl := lt_row hR1.self
          obtain ⟨m, hm⟩ : ∃ m, m = st.funcs.length := ⟨_, rfl⟩
          rw [← hm] at y0 hfb
          have HM := hide hm
          have HMM := hide (show lineL k l st = (match numsL [p0, p1] with | some [x, y] => if funcOk nm st.funcs then some (⟨nm, x, y, []⟩ : Fun) else none | _ => none).map fun (f : Fun) => ({ st with funcs := st.funcs ++ [f] } : St) by
            rw [HLN.out, HFL.out, hw0, hq]; rfl)
          clear HFL HLN
          have HOKF := hide (show funcOk nm st.funcs = (decide (findF nm st.funcs < 0) && decide (st.funcs.length ≠ 32)) from rfl)
          have HNO := hide (fun (h : funcOk nm st.funcs = false) => show lineL k l st = none by
            rw [HMM.out, h]
            cases hN : numsL [p0, p1] with
            | none => rfl
            | some vs =>
              match vs with
              | [x, y] => rfl
              | [] => rfl
              | [_] => rfl
              | _ :: _ :: _ :: _ => rfl)
          have HR1 := hide hR1
          by_cases h32 : 32 ≤ m
          · have q32 : (32 : Int) ≤ (m : Int) := by omega
            have HF := hide (HNO.out (by
              rw [HOKF.out, decide_eq_false (show ¬ st.funcs.length ≠ 32 by rw [← hm]; omega)]; simp))
            clear hm HMM
            go_wp2_with (go_at_call 15; go_must (refine (CN _).mono ?_; rintro e wz ⟨rfl, hwz⟩; replace hwz := hwz.symm; subst hwz))
            exact bodyPost_ret (v := .bool false) (by simp [results, Tryz.results23, go_sem]) rfl ⟨_, rfl, hbB, .inr ⟨rfl, HF.out⟩⟩
          · have q32 : ¬ (32 : Int) ≤ (m : Int) := by omega
            have hm32 : m < 32 := by omega
            clear hm h32
            go_wp2_with (go_at_call 15; go_must (refine (CN _).mono ?_; rintro e wz ⟨rfl, hwz⟩; replace hwz := hwz.symm; subst hwz))
            clear CN c0 q32
            have HC1 := hide c1
            have HC2 := hide c2
            have HC3 := hide c3
            have HY0 := hide y0
            have HBB := hide hbB
            have HW1 := hide hw1
            have HFR := hide hfr
            clear c1 c2 c3 y0 y1 y2 y3 y4 y5 hbB hR1 hwc hw1 hfr
            obtain ⟨wa, hwa⟩ : ∃ wa, wa = wc := ⟨_, rfl⟩
            subst hwa
            go_loopw [14] (fun i wr => ∃ kk : Nat, kk ≤ m ∧ i = .int .i64 (kk : Nat) ∧ Hid (Below wa.heap.size wa wr) ∧ Hid (∀ q g, q < kk → st.funcs[q]? = some g → (g.name.toList == nm.toList) = false)) (fun i _ => m - (intOf i).toNat)
            case atStart => exact ⟨0, Nat.zero_le _, rfl, Below.refl _ _, fun q g hq => absurd hq (Nat.not_lt_zero _)⟩
            case round =>
              obtain ⟨kk, hkk, rfl, hbq, hdif⟩ := hrel
              have z0 := keep_cell HY0.out hbq.out
              have z1 := keep_cell HC1.out hbq.out
              have hzl := cell_some_lt z0
              have hzg := cell_some_lt z1
              by_cases hlq : kk < m
              · have hkf : kk < st.funcs.length := by have := HM.out; omega
                have hkl : kk < (frs st.funcs cs).length := by simp [frs, HR1.out.len]; exact hkf
                have hrow := frs_row HR1.out.len hkf
                obtain ⟨fb, fo, rfl, hfbl, hcl⟩ : ∃ fb fo, fa = some ⟨fb, fo, none⟩ ∧ fb < wa.heap.size ∧ ∀ j, j < (frs st.funcs cs).length → ∀ i v, (FR.enc (frs st.funcs cs)[j]!)[i]? = some v → wa.cell? ⟨fb, fo + j * 4 + i, none⟩ = some v := by
                  rcases HFR.out with ⟨_, h⟩ | h
                  · rw [h] at hkl; simp at hkl
                  · exact h
                have v0 := keep_cell (hcl kk hkl 0 _ (by rw [hrow]; rfl)) hbq.out
                simp only [Nat.add_zero, Fun.row] at v0
                have hgx := List.getElem?_eq_getElem hkf
                generalize st.funcs[kk] = fq at v0 hgx
                have hvl := cell_some_lt v0
                have hlq' : (kk : Int) < (m : Int) := by omega
                have HQ := hide hbq.out
                have HB9 := hide (below_drewN (HBB.out.trans (hbq.out.mono hB1)) 0)
                clear hcl hrow hkl
                cases he : (fq.name.toList == nm.toList) with
                | true =>
                  have HF := hide (HNO.out (by
                    have h0 : ¬ findF nm st.funcs < 0 := by
                      have := findFrom_pos nm st.funcs 0 ⟨fq, List.mem_of_getElem? hgx, he⟩
                      show ¬ findFrom nm st.funcs 0 < 0
                      omega
                    rw [HOKF.out, decide_eq_false h0]; rfl))
                  have HBn := hide (fun nq => below_drewN (HBB.out.trans (hbq.out.mono hB1)) nq)
                  clear hbq hgx hdif
                  go_wp2
                  go_quiet (fail)
                  go_wp2
                  exact bodyPost_ret (v := .bool false) (by simp [results, Tryz.results23, go_sem]) rfl ⟨_, rfl, HBn.out _, .inr ⟨rfl, HF.out⟩⟩
                | false =>
                  have HD := hide (show ∀ q g, q < kk + 1 → st.funcs[q]? = some g → (g.name.toList == nm.toList) = false from fun q g' hq' hg' => by
                    rcases Nat.lt_or_ge q kk with h | h
                    · exact hdif.out q g' h hg'
                    · have : q = kk := by omega
                      subst this
                      rw [hgx] at hg'
                      injection hg' with hg'
                      rw [← hg']; exact he)
                  clear hbq hgx hdif
                  go_wp2
                  go_quiet (fail)
                  go_wp2
                  go_roundw
                  case rel => exact ⟨kk + 1, by omega, by go_num, below_drewN HQ.out _, HD⟩
                  case measure => simp [intOf]; omega
              · have hlq' : ¬ (kk : Int) < (m : Int) := by omega
                have HFO := hide (show funcOk nm st.funcs = true by
                  have h0 : findF nm st.funcs < 0 := findFrom_neg nm st.funcs 0 fun g hg => by
                    obtain ⟨q, hq, rfl⟩ := List.getElem_of_mem hg
                    exact hdif.out q _ (by have := HM.out; omega) (List.getElem?_eq_getElem hq)
                  rw [HOKF.out, decide_eq_true h0, decide_eq_true (show st.funcs.length ≠ 32 by have := HM.out; omega)]; rfl)
                have z2 := keep_cell HC2.out hbq.out
                have z3 := keep_cell HC3.out hbq.out
                obtain ⟨x, p, e1, k1⟩ := readV_is p0
                obtain ⟨y, q, e2, k2⟩ := readV_is p1
                have TW := fun w => two_is p0 p1 (by have := HSZ.out p0 (by simp); omega) (by have := HSZ.out p1 (by simp); omega) e1 e2 w
                have HNM := hide (show ((p && q) = true ∧ numsL [p0, p1] = some [x, y]) ∨ ((p && q) = false ∧ numsL [p0, p1] = none) by
                  rw [nums_two]
                  rcases k1 with ⟨rfl, h1⟩ | ⟨rfl, h1⟩ <;> rcases k2 with ⟨rfl, h2⟩ | ⟨rfl, h2⟩ <;> simp [h1, h2])
                clear e1 e2 k1 k2
                generalize (p && q) = pq at TW HNM
                have HFIN := hide (show (pq = true ∧ lineL k l st = some { st with funcs := st.funcs ++ [⟨nm, x, y, []⟩] }) ∨ (pq = false ∧ lineL k l st = none) by
                  rw [HMM.out, HFO.out]
                  rcases HNM.out with ⟨h, h'⟩ | ⟨h, h'⟩
                  · exact .inl ⟨h, by rw [h']; rfl⟩
                  · exact .inr ⟨h, by rw [h']; rfl⟩)
                clear hdif
                go_upto_region 30 with fail
                go_quiet (first | (go_at_call 38; with_reducible exact Calls.quiet_of_same (TW _)))
                have hbd : Below wa.heap.size wa (wr.drewN nq) := below_drewN hbq.out nq
                have HR2 := hide (HR1.out.keep hbd)
                have hb2 : Below B w (wr.drewN nq) := HBB.out.trans (hbd.mono hB1)
                have x1 := keep_cell HC1.out hbd
                have HW2 := hide ((hbd.block _ (lt_row HW1.out)).trans HW1.out)
                generalize wr.drewN nq = wc at HR2 hb2 x1 HW2 ⊢
                have x0 := HR2.out.cells.1
                have hof : wc.ownsRow B 45 4 (.slice fa st.funcs.length fc) st.funcs.length (funV (frs st.funcs cs)) := HR2.out.fns
                rw [← HM.out] at hof x0
                have hbself := HR2.out.self
                rw [← HM.out] at hbself
                have hBw2 : B ≤ wc.heap.size := Nat.le_trans hB hb2.size
                have hgb' : ¬ b = g := fun e => by
                  have h1 := HW2.out
                  rw [← e] at h1
                  exact tag_ne h1 (by decide) hbself
                obtain ⟨i0, hi, hz0, hz1, hz2⟩ := info_parts Tryz.info45
                clear z0 z1 z2 z3 TW HNM hbq hbd
                go_upto_region 31 with fail
                refine wp_region_noPanic ?_
                refine wp_region_held_drew (S := fun W => W.cell? ⟨g, 1, none⟩ = some (.string nm)) (by kernel_rfl) (by simpa using x1) (fun hHeld => ?_)
                refine takeD (i := 0) (d := some 194) (v := ?_) rfl rfl (by kernel_rfl) (by kernel_rfl) (by kernel_rfl) (fun _ _ _ h => h) (Or.inl ⟨by rfl, ?_⟩) (by assumption) ?_
                rotate_left
                · intro w hSw
                  go_simp
                  try (with_reducible rfl)
                try simp only [Act.put, List.setIfInBounds_toArray, List.set_cons_zero, List.set_cons_succ]
                refine takeD (i := 1) (d := some 195) (v := ?_) rfl rfl (by kernel_rfl) (by kernel_rfl) (by kernel_rfl) (fun _ _ _ h => h) (Or.inl ⟨by rfl, ?_⟩) (by assumption) ?_
                rotate_left
                · intro w hSw
                  go_simp
                  try (with_reducible rfl)
                try simp only [Act.put, List.setIfInBounds_toArray, List.set_cons_zero, List.set_cons_succ]
                refine takeD (i := 2) (d := some 196) (v := ?_) rfl rfl (by kernel_rfl) (by kernel_rfl) (by kernel_rfl) (fun _ _ _ h => h) (Or.inl ⟨by rfl, ?_⟩) (by assumption) ?_
                rotate_left
                · intro w hSw
                  go_simp
                  try (with_reducible rfl)
                try simp only [Act.put, List.setIfInBounds_toArray, List.set_cons_zero, List.set_cons_succ]
                refine takeD (i := 3) (d := some 197) (v := ?_) rfl rfl (by kernel_rfl) (by kernel_rfl) (by kernel_rfl) (fun _ _ _ h => h) (Or.inl ⟨by rfl, ?_⟩) (by assumption) ?_
                rotate_left
                · intro w hSw
                  go_simp
                  try (with_reducible rfl)
                try simp only [Act.put, List.setIfInBounds_toArray, List.set_cons_zero, List.set_cons_succ]
                refine takeD (i := 4) (d := some 198) (v := ?_) rfl rfl (by kernel_rfl) (by kernel_rfl) (by kernel_rfl) (fun _ _ _ h => h) (Or.inl ⟨by rfl, ?_⟩) (by assumption) ?_
                rotate_left
                · intro w hSw
                  go_simp
                  try (with_reducible rfl)
                try simp only [Act.put, List.setIfInBounds_toArray, List.set_cons_zero, List.set_cons_succ]
                refine takeD (i := 6) (d := some 200) (v := ?_) rfl rfl (by kernel_rfl) (by kernel_rfl) (by kernel_rfl) (fun _ _ _ h => h) (Or.inl ⟨by rfl, ?_⟩) (by assumption) ?_
                rotate_left
                · intro w hSw
                  go_simp
                  try (with_reducible rfl)
                try simp only [Act.put, List.setIfInBounds_toArray, List.set_cons_zero, List.set_cons_succ]
                refine takeD (i := 7) (d := some 201) (v := ?_) rfl rfl (by kernel_rfl) (by kernel_rfl) (by kernel_rfl) (fun _ _ _ h => h) (Or.inl ⟨by rfl, ?_⟩) (by assumption) ?_
                rotate_left
                · intro w hSw
                  go_simp
                  try (with_reducible rfl)
                try simp only [Act.put, List.setIfInBounds_toArray, List.set_cons_zero, List.set_cons_succ]
                refine takeD (i := 8) (d := some 202) (v := ?_) rfl rfl (by kernel_rfl) (by kernel_rfl) (by kernel_rfl) (fun _ _ _ h => h) (Or.inl ⟨by rfl, ?_⟩) (by assumption) ?_
                rotate_left
                · intro w hSw
                  go_simp
                  try (with_reducible rfl)
                try simp only [Act.put, List.setIfInBounds_toArray, List.set_cons_zero, List.set_cons_succ]
                refine takeD (i := 9) (d := some 203) (v := ?_) rfl rfl (by kernel_rfl) (by kernel_rfl) (by kernel_rfl) (fun _ _ _ h => h) (Or.inl ⟨by rfl, ?_⟩) (by assumption) ?_
                rotate_left
                · intro w hSw
                  go_simp
                  try (with_reducible rfl)
                try simp only [Act.put, List.setIfInBounds_toArray, List.set_cons_zero, List.set_cons_succ]
                refine takeD (i := 10) (d := some 204) (v := ?_) rfl rfl (by kernel_rfl) (by kernel_rfl) (by kernel_rfl) (fun _ _ _ h => h) (Or.inl ⟨by rfl, ?_⟩) (by assumption) ?_
                rotate_left
                · intro w hSw
                  go_simp
                  try (with_reducible rfl)
                try simp only [Act.put, List.setIfInBounds_toArray, List.set_cons_zero, List.set_cons_succ]
                refine takeD (i := 11) (d := some 205) (v := ?_) rfl rfl (by kernel_rfl) (by kernel_rfl) (by kernel_rfl) (fun _ _ _ h => h) (Or.inl ⟨by rfl, ?_⟩) (by assumption) ?_
                rotate_left
                · intro w hSw
                  go_simp
                  try (with_reducible rfl)
                try simp only [Act.put, List.setIfInBounds_toArray, List.set_cons_zero, List.set_cons_succ]
                refine wpAnyH_ready (rs := [5, 12]) (by kernel_rfl) (by simp) ?_
                refine AllReadyH.cons rfl (fun K hK => ?_) (AllReadyH.cons rfl (fun K hK => ?_) AllReadyH.nil)
                · go_simp
                  refine hK.out _ _ hHeld (fun hHeld => ?_)
                  clear hK K
                  try simp only [Act.put, List.setIfInBounds_toArray, List.set_cons_zero, List.set_cons_succ]
                  refine wpAnyH_ready (rs := [12]) (by kernel_rfl) (by simp) ?_
                  refine AllReadyH.cons rfl (fun K hK => ?_) AllReadyH.nil
                  go_simp
                  clear hHeld
                  refine hK.out _ _ (by simp [World.cell?_alloc_some, x1]) (fun hHeld => ?_)
                  clear hK K
                  try simp only [Act.put, List.setIfInBounds_toArray, List.set_cons_zero, List.set_cons_succ]
                  refine wpAnyH_ready (rs := [13]) (by kernel_rfl) (by simp) ?_
                  refine AllReadyH.cons rfl (fun K hK => ?_) AllReadyH.nil
                  rw [if_pos (by rfl)]
                  refine wp_append_own _ (.tmp 199) (.tmp 206) 22 rfl B 45 i0 (.agg #[.string ⟨#[]⟩, .int .i64 0, .int .i64 0, .slice none 0 0]) 4 56 Tryz.underlying22 hi hz0 hz1 hz2 rfl (by decide) (.slice fa m fc) m (funV (frs st.funcs cs)) rfl (by exact hof.alloc _) ⟨wc.heap.size, 0, none⟩ 1 1 [.string nm, .int .i64 x, .int .i64 y, .slice none 0 0] (by rfl) rfl (by exact cells_new wc _ 45) (by simp [Value.oneCell']) (by unfold maxLen; omega) (by omega) (by simp; omega) ?_
                  intro v3 w3 ho3 hg3 _
                  have hb73 := grown_heap hg3 (own_keep hof ((alloc_below wc (.cells #[.string nm, .int .i64 x, .int .i64 y, .slice none 0 0] 45)).drew)) (by rw [((alloc_below wc (.cells #[.string nm, .int .i64 x, .int .i64 y, .slice none 0 0] 45)).drew).block b (lt_row hbself)]; exact hbself) (by decide)
                  have k73 := cell_row (i := 0) hb73 rfl
                  have f73 := frozen_row (i := 0) hb73
                  obtain ⟨a3, c3, rfl⟩ := own_any ho3
                  clear hHeld
                  refine hK.out _ _ (cell_grown' ((alloc_below wc (.cells #[.string nm, .int .i64 x, .int .i64 y, .slice none 0 0] 45)).drew) hg3 hof x1 HW2.out (by decide)) (fun hHeld => ?_)
                  clear hK K
                  try simp only [Act.put, List.setIfInBounds_toArray, List.set_cons_zero, List.set_cons_succ]
                  refine takeD (i := 14) (d := some 208) (v := ?_) rfl rfl (by kernel_rfl) (by kernel_rfl) (by kernel_rfl) (fun _ _ _ h => h) (Or.inl ⟨by rfl, ?_⟩) (by assumption) ?_
                  rotate_left
                  · intro w hSw
                    go_simp
                    try (with_reducible rfl)
                  try simp only [Act.put, List.setIfInBounds_toArray, List.set_cons_zero, List.set_cons_succ]
                  refine takeD (i := 15) (d := some 209) (v := ?_) rfl rfl (by kernel_rfl) (by kernel_rfl) (by kernel_rfl) (fun _ _ _ h => h) (Or.inl ⟨by rfl, ?_⟩) (by assumption) ?_
                  rotate_left
                  · intro w hSw
                    go_simp
                    try (with_reducible rfl)
                  try simp only [Act.put, List.setIfInBounds_toArray, List.set_cons_zero, List.set_cons_succ]
                  refine takeD (i := 16) (d := some 210) (v := ?_) rfl rfl (by kernel_rfl) (by kernel_rfl) (by kernel_rfl) (fun _ _ _ h => h) (Or.inl ⟨by rfl, ?_⟩) (by assumption) ?_
                  rotate_left
                  · intro w hSw
                    go_simp
                    try (with_reducible rfl)
                  try simp only [Act.put, List.setIfInBounds_toArray, List.set_cons_zero, List.set_cons_succ]
                  refine wpAnyH_ready (rs := [17]) (by kernel_rfl) (by simp) ?_
                  refine AllReadyH.cons rfl (fun K hK => ?_) AllReadyH.nil
                  go_simp
                  refine hK.out _ _ (by rw [World.cell?_setCell_far _ _ _ _ (by simpa using hgb')]; exact hHeld) (fun hHeld => ?_)
                  clear hK K
                  try simp only [Act.put, List.setIfInBounds_toArray, List.set_cons_zero, List.set_cons_succ]
                  refine wpAnyH_done (by kernel_rfl) ?_ _
                  refine NoPanic.normal ?_
                  have R := HR2.out.func nm x y ((alloc_below wc (.cells #[.string nm, .int .i64 x, .int .i64 y, .slice none 0 0] 45)).drew) hBw2 (by rw [← HM.out]; exact ho3) (by rw [← HM.out]; exact hg3)
                  have HR9 := hide R.1
                  have HB9 := hide (hb2.trans R.2)
                  go_wp2
                  refine bodyPost_ret (v := .bool pq) (by simp [results, Tryz.results23, go_sem]) rfl ⟨_, rfl, HB9.out, ?_⟩
                  rcases HFIN.out with ⟨h, h'⟩ | ⟨h, h'⟩
                  · exact .inl ⟨h, _, _, _, _, _, h', HR9.out⟩
                  · exact .inr ⟨h, h'⟩
                · go_simp
                  clear hHeld
                  refine hK.out _ _ (by simp [World.cell?_alloc_some, x1]) (fun hHeld => ?_)
                  clear hK K
                  try simp only [Act.put, List.setIfInBounds_toArray, List.set_cons_zero, List.set_cons_succ]
                  have k7a := keep_cell x0 (alloc_below wc (.cells #[.string nm, .int .i64 x, .int .i64 y, .slice none 0 0] 45))
                  refine wpAnyH_ready (rs := [5]) (by kernel_rfl) (by simp) ?_
                  refine AllReadyH.cons rfl (fun K hK => ?_) AllReadyH.nil
                  go_simp
                  refine hK.out _ _ hHeld (fun hHeld => ?_)
                  clear hK K
                  try simp only [Act.put, List.setIfInBounds_toArray, List.set_cons_zero, List.set_cons_succ]
                  refine wpAnyH_ready (rs := [13]) (by kernel_rfl) (by simp) ?_
                  refine AllReadyH.cons rfl (fun K hK => ?_) AllReadyH.nil
                  rw [if_pos (by rfl)]
                  refine wp_append_own _ (.tmp 199) (.tmp 206) 22 rfl B 45 i0 (.agg #[.string ⟨#[]⟩, .int .i64 0, .int .i64 0, .slice none 0 0]) 4 56 Tryz.underlying22 hi hz0 hz1 hz2 rfl (by decide) (.slice fa m fc) m (funV (frs st.funcs cs)) rfl (by exact hof.alloc _) ⟨wc.heap.size, 0, none⟩ 1 1 [.string nm, .int .i64 x, .int .i64 y, .slice none 0 0] (by rfl) rfl (by exact cells_new wc _ 45) (by simp [Value.oneCell']) (by unfold maxLen; omega) (by omega) (by simp; omega) ?_
                  intro v3 w3 ho3 hg3 _
                  have hb73 := grown_heap hg3 (own_keep hof ((alloc_below wc (.cells #[.string nm, .int .i64 x, .int .i64 y, .slice none 0 0] 45)).drew)) (by rw [((alloc_below wc (.cells #[.string nm, .int .i64 x, .int .i64 y, .slice none 0 0] 45)).drew).block b (lt_row hbself)]; exact hbself) (by decide)
                  have k73 := cell_row (i := 0) hb73 rfl
                  have f73 := frozen_row (i := 0) hb73
                  obtain ⟨a3, c3, rfl⟩ := own_any ho3
                  clear hHeld
                  refine hK.out _ _ (cell_grown' ((alloc_below wc (.cells #[.string nm, .int .i64 x, .int .i64 y, .slice none 0 0] 45)).drew) hg3 hof x1 HW2.out (by decide)) (fun hHeld => ?_)
                  clear hK K
                  try simp only [Act.put, List.setIfInBounds_toArray, List.set_cons_zero, List.set_cons_succ]
                  refine takeD (i := 14) (d := some 208) (v := ?_) rfl rfl (by kernel_rfl) (by kernel_rfl) (by kernel_rfl) (fun _ _ _ h => h) (Or.inl ⟨by rfl, ?_⟩) (by assumption) ?_
                  rotate_left
                  · intro w hSw
                    go_simp
                    try (with_reducible rfl)
                  try simp only [Act.put, List.setIfInBounds_toArray, List.set_cons_zero, List.set_cons_succ]
                  refine takeD (i := 15) (d := some 209) (v := ?_) rfl rfl (by kernel_rfl) (by kernel_rfl) (by kernel_rfl) (fun _ _ _ h => h) (Or.inl ⟨by rfl, ?_⟩) (by assumption) ?_
                  rotate_left
                  · intro w hSw
                    go_simp
                    try (with_reducible rfl)
                  try simp only [Act.put, List.setIfInBounds_toArray, List.set_cons_zero, List.set_cons_succ]
                  refine takeD (i := 16) (d := some 210) (v := ?_) rfl rfl (by kernel_rfl) (by kernel_rfl) (by kernel_rfl) (fun _ _ _ h => h) (Or.inl ⟨by rfl, ?_⟩) (by assumption) ?_
                  rotate_left
                  · intro w hSw
                    go_simp
                    try (with_reducible rfl)
                  try simp only [Act.put, List.setIfInBounds_toArray, List.set_cons_zero, List.set_cons_succ]
                  refine wpAnyH_ready (rs := [17]) (by kernel_rfl) (by simp) ?_
                  refine AllReadyH.cons rfl (fun K hK => ?_) AllReadyH.nil
                  go_simp
                  refine hK.out _ _ (by rw [World.cell?_setCell_far _ _ _ _ (by simpa using hgb')]; exact hHeld) (fun hHeld => ?_)
                  clear hK K
                  try simp only [Act.put, List.setIfInBounds_toArray, List.set_cons_zero, List.set_cons_succ]
                  refine wpAnyH_done (by kernel_rfl) ?_ _
                  refine NoPanic.normal ?_
                  have R := HR2.out.func nm x y ((alloc_below wc (.cells #[.string nm, .int .i64 x, .int .i64 y, .slice none 0 0] 45)).drew) hBw2 (by rw [← HM.out]; exact ho3) (by rw [← HM.out]; exact hg3)
                  have HR9 := hide R.1
                  have HB9 := hide (hb2.trans R.2)
                  go_wp2
                  refine bodyPost_ret (v := .bool pq) (by simp [results, Tryz.results23, go_sem]) rfl ⟨_, rfl, HB9.out, ?_⟩
                  rcases HFIN.out with ⟨h, h'⟩ | ⟨h, h'⟩
                  · exact .inl ⟨h, _, _, _, _, _, h', HR9.out⟩
                  · exact .inr ⟨h, h'⟩
    · have q4 : ¬ (n : Int) = 4 := by omega
      have HF := hide (show lineL k l st = none by
        rw [HLN.out]
        have hn := HNN.out
        match ws, hn with
        | [a, b, c, d], hn => simp at hn; omega
        | [], _ => rfl
        | [_], _ => rfl
        | [_, _], _ => rfl
        | [_, _, _], _ => rfl
        | _ :: _ :: _ :: _ :: _ :: _, _ => rfl)
      go_wp2
      exact bodyPost_ret (v := .bool false) (by simp [results, Tryz.results23, go_sem]) rfl ⟨_, rfl, hbB, .inr ⟨rfl, HF.out⟩⟩
end Go.Proofs.YtfnloomcianbiaaGreatDoor
