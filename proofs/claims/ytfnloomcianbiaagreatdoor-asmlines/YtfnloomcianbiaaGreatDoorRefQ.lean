/- gleanerref4.Plain. -/
import Derived.Test.YtfnloomcianbiaaGreatDoorRefP
namespace Go.Proofs.YtfnloomcianbiaaGreatDoor
open Go.RowKit Go.ChangeShapes Go.WideShapes Go.ChangeAt Go.Deep

theorem findFrom_neg (nm : ByteArray) : ∀ (fs : List Fun) (i : Nat), (∀ f ∈ fs, (f.name.toList == nm.toList) = false) → findFrom nm fs i < 0
  | [], _, _ => by simp [findFrom]
  | f :: r, i, h => by
    rw [findFrom, h f (by simp), if_neg (by decide)]
    exact findFrom_neg nm r (i + 1) fun g hg => h g (by simp [hg])
theorem findFrom_pos (nm : ByteArray) : ∀ (fs : List Fun) (i : Nat), (∃ f ∈ fs, (f.name.toList == nm.toList) = true) → 0 ≤ findFrom nm fs i
  | [], _, h => by obtain ⟨f, hf, _⟩ := h; cases hf
  | f :: r, i, h => by
    rw [findFrom]
    by_cases e : (f.name.toList == nm.toList) = true
    · rw [if_pos e]; omega
    · rw [if_neg e]
      obtain ⟨g, hg, he⟩ := h
      rcases List.mem_cons.1 hg with rfl | hg
      · exact absurd he e
      · exact findFrom_pos nm r (i + 1) ⟨g, hg, he⟩
theorem take_mem {fs : List Fun} {k : Nat} {f : Fun} (h : f ∈ fs.take k) : ∃ q, q < k ∧ fs[q]? = some f := by
  obtain ⟨q, hq, rfl⟩ := List.getElem_of_mem h
  have hq' : q < k ∧ q < fs.length := by
    rw [List.length_take] at hq
    omega
  exact ⟨q, hq'.1, by simp [hq'.2]⟩
theorem all_no {nf k : Nat} {p : Nat → Bool} (hk : k < nf) (h : p k = false) : (List.range nf).all p = false := by
  rw [List.all_eq_false]
  exact ⟨k, by simpa using hk, by rw [h]; decide⟩
theorem all_yes {nf : Nat} {p : Nat → Bool} (h : ∀ q, q < nf → p q = true) : (List.range nf).all p = true := by
  rw [List.all_eq_true]
  intro q hq
  exact h q (by simpa using hq)

set_option maxRecDepth 100000 in
set_option maxHeartbeats 4000000 in
set_option linter.unusedSimpArgs false in
theorem refPlain_any (j : JV) (cs : List Value) (fs : List Fun) (args : List Int) (w : World) (hJ : JobR w j cs fs args) (hf : fs.length ≤ 9223372036854775807) (ha : args.length ≤ 9223372036854775807) (hc : ∀ f ∈ fs, f.code.length ≤ 9223372036854775807 ∧ f.name.size ≤ 9223372036854775807) :
    Calls Tryz.prog 6 #[.agg j.cells] w fun e w' => e = .returned (.bool (plainL fs j.main args.length)) ∧ Below w.heap.size w w' := by
  have hbA := alloc_below w (.cells j.cells 25)
  have hjA : (w.alloc (.cells j.cells 25)).heap[w.heap.size]? = some (.cells j.cells 25 (0, 0)) := heap_alloc_new w _
  have HP := hide (show plainL fs j.main args.length = (decide (fs.length ≤ 32) && decide (args.length ≤ 8) && isFuncL j.main fs.length && (List.range fs.length).all (okAt fs)) from rfl)
  have hnf := hJ.nf
  have hcap := hJ.cap
  have hna := hJ.na
  obtain ⟨fa, nf, fc, mn, aa, na, ac, fu, ta⟩ := j
  simp only [JV.cells] at *
  generalize plainL fs mn args.length = R at HP ⊢
  rw [← hnf, ← hna] at HP
  rw [← hnf] at hf
  rw [← hna] at ha
  have HNF := hide hnf
  have HNA := hide hna
  clear hnf hna
  have j0 := cell_row (i := 0) hjA rfl
  have j1 := cell_row (i := 1) hjA rfl
  have j2 := cell_row (i := 2) hjA rfl
  by_cases hout : ¬ (nf ≤ 32 ∧ na ≤ 8 ∧ 0 ≤ mn ∧ mn < (nf : Int))
  · have HR := hide (show R = false by
      rw [HP.out]
      unfold isFuncL
      by_cases h1 : nf ≤ 32
      · by_cases h2 : na ≤ 8
        · by_cases h3 : 0 ≤ mn
          · rw [decide_eq_false (show ¬ mn < (nf : Int) from fun h4 => hout ⟨h1, h2, h3, h4⟩)]; simp
          · rw [decide_eq_false h3]; simp
        · rw [decide_eq_false h2]; simp
      · rw [decide_eq_false h1]; simp)
    clear HP
    go_enter Tryz.func6, Tryz.ntmps6
    go_wp2
    all_goals first
      | (exfalso; omega)
      | (go_ret; exact ⟨by rw [HR.out]; rfl, hbA⟩)
  obtain ⟨h1, h2, h3, h4⟩ := Classical.not_not.1 hout
  have HR := hide (show R = (List.range nf).all (okAt fs) by
    rw [HP.out]
    unfold isFuncL
    rw [decide_eq_true h1, decide_eq_true h2, decide_eq_true h3, decide_eq_true h4]; simp)
  have q1 : ¬ (32 : Int) < (nf : Int) := by omega
  have q2 : ¬ (8 : Int) < (na : Int) := by omega
  have q3 : ¬ mn < 0 := by omega
  have q4 : ¬ (nf : Int) ≤ mn := by omega
  clear hout h1 h2 h3 h4 HP
  go_enter Tryz.func6, Tryz.ntmps6
  go_wp2
  clear q1 q2 q3 q4
  have HJA := hide hjA
  have HBA := hide hbA
  clear hjA hbA j0 j1 j2
  go_loopw [3] (fun i wr => Hid (Below w.heap.size w wr) ∧ wr.heap[w.heap.size]? = some (.cells [.slice fa nf fc, .int .i64 mn, .slice aa na ac, .int .i64 fu, .int .i64 ta].toArray 25 (0, 0)) ∧ ∃ k : Nat, k ≤ nf ∧ i = .int .i64 (k : Nat) ∧ Hid (∀ q, q < k → okAt fs q = true)) (fun i _ => nf - (intOf i).toNat)
  case atStart => exact ⟨HBA.out, HJA.out, 0, Nat.zero_le _, rfl, fun q hq => absurd hq (Nat.not_lt_zero _)⟩
  case round =>
    obtain ⟨hbw, hj, k, hk, rfl, hh⟩ := hrel
    obtain ⟨wo, hwo⟩ : ∃ wo, wo = wr := ⟨_, rfl⟩
    subst hwo
    have j0 := cell_row (i := 0) hj rfl
    have hjl := lt_row hj
    by_cases hlt : k < nf
    · have hkf : k < fs.length := by have := HNF.out; omega
      obtain ⟨b, off, ca, cc, p1, y0, y1, y2, y3, yr⟩ := (hJ.below hbw.out).cell hkf
      simp only at p1
      subst p1
      have hfm := hc fs[k] (List.getElem_mem _)
      have hkx := List.getElem?_eq_getElem hkf
      generalize fs[k] = f at y0 y1 y2 y3 yr hfm hkx
      obtain ⟨cn, hcn⟩ : ∃ cn, cn = f.code.length := ⟨_, rfl⟩
      rw [← hcn] at y3 hfm
      have HCN := hide hcn
      have HY := hide yr
      have HKX := hide hkx
      clear hcn yr hkx
      have hyl := cell_some_lt y0
      have hlt' : (k : Int) < (nf : Int) := by omega
      have HJ3 := hide hj
      have hbC := alloc_below wo (.cells #[.string f.name, .int .i64 f.args, .int .i64 f.locals, .slice ca cn cc] 45)
      have hF : (wo.alloc (.cells #[.string f.name, .int .i64 f.args, .int .i64 f.locals, .slice ca cn cc] 45)).heap[wo.heap.size]? = some (.cells [.string f.name, .int .i64 f.args, .int .i64 f.locals, .slice ca cn cc].toArray 45 (0, 0)) := heap_alloc_new wo _
      have HOK := hide (show okAt fs k = (isNameL f.name.data.toList && decide (findF f.name (fs.take k) < 0) && plainCode f.code nf) by unfold okAt; rw [HKX.out, HNF.out])
      have CN := fun w => refname_any f.name hfm.2 w
      have hbo0 := hbw.out.trans (hbC.mono hbw.out.size)
      cases hq : isNameL f.name.data.toList with
      | false =>
        rw [hq] at CN
        have HF := hide (all_no hlt (p := okAt fs) (by rw [HOK.out, hq]; rfl))
        clear HOK hj HJ3
        go_wp2_with (go_at_call 15; go_must (refine (CN _).mono ?_; rintro e wz ⟨rfl, hwz⟩; replace hwz := hwz.symm; subst hwz))
        go_ret
        exact ⟨by rw [HR.out, HF.out]; rfl, hbo0⟩
      | true =>
        rw [hq] at CN
        by_cases h256 : cn ≤ 256
        · have q256 : ¬ (256 : Int) < (cn : Int) := by omega
          have hHj : (wo.alloc (.cells #[.string f.name, .int .i64 f.args, .int .i64 f.locals, .slice ca cn cc] 45)).heap[w.heap.size]? = some (.cells [.slice (some ⟨b, off, none⟩) nf fc, .int .i64 mn, .slice aa na ac, .int .i64 fu, .int .i64 ta].toArray 25 (0, 0)) := (hbC.block _ hjl).trans hj
          have HHJ := hide hHj
          clear hj hHj
          go_wp2_with (go_at_call 15; go_must (refine (CN _).mono ?_; rintro e wz ⟨rfl, hwz⟩; replace hwz := hwz.symm; subst hwz))
          clear CN
          generalize wo.alloc (.cells #[.string f.name, .int .i64 f.args, .int .i64 f.locals, .slice ca cn cc] 45) = wa at hbC hF HHJ hbo0 ⊢
          go_loopw [6] (fun i wq => ∃ kk : Nat, kk ≤ k ∧ i = .int .i64 (kk : Nat) ∧ Hid (Below wa.heap.size wa wq) ∧ Hid (∀ q g, q < kk → fs[q]? = some g → (g.name.toList == f.name.toList) = false)) (fun i _ => k - (intOf i).toNat)
          case atStart => exact ⟨0, Nat.zero_le _, rfl, Below.refl _ _, fun q g hq => absurd hq (Nat.not_lt_zero _)⟩
          case round =>
            obtain ⟨kk, hkk, rfl, hbq, hdif⟩ := hrel
            have hF2 := (hbq.out.block _ (lt_row hF)).trans hF
            have hJ2 := (hbq.out.block _ (lt_row HHJ.out)).trans HHJ.out
            have z0 := cell_row (i := 0) hJ2 rfl
            have c0 := cell_row (i := 0) hF2 rfl
            have c3 := cell_row (i := 3) hF2 rfl
            have hjl2 := lt_row hJ2
            have hfl2 := lt_row hF2
            have hbo := hbC.trans (hbq.out.mono hbC.size)
            have HBW := hide (hbw.out.trans (hbo.mono hbw.out.size))
            by_cases hlq : kk < k
            · have hkg : kk < fs.length := by omega
              obtain ⟨b', off', ca', cc', p2, v0, _, _, _, _⟩ := ((hJ.below hbw.out).below hbo).cell hkg
              simp only at p2
              injection p2 with p2
              injection p2 with p3 p4
              subst p3 p4
              have hgx := List.getElem?_eq_getElem hkg
              generalize fs[kk] = g at v0 hgx
              have hvl := cell_some_lt v0
              have hlq' : (kk : Int) < (k : Int) := by omega
              have hkn' : (kk : Int) < (nf : Int) := by omega
              have HQ := hide hbq.out
              have HBO := hide hbo
              cases he : (g.name.toList == f.name.toList) with
              | true =>
                have HF := hide (all_no hlt (p := okAt fs) (by
                  have h0 : ¬ findF f.name (fs.take k) < 0 := by
                    have := findFrom_pos f.name (fs.take k) 0 ⟨g, by
                      have : (fs.take k)[kk]? = some g := by rw [List.getElem?_take, if_pos hlq]; exact hgx
                      exact List.mem_of_getElem? this, he⟩
                    show ¬ findFrom f.name (fs.take k) 0 < 0
                    omega
                  rw [HOK.out, decide_eq_false h0]; simp))
                clear hF2 hJ2 hbq hbo hF hbC hgx hdif y0 y1 y2 y3 hbo0 HOK
                go_wp2
                go_quiet (fail)
                go_wp2
                go_ret
                exact ⟨by rw [HR.out, HF.out]; rfl, below_drewN HBW.out _⟩
              | false =>
                have HD := hide (show ∀ q g, q < kk + 1 → fs[q]? = some g → (g.name.toList == f.name.toList) = false from fun q g' hq' hg' => by
                  rcases Nat.lt_or_ge q kk with h | h
                  · exact hdif.out q g' h hg'
                  · have : q = kk := by omega
                    subst this
                    rw [hgx] at hg'
                    injection hg' with hg'
                    rw [← hg']; exact he)
                clear hF2 hJ2 hbq hbo hF hbC hgx hdif y0 y1 y2 y3 hbo0
                go_wp2
                go_quiet (fail)
                go_wp2
                go_roundw
                case rel => exact ⟨kk + 1, by omega, by go_num, below_drewN HQ.out _, HD⟩
                case measure => simp [intOf]; omega
            · have hkk' : kk = k := by omega
              subst hkk'
              have hlq' : ¬ (kk : Int) < (kk : Int) := by omega
              have HFI := hide (show findF f.name (fs.take kk) < 0 from findFrom_neg f.name (fs.take kk) 0 fun g hg => by
                obtain ⟨q, hq1, hq2⟩ := take_mem hg
                exact hdif.out q g hq1 hq2)
              have HFJ2 := hide hJ2
              have HFF2 := hide hF2
              have HQ := hide hbq.out
              clear hF2 hJ2 hbq hF hbC hdif y0 y1 y2 y3 hbo0 c0 z0
              go_wp2
              clear c3
              go_loopw [7] (fun i wp => ∃ kp : Nat, kp ≤ cn ∧ i = .int .i64 (kp : Nat) ∧ Hid (Below wr.heap.size wr wp) ∧ Hid (∀ x ∈ f.code.take kp, plainIns x.1 x.2 nf = true)) (fun i _ => cn - (intOf i).toNat)
              case atStart => exact ⟨0, Nat.zero_le _, rfl, Below.refl _ _, fun x hx => by simp at hx⟩
              case round =>
                obtain ⟨kp, hkp, rfl, hbp, hall⟩ := hrel
                have hF3 := (hbp.out.block _ (lt_row HFF2.out)).trans HFF2.out
                have hJ3 := (hbp.out.block _ (lt_row HFJ2.out)).trans HFJ2.out
                have z0 := cell_row (i := 0) hJ3 rfl
                have c3 := cell_row (i := 3) hF3 rfl
                have HBP := hide (HBW.out.trans (hbp.out.mono HBW.out.size))
                have hbr := hbo.trans (hbp.out.mono hbo.size)
                by_cases hlp : kp < cn
                · have hkc : kp < f.code.length := by have := HCN.out; omega
                  obtain ⟨cb, co, rfl, u0, u1⟩ := code_at (HY.out.below hbr) hkc
                  have hxx := List.getElem?_eq_getElem hkc
                  generalize f.code[kp] = x at u0 u1 hxx
                  have hlp' : (kp : Int) < (cn : Int) := by omega
                  have PI := fun w => refPlainIns_any x.1 x.2 nf w
                  have HX := hide hxx
                  have HB3 := hide hbp.out
                  have HPC := hide (fun (h : plainIns x.1 x.2 nf = false) => show plainCode f.code nf = false by
                    unfold plainCode
                    have : (f.code.all fun x => plainIns x.1 x.2 nf) = false := by
                      rw [List.all_eq_false]
                      exact ⟨x, List.mem_of_getElem? hxx, by rw [h]; decide⟩
                    rw [this, Bool.and_false])
                  have HPD := hide (fun (h : plainIns x.1 x.2 nf = true) => show ∀ y ∈ f.code.take (kp + 1), plainIns y.1 y.2 nf = true from fun y hy => by
                    rw [List.take_add_one, HX.out] at hy
                    rcases List.mem_append.1 hy with hy | hy
                    · exact hall.out y hy
                    · simp only [Option.toList_some, List.mem_singleton] at hy
                      rw [hy]; exact h)
                  generalize hpv : plainIns x.1 x.2 nf = pv at PI HPC HPD
                  clear hF3 hJ3 hbp hxx hall hpv
                  go_upto_region 18 with fail
                  go_region_held3 (fun W => W.cell? ⟨wo.heap.size, 3, none⟩ = some (.slice (some ⟨cb, co, none⟩) cn cc) ∧ W.cell? ⟨w.heap.size, 0, none⟩ = some (.slice (some ⟨b, off, none⟩) nf fc) ∧ W.cell? ⟨cb, co + kp * 2, none⟩ = some (.int .i64 x.1) ∧ W.cell? ⟨cb, co + kp * 2 + 1, none⟩ = some (.int .i64 x.2)) (first | exact ⟨c3, z0, u0, u1⟩ | exact ⟨by simpa using c3, by simpa using z0, by simpa using u0, by simpa using u1⟩ | exact ⟨keep_cell c3 (below_undrew hb5), keep_cell z0 (below_undrew hb5), keep_cell u0 (below_undrew hb5), keep_cell u1 (below_undrew hb5)⟩ | go_keep) (first | (go_at_call 16; refine (PI _).mono ?_; rintro e w5 ⟨rfl, hb5⟩))
                  have hb6 := below_undrew hb5
                  cases pv with
                  | false =>
                    have HF := hide (all_no hlt (p := okAt fs) (by rw [HOK.out, HPC.out rfl, Bool.and_false]))
                    go_wp2
                    go_ret
                    exact ⟨by rw [HR.out, HF.out]; rfl, HBP.out.trans (hb6.mono HBP.out.size)⟩
                  | true =>
                    have HD := hide (HPD.out rfl)
                    have HB6 := hide (HB3.out.trans (hb6.mono HB3.out.size))
                    go_wp2
                    go_roundw
                    case rel => exact ⟨kp + 1, by omega, by go_num, HB6, HD⟩
                    case measure => simp [intOf]; omega
                · have hlp' : ¬ (kp : Int) < (cn : Int) := by omega
                  have HOK2 := hide (show ∀ q, q < kk + 1 → okAt fs q = true from fun q hq' => by
                    rcases Nat.lt_or_ge q kk with h | h
                    · exact hh.out q h
                    · have : q = kk := by omega
                      subst this
                      rw [HOK.out, decide_eq_true HFI.out, hq]
                      unfold plainCode
                      have e1 : f.code.length ≤ 256 := by rw [← HCN.out]; exact h256
                      have e2 : (f.code.all fun x => plainIns x.1 x.2 nf) = true := by
                        rw [List.all_eq_true]
                        intro x hx
                        refine hall.out x ?_
                        rw [List.take_of_length_le (by rw [← HCN.out]; omega)]
                        exact hx
                      rw [decide_eq_true e1, e2]; rfl)
                  have HJ9 := hide hJ3
                  clear hJ3 hF3 z0
                  go_wp2
                  go_roundw
                  case rel => exact ⟨HBP, HJ9.out, kk + 1, by omega, by go_num, HOK2⟩
                  case measure => simp [intOf]; omega
        · have q256 : (256 : Int) < (cn : Int) := by omega
          have HF := hide (all_no hlt (p := okAt fs) (by
            rw [HOK.out]
            unfold plainCode
            rw [← HCN.out, decide_eq_false h256]; simp))
          clear HOK hj HJ3
          go_wp2_with (go_at_call 15; go_must (refine (CN _).mono ?_; rintro e wz ⟨rfl, hwz⟩; replace hwz := hwz.symm; subst hwz))
          go_ret
          exact ⟨by rw [HR.out, HF.out]; rfl, hbo0⟩
    · have hlt' : ¬ (k : Int) < (nf : Int) := by omega
      have HF := hide (all_yes (nf := nf) (p := okAt fs) (fun q hq => hh.out q (by omega)))
      go_wp2
      go_ret
      exact ⟨by rw [HR.out, HF.out]; rfl, hbw.out⟩
end Go.Proofs.YtfnloomcianbiaaGreatDoor
