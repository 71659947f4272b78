/- The document's checkFunc. -/
import Derived.Test.YtfdgkeljnmamiaaDoorRde
import Derived.Test.YtfdgkeljnmamiaaDoorRnm
import Derived.Test.YtfdgkeljnmamiaaDoorFuncW
namespace Go.Proofs.YtfdgkeljnmamiaaDoor
open Go.RowKit Go.ChangeShapes Go.WideShapes Go.ChangeAt Go.Deep

/-- What is wrong with function k, as the document has it. -/
def rFuncErr (fs : List Fun) (k : Nat) (f : Fun) : Int × Int :=
  if headErr fs k f ≠ 0 then (0, headErr fs k f)
  else if (insFrom f.locals f.code.length fs.length 0 f.code).2 ≠ 0 then insFrom f.locals f.code.length fs.length 0 f.code
  else match rDepths (fs.map Fun.args) f.code with
    | .error q => q
    | .ok _ => (0, 0)
def diffB (nm : ByteArray) (l : List Fun) : Bool := l.all fun f => !(f.name.toList == nm.toList)
theorem diff_find (nm : ByteArray) : ∀ (l : List Fun) (i : Nat), diffB nm l = !(decide (0 ≤ findFrom nm l i))
  | [], i => by simp [diffB, findFrom]
  | f :: r, i => by
    have h := diff_find nm r (i + 1)
    unfold diffB at h ⊢
    rw [List.all_cons, h, findFrom]
    cases hq : f.name.toList == nm.toList with
    | true =>
      have : (0 : Int) ≤ (i : Int) := by omega
      simp
    | false => simp
theorem diff_take {nm : ByteArray} {fs : List Fun} {q : Nat} (hq : q < fs.length) : diffB nm (fs.take (q + 1)) = (diffB nm (fs.take q) && !(fs[q].name.toList == nm.toList)) := by
  unfold diffB
  rw [List.take_succ_eq_append_getElem hq, List.all_append]
  simp
theorem insFrom_ok_all {lo : Int} {nc nf : Nat} : ∀ (c : List (Int × Int)) (k : Nat), (insFrom lo nc nf k c).2 = 0 → ∀ x ∈ c, insErr lo nc nf x.1 x.2 = 0
  | [], _, _, x, hx => by cases hx
  | i :: r, k, h, x, hx => by
    unfold insFrom at h
    split at h
    · rename_i h0
      rcases List.mem_cons.1 hx with rfl | hx
      · exact h0
      · exact insFrom_ok_all r (k + 1) h x hx
    · rename_i h0; exact absurd h h0
theorem insErr_jump {lo : Int} {nc nf : Nat} {op n : Int} (h : insErr lo nc nf op n = 0) (ho : op = 14 ∨ op = 15) : 0 ≤ n := by
  unfold insErr at h
  split at h
  · cases h
  · rw [if_neg (by omega)] at h
    try rw [if_pos ho] at h
    cases hb : hasB nc n with
    | true => simp [hasB, inB] at hb; omega
    | false => rw [hb] at h; simp at h
theorem fwd_of {lo : Int} {nf : Nat} {code : List (Int × Int)} (h : (insFrom lo code.length nf 0 code).2 = 0) : Fwd code := fun p hp t ht => by
  have hm : code.getD p (0, 0) ∈ code := by simp [List.getD, hp]
  have h1 := insFrom_ok_all code 0 h _ hm
  generalize code.getD p (0, 0) = x at h1 ht
  unfold nextL at ht
  split at ht
  · cases ht
  · split at ht
    · rename_i ho
      have := insErr_jump h1 (.inl ho)
      simp at ht; omega
    · split at ht
      · rename_i ho
        have := insErr_jump h1 (.inr ho.1)
        simp at ht
        rcases ht with rfl | rfl <;> omega
      · simp at ht; omega

set_option linter.unusedSimpArgs false in
set_option maxRecDepth 100000 in
set_option maxHeartbeats 16000000 in
theorem rcheckFunc_any (fa : Option Addr) (nf fc : Nat) (mn : Int) (aa : Option Addr) (na ac : Nat) (fu ta : Int) (cs : List Value) (fs : List Fun) (args : List Int) (k : Nat) (w : World) (hJ : JobR w ⟨fa, nf, fc, mn, aa, na, ac, fu, ta⟩ cs fs args) (hk : k < fs.length) (hk9 : k ≤ 1000000000) (hs : fs[k].code.length ≤ 9223372036854775807 ∧ fs[k].name.size ≤ 9223372036854775807) :
    Calls Tryd.prog 22 #[.agg #[.slice fa nf fc, .int .i64 mn, .slice aa na ac, .int .i64 fu, .int .i64 ta], .int .i64 (k : Int)] w fun r w' => r = .returned (.tuple #[.int .i64 (rFuncErr fs k fs[k]).1, .int .i64 (rFuncErr fs k fs[k]).2]) ∧ Below w.heap.size w w' := by
  have hb1 := alloc_below w (.cells #[.slice fa nf fc, .int .i64 mn, .slice aa na ac, .int .i64 fu, .int .i64 ta] 25)
  have hr1 : (w.alloc (.cells #[.slice fa nf fc, .int .i64 mn, .slice aa na ac, .int .i64 fu, .int .i64 ta] 25)).heap[w.heap.size]? = some (.cells [.slice fa nf fc, .int .i64 mn, .slice aa na ac, .int .i64 fu, .int .i64 ta].toArray 25 (0, 0)) := heap_alloc_new w _
  have hJ1 := hJ.below hb1
  have hnf : nf = fs.length := hJ.nf
  have hkn : (k : Int) < (nf : Int) := by omega
  obtain ⟨fb, off, ca, cc, hfa, y0, y1, y2, y3, hcr, -⟩ := hJ1.fun_at hk
  simp only at hfa
  subst hfa
  have p0 := cell_row (i := 0) hr1 rfl
  have HJ := hide (fun (W : World) (hb : Below (w.alloc (.cells #[.slice (some ⟨fb, off, none⟩) nf fc, .int .i64 mn, .slice aa na ac, .int .i64 fu, .int .i64 ta] 25)).heap.size (w.alloc (.cells #[.slice (some ⟨fb, off, none⟩) nf fc, .int .i64 mn, .slice aa na ac, .int .i64 fu, .int .i64 ta] 25)) W) (q : Nat) (hq : q < fs.length) => show W.cell? ⟨fb, off + q * 4, none⟩ = some (.string fs[q].name) from by
    obtain ⟨fb', off', _, _, e, z0, _⟩ := (hJ1.below hb).fun_at hq
    simp at e
    obtain ⟨rfl, rfl⟩ := e
    exact z0)
  have HAR := hide hJ1.areads
  have HCR := hide hcr
  have HFE := hide (show rFuncErr fs k fs[k] = (if headErr fs k fs[k] ≠ 0 then (0, headErr fs k fs[k]) else if (insFrom fs[k].locals fs[k].code.length fs.length 0 fs[k].code).2 ≠ 0 then insFrom fs[k].locals fs[k].code.length fs.length 0 fs[k].code else match rDepths (fs.map Fun.args) fs[k].code with | .error q => q | .ok _ => (0, 0)) from rfl)
  have HHE := hide (show headErr fs k fs[k] = (if (isNameL fs[k].name.data.toList && !(decide (0 ≤ findF fs[k].name (fs.take k)))) = false then 6 else if inB fs[k].args 0 8 = false then 15 else if inB fs[k].locals fs[k].args 16 = false then 13 else if inB fs[k].code.length 1 256 = false then 3 else 0) from rfl)
  have HDF := hide (diff_find fs[k].name (fs.take k) 0)
  have CN := hide (fun W => refname_any fs[k].name hs.2 W)
  generalize rFuncErr fs k fs[k] = fe at HFE ⊢
  generalize headErr fs k fs[k] = he at HFE HHE
  have hsc := hs.1
  clear hJ hJ1 hs hcr
  have HDT := hide (fun (nm : ByteArray) (q : Nat) (hq : q < fs.length) => diff_take (nm := nm) hq)
  generalize hf : fs[k] = f at *
  clear hf
  obtain ⟨nm, ar, lo, code⟩ := f
  dsimp only at y0 y1 y2 y3 HCR HFE HHE HDF CN hsc
  generalize hcl : code.length = cn at *
  have HCL := hide hcl
  have HNF := hide hnf
  clear hcl hnf
  go_enter Tryd.func22, Tryd.ntmps22
  go_upto_region 1 with fail
  generalize hw1 : w.alloc (.cells #[.slice (some ⟨fb, off, none⟩) nf fc, .int .i64 mn, .slice aa na ac, .int .i64 fu, .int .i64 ta] 25) = w1 at *
  clear hw1
  have HB1 := hide hb1
  have HR1 := hide hr1
  have hb2 := alloc_below w1 (.cells #[.string nm, .int .i64 ar, .int .i64 lo, .slice ca cn cc] 43)
  have hr2 : (w1.alloc (.cells #[.string nm, .int .i64 ar, .int .i64 lo, .slice ca cn cc] 43)).heap[w1.heap.size]? = some (.cells [.string nm, .int .i64 ar, .int .i64 lo, .slice ca cn cc].toArray 43 (0, 0)) := heap_alloc_new w1 _
  clear hb1 hr1
  go_upto_region 2 with fail
  generalize w1.alloc (.cells #[.string nm, .int .i64 ar, .int .i64 lo, .slice ca cn cc] 43) = w2 at hb2 hr2 ⊢
  have HB2 := hide hb2
  have HRJ := hide (heap_row HR1.out hb2)
  have HRF := hide hr2
  have f0 := cell_row (i := 0) hr2 rfl
  clear p0 y0 y1 y2 y3 hb2 hr2
  generalize isNameL nm.data.toList = isn at CN HHE
  go_wp2_with (go_at_call 36; go_must ((with_reducible refine (CN.out _).mono ?_); rintro e w3 ⟨rfl, hw3⟩; subst hw3))
  clear f0
  go_loopw [7, 8] (fun o i wr => ∃ q : Nat, q ≤ k ∧ i = .int .i64 (q : Nat) ∧ o = .bool (isn && diffB nm (fs.take q)) ∧ Hid (Below w3.heap.size w3 wr)) (fun _ i _ => k - (intOf i).toNat)
  case atStart => exact ⟨0, Nat.zero_le _, rfl, by simp [diffB], hide (Below.refl _ _)⟩
  case round =>
    obtain ⟨q, hq, rfl, rfl, HBr⟩ := hrel
    have p0 := cell_row (i := 0) (heap_row HRJ.out HBr.out) rfl
    have f0 := cell_row (i := 0) (heap_row HRF.out HBr.out) rfl
    by_cases hlt : q < k
    · have hltI : (q : Int) < (k : Int) := by omega
      have hqf : q < fs.length := by omega
      have hqn : (q : Int) < (nf : Int) := by have := HNF.out; omega
      have z := HJ.out wr (HB2.out.trans (HBr.out.mono HB2.out.size)) q hqf
      have HT := hide (show (isn && diffB nm (fs.take (q + 1))) = ((isn && diffB nm (fs.take q)) && !(fs[q].name.toList == nm.toList)) from by rw [HDT.out nm q hqf, Bool.and_assoc])
      generalize fs[q].name = xn at z HT
      generalize (isn && diffB nm (fs.take q)) = ov at HT ⊢
      cases ov with
      | false =>
        have HT2 := hide (show (isn && diffB nm (fs.take (q + 1))) = false from by rw [HT.out]; rfl)
        clear HT
        go_upto_region 6 with fail
        go_big_quiet (fail)
        go_wp2_with fail
        go_roundw
        case rel => exact ⟨q + 1, by omega, by go_num, by rw [HT2.out], hide (below_drewN HBr.out _)⟩
        case measure => simp [intOf]; omega
      | true =>
        cases hx : xn.toList == nm.toList with
        | true =>
          have HT2 := hide (show (isn && diffB nm (fs.take (q + 1))) = false from by rw [HT.out, hx]; rfl)
          have hx2 : (xn.toList != nm.toList) = false := by simp [bne, hx]
          clear HT
          go_upto_region 6 with fail
          go_big_quiet (fail)
          go_wp2_with fail
          go_roundw
          case rel => exact ⟨q + 1, by omega, by go_num, by rw [HT2.out], hide (below_drewN HBr.out _)⟩
          case measure => simp [intOf]; omega
        | false =>
          have HT2 := hide (show (isn && diffB nm (fs.take (q + 1))) = true from by rw [HT.out, hx]; rfl)
          have hx2 : (xn.toList != nm.toList) = true := by simp [bne, hx]
          clear HT
          go_upto_region 6 with fail
          go_big_quiet (fail)
          go_wp2_with fail
          go_roundw
          case rel => exact ⟨q + 1, by omega, by go_num, by rw [HT2.out], hide (below_drewN HBr.out _)⟩
          case measure => simp [intOf]; omega
    · obtain rfl : q = k := by omega
      have hltI : ¬ (q : Int) < (q : Int) := by omega
      have f1 := cell_row (i := 1) (heap_row HRF.out HBr.out) rfl
      have f2 := cell_row (i := 2) (heap_row HRF.out HBr.out) rfl
      have f3 := cell_row (i := 3) (heap_row HRF.out HBr.out) rfl
      have HHE2 := hide (show he = (if (isn && diffB nm (fs.take q)) = false then 6 else if inB ar 0 8 = false then 15 else if inB lo ar 16 = false then 13 else if inB cn 1 256 = false then 3 else 0) from by
        rw [HHE.out, HDF.out]; rfl)
      have HBw := hide (HB1.out.trans ((HB2.out.trans (HBr.out.mono HB2.out.size)).mono HB1.out.size))
      generalize (isn && diffB nm (fs.take q)) = ov at HHE2 ⊢
      clear HHE HDF HDT HJ p0 hlt
      cases ov with
      | false =>
        have HR := hide (show fe = (0, 6) from by rw [HFE.out, HHE2.out]; rfl)
        clear HFE HHE2
        go_wp2_with fail
        refine bodyPost_ret (v := .tuple #[.int .i64 0, .int .i64 6]) (by simp [results, Tryd.results22, go_sem]) rfl ?_
        exact ⟨by rw [HR.out], HBw.out⟩
      | true =>
        by_cases ha : ar < 0 ∨ 8 < ar
        · have HR := hide (show fe = (0, 15) from by
            have h1 : inB ar 0 8 = false := by simp [inB]; omega
            rw [HFE.out, HHE2.out]; simp [h1])
          clear HFE HHE2
          by_cases ha1 : ar < 0
          · clear ha
            go_wp2_with fail
            refine bodyPost_ret (v := .tuple #[.int .i64 0, .int .i64 15]) (by simp [results, Tryd.results22, go_sem]) rfl ?_
            exact ⟨by rw [HR.out], HBw.out⟩
          · have ha2 : 8 < ar := ha.resolve_left ha1
            clear ha
            go_wp2_with fail
            refine bodyPost_ret (v := .tuple #[.int .i64 0, .int .i64 15]) (by simp [results, Tryd.results22, go_sem]) rfl ?_
            exact ⟨by rw [HR.out], HBw.out⟩
        · have ha1 : ¬ ar < 0 := fun e => ha (.inl e)
          have ha2 : ¬ 8 < ar := fun e => ha (.inr e)
          have h1 : inB ar 0 8 = true := by simp [inB]; omega
          have HHE3 := hide (show he = (if inB lo ar 16 = false then 13 else if inB cn 1 256 = false then 3 else 0) from by rw [HHE2.out, h1]; rfl)
          clear ha h1 HHE2
          by_cases hb : lo < ar ∨ 16 < lo
          · have HR := hide (show fe = (0, 13) from by
              have h1 : inB lo ar 16 = false := by simp [inB]; omega
              rw [HFE.out, HHE3.out]; simp [h1])
            clear HFE HHE3
            by_cases hb1 : lo < ar
            · clear hb
              go_wp2_with fail
              refine bodyPost_ret (v := .tuple #[.int .i64 0, .int .i64 13]) (by simp [results, Tryd.results22, go_sem]) rfl ?_
              exact ⟨by rw [HR.out], HBw.out⟩
            · have hb2 : 16 < lo := hb.resolve_left hb1
              clear hb
              go_wp2_with fail
              refine bodyPost_ret (v := .tuple #[.int .i64 0, .int .i64 13]) (by simp [results, Tryd.results22, go_sem]) rfl ?_
              exact ⟨by rw [HR.out], HBw.out⟩
          · have hb1 : ¬ lo < ar := fun e => hb (.inl e)
            have hb2 : ¬ 16 < lo := fun e => hb (.inr e)
            have h1 : inB lo ar 16 = true := by simp [inB]; omega
            have HHE4 := hide (show he = (if inB cn 1 256 = false then 3 else 0) from by rw [HHE3.out, h1]; rfl)
            clear hb h1 HHE3
            by_cases hc : cn = 0 ∨ 256 < cn
            · have HR := hide (show fe = (0, 3) from by
                have h1 : inB (cn : Int) 1 256 = false := by simp [inB]; omega
                rw [HFE.out, HHE4.out]; simp [h1])
              clear HFE HHE4
              by_cases hc1 : cn = 0
              · subst hc1
                clear hc
                go_wp2_with fail
                refine bodyPost_ret (v := .tuple #[.int .i64 0, .int .i64 3]) (by simp [results, Tryd.results22, go_sem]) rfl ?_
                exact ⟨by rw [HR.out], HBw.out⟩
              · have hc2 : (256 : Int) < (cn : Int) := by have := hc.resolve_left hc1; omega
                have hc3 : ((cn : Int) == 0) = false := by simp; omega
                clear hc
                go_wp2_with fail
                refine bodyPost_ret (v := .tuple #[.int .i64 0, .int .i64 3]) (by simp [results, Tryd.results22, go_sem]) rfl ?_
                exact ⟨by rw [HR.out], HBw.out⟩
            · have hc2 : ¬ (256 : Int) < (cn : Int) := by omega
              have hc3 : ((cn : Int) == 0) = false := by simp; omega
              have HCB := hide (show 1 ≤ cn ∧ cn ≤ 256 from by omega)
              have HFE2 := hide (show fe = (if (insFrom lo cn fs.length 0 code).2 ≠ 0 then insFrom lo cn fs.length 0 code else match rDepths (fs.map Fun.args) code with | .error q => q | .ok _ => (0, 0)) from by
                have h1 : inB (cn : Int) 1 256 = true := by have := HCB.out; simp [inB]; omega
                rw [HFE.out, HHE4.out, h1]; rfl)
              clear hc HFE HHE4 HBw
              have HBr3 := hide HBr.out
              clear HBr
              go_wp2_with fail
              clear f0 f1 f2 f3
              go_loopw [9] (fun i wz => ∃ u : Nat, u ≤ cn ∧ i = .int .i64 (u : Nat) ∧ Hid (Below w3.heap.size w3 wz ∧ insFrom lo cn fs.length 0 code = insFrom lo cn fs.length u (code.drop u))) (fun i _ => cn - (intOf i).toNat)
              case atStart => exact ⟨0, Nat.zero_le _, rfl, hide ⟨HBr3.out, by simp⟩⟩
              case round =>
                clear HBr3
                obtain ⟨u, hu, rfl, HU⟩ := hrel
                have p0 := cell_row (i := 0) (heap_row HRJ.out HU.out.1) rfl
                have p1 := cell_row (i := 1) (heap_row HRJ.out HU.out.1) rfl
                have p2 := cell_row (i := 2) (heap_row HRJ.out HU.out.1) rfl
                have p3 := cell_row (i := 3) (heap_row HRJ.out HU.out.1) rfl
                have p4 := cell_row (i := 4) (heap_row HRJ.out HU.out.1) rfl
                have f0 := cell_row (i := 0) (heap_row HRF.out HU.out.1) rfl
                have f1 := cell_row (i := 1) (heap_row HRF.out HU.out.1) rfl
                have f2 := cell_row (i := 2) (heap_row HRF.out HU.out.1) rfl
                have f3 := cell_row (i := 3) (heap_row HRF.out HU.out.1) rfl
                have HB1r := hide (HB2.out.trans (HU.out.1.mono HB2.out.size))
                have HBwr := hide (HB1.out.trans (HB1r.out.mono HB1.out.size))
                by_cases hul : u < cn
                · have huI : (u : Int) < (cn : Int) := by omega
                  have huc : u < code.length := by rw [HCL.out]; exact hul
                  have HI := hide (show insFrom lo cn fs.length 0 code = (if insErr lo cn nf (code.getD u (0, 0)).1 (code.getD u (0, 0)).2 = 0 then insFrom lo cn fs.length (u + 1) (code.drop (u + 1)) else ((u : Int), insErr lo cn nf (code.getD u (0, 0)).1 (code.getD u (0, 0)).2)) from by
                    rw [HU.out.2, List.drop_eq_getElem_cons huc, insFrom, HNF.out]
                    have : code.getD u (0, 0) = code[u] := by simp [List.getD, huc]
                    rw [this])
                  obtain ⟨cb, co, rfl, i1, i2⟩ := ins_cells (HCR.out.below HB1r.out) huc
                  generalize code.getD u (0, 0) = ins at HI i1 i2
                  obtain ⟨op, nn⟩ := ins
                  dsimp only at HI i1 i2
                  have C37 := hide (refIns_any (some ⟨fb, off, none⟩) nf fc mn aa na ac fu ta nm ar lo (some ⟨cb, co, none⟩) cn cc op nn wr.drew)
                  generalize insErr lo cn nf op nn = er at HI C37
                  go_upto_region 18 with fail
                  go_region_held3 (fun W => W.cell? ⟨w.heap.size, 0, none⟩ = some (.slice (some ⟨fb, off, none⟩) nf fc) ∧ W.cell? ⟨w.heap.size, 1, none⟩ = some (.int .i64 mn) ∧ W.cell? ⟨w.heap.size, 2, none⟩ = some (.slice aa na ac) ∧ W.cell? ⟨w.heap.size, 3, none⟩ = some (.int .i64 fu) ∧ W.cell? ⟨w.heap.size, 4, none⟩ = some (.int .i64 ta) ∧ W.cell? ⟨w1.heap.size, 0, none⟩ = some (.string nm) ∧ W.cell? ⟨w1.heap.size, 1, none⟩ = some (.int .i64 ar) ∧ W.cell? ⟨w1.heap.size, 2, none⟩ = some (.int .i64 lo) ∧ W.cell? ⟨w1.heap.size, 3, none⟩ = some (.slice (some ⟨cb, co, none⟩) cn cc) ∧ W.cell? ⟨cb, co + u * 2, none⟩ = some (.int .i64 op) ∧ W.cell? ⟨cb, co + u * 2 + 1, none⟩ = some (.int .i64 nn)) (first | exact ⟨p0, p1, p2, p3, p4, f0, f1, f2, f3, i1, i2⟩ | exact ⟨kp0, kp1, kp2, kp3, kp4, kf0, kf1, kf2, kf3, ki1, ki2⟩) ((go_at_call 37; (with_reducible refine C37.out.mono ?_); rintro e wk ⟨rfl, hbk⟩; have hbk' : Below wr.heap.size wr wk := ⟨hbk.os, hbk.tape, hbk.output, hbk.size, hbk.block⟩; have kp0 := keep_cell p0 hbk'; have kp1 := keep_cell p1 hbk'; have kp2 := keep_cell p2 hbk'; have kp3 := keep_cell p3 hbk'; have kp4 := keep_cell p4 hbk'; have kf0 := keep_cell f0 hbk'; have kf1 := keep_cell f1 hbk'; have kf2 := keep_cell f2 hbk'; have kf3 := keep_cell f3 hbk'; have ki1 := keep_cell i1 hbk'; have ki2 := keep_cell i2 hbk'; have HBk := hide (HU.out.1.trans (hbk'.mono HU.out.1.size)); clear hbk hbk'))
                  by_cases her : er = 0
                  · subst her
                    have HNX := hide (show Below w3.heap.size w3 wk ∧ insFrom lo cn fs.length 0 code = insFrom lo cn fs.length (u + 1) (code.drop (u + 1)) from ⟨HBk.out, by rw [HI.out, if_pos rfl]⟩)
                    have hez : ((0 : Int) != 0) = false := by simp
                    clear HI HU C37 HBk HB1r HBwr p0 p1 p2 p3 p4 f0 f1 f2 f3 i1 i2
                    go_wp2_with fail
                    go_roundw
                    case rel => exact ⟨u + 1, by omega, by go_num, HNX⟩
                    case measure => simp [intOf]; omega
                  · have hez : (er != 0) = true := by simpa using her
                    have hez2 : (er == 0) = false := by simpa using her
                    have HR := hide (show fe = ((u : Int), er) from by
                      have h1 : insFrom lo cn fs.length 0 code = ((u : Int), er) := by rw [HI.out, if_neg her]
                      rw [HFE2.out, h1, if_pos her])
                    have HBw2 := hide (HB1.out.trans ((HB2.out.trans (HBk.out.mono HB2.out.size)).mono HB1.out.size))
                    clear HI HU C37 HFE2 her
                    go_wp2_with fail
                    refine bodyPost_ret (v := .tuple #[.int .i64 (u : Int), .int .i64 er]) (by simp [results, Tryd.results22, go_sem]) rfl ?_
                    exact ⟨by rw [HR.out], HBw2.out⟩
                · obtain rfl : u = cn := by omega
                  have huI : ¬ (u : Int) < (u : Int) := by omega
                  have h0 : (insFrom lo u fs.length 0 code).2 = 0 := by
                    rw [HU.out.2, List.drop_of_length_le (by rw [HCL.out]; exact Nat.le_refl _)]; rfl
                  have HFE3 := hide (show fe = (match rDepths (fs.map Fun.args) code with | .error q => q | .ok _ => (0, 0)) from by rw [HFE2.out, if_neg (by rw [h0]; simp)])
                  have C26 := rdepths_any (some ⟨fb, off, none⟩) nf fc mn aa na ac fu ta nm ar lo ca u cc code (fs.map Fun.args) wr HCL.out HCB.out.1 HCB.out.2 (by rw [List.length_map]; exact HNF.out.symm) (HAR.out.below HB1r.out) (HCR.out.below HB1r.out) (fwd_of (lo := lo) (nf := fs.length) (by rw [HCL.out]; exact h0))
                  unfold RDepPost at C26
                  clear h0 HFE2
                  cases hd : rDepths (fs.map Fun.args) code with
                  | error q =>
                    obtain ⟨q1, q2⟩ := q
                    rw [hd] at C26 HFE3
                    dsimp only at C26 HFE3
                    have C26 := hide C26
                    go_wp2_with (go_at_call 26; go_must ((with_reducible refine C26.out.mono ?_); rintro e wk ⟨hbk, rfl⟩; have HBk := hide (HBwr.out.trans (hbk.mono HBwr.out.size)); clear hbk))
                    refine bodyPost_ret (v := .tuple #[.int .i64 q1, .int .i64 q2]) (by simp [results, Tryd.results22, go_sem]) rfl ?_
                    exact ⟨by rw [HFE3.out], HBk.out⟩
                  | ok d =>
                    rw [hd] at C26 HFE3
                    dsimp only at C26 HFE3
                    have C26 := hide C26
                    go_wp2_with (go_at_call 26; go_must ((with_reducible refine C26.out.mono ?_); rintro e wk ⟨hbk, ad, dc, rfl, hrd⟩; have HBk := hide (HBwr.out.trans (hbk.mono HBwr.out.size)); clear hbk hrd))
                    refine bodyPost_ret (v := .tuple #[.int .i64 0, .int .i64 0]) (by simp [results, Tryd.results22, go_sem]) rfl ?_
                    exact ⟨by rw [HFE3.out], HBk.out⟩
end Go.Proofs.YtfdgkeljnmamiaaDoor
