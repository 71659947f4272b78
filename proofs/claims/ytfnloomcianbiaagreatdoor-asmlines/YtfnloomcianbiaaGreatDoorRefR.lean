/- gleanerref4.Print. -/
import Derived.Test.YtfnloomcianbiaaGreatDoorRefQ
import Derived.Test.YtfnloomcianbiaaGreatDoorPrint
import Derived.Test.YtfnloomcianbiaaGreatDoorDigits
namespace Go.Proofs.YtfnloomcianbiaaGreatDoor
open Go.RowKit Go.ChangeShapes Go.WideShapes Go.ChangeAt Go.Deep

theorem in64_one {ns : List Int} (h : In64 ns) {n : Int} (hn : n ∈ ns) : In64 [n] := fun x hx => by
  simp only [List.mem_singleton] at hx
  rw [hx]; exact h n hn
theorem itoa_size {n : Int} (h : In64 [n]) : (bs (Lib.itoa n)).size ≤ 21 := by rw [bs_size]; exact itoa_21 h

set_option maxRecDepth 100000 in
set_option maxHeartbeats 4000000 in
set_option linter.unusedSimpArgs false in
theorem refPrint_any (j : JV) (cs : List Value) (fs : List Fun) (args : List Int) (w : World) (hJ : JobR w j cs fs args) (hI : JobIn fs args j.fuel j.tasks) (hf : fs.length ≤ 1000000000) (ha : args.length ≤ 1000000000) :
    Calls Tryz.prog 8 #[.agg j.cells] w fun e w' => e = .returned (.string (bs (printL fs j.main args j.fuel j.tasks))) ∧ Below w.heap.size w w' := by
  have hbA := alloc_below w (.cells j.cells 25)
  have hjA : (w.alloc (.cells j.cells 25)).heap[w.heap.size]? = some (.cells j.cells 25 (0, 0)) := heap_alloc_new w _
  have PL := refPlain_any j cs fs args (w.alloc (.cells j.cells 25)) (hJ.below hbA) (by omega) (by omega) (fun f hf => by have h1 := (hI.funcs f hf).2.2.1; have h2 := (hI.funcs f hf).2.1; omega)
  have HPR := hide (show printL fs j.main args j.fuel j.tasks = if plainL fs j.main args.length = true then printT fs j.main args j.fuel j.tasks else [] from rfl)
  have HPP := hide (fun h => plain_parts (fs := fs) (main := j.main) (na := args.length) h)
  have hnf := hJ.nf
  have hna := hJ.na
  obtain ⟨fa, nf, fc, mn, aa, na, ac, fu, ta⟩ := j
  simp only [JV.cells] at *
  have HNF := hide hnf
  have HNA := hide hna
  rw [← hnf] at hf
  rw [← hna] at ha
  clear hnf hna
  have j0 := cell_row (i := 0) hjA rfl
  have j1 := cell_row (i := 1) hjA rfl
  have j2 := cell_row (i := 2) hjA rfl
  have j3 := cell_row (i := 3) hjA rfl
  have j4 := cell_row (i := 4) hjA rfl
  generalize printL fs mn args fu ta = RES at HPR ⊢
  cases hq : plainL fs mn args.length with
  | false =>
    rw [hq] at PL HPR
    have HR := hide (show RES = [] by rw [HPR.out]; rfl)
    clear HPR HPP
    go_enter Tryz.func8, Tryz.ntmps8
    go_wp2_with (go_at_call 6; go_must (refine PL.mono ?_; rintro e w1 ⟨rfl, hb1⟩))
    go_ret
    exact ⟨by rw [HR.out]; rfl, hbA.trans (hb1.mono hbA.size)⟩
  | true =>
    obtain ⟨h32, h8, hmn, hfun⟩ := HPP.out hq
    rw [hq] at PL HPR
    have HR := hide (show RES = printT fs mn args fu ta by rw [HPR.out]; rfl)
    have HFN := hide hfun
    have HII := hide hI
    obtain ⟨m, rfl⟩ : ∃ m : Nat, mn = (m : Int) := ⟨mn.toNat, by omega⟩
    have hmf : m < fs.length := by omega
    have HM := hide hmf
    have HA8 := hide h8
    clear HPR HPP hfun h8 hmn hI
    go_enter Tryz.func8, Tryz.ntmps8
    go_wp2_with (go_at_call 6; go_must (refine PL.mono ?_; rintro e w1 ⟨rfl, hb1⟩; refine Hid.out ?_))
    refine Lib.hid ?_
    clear PL
    have hj1 : w1.heap[w.heap.size]? = some (.cells [.slice fa nf fc, .int .i64 (m : Int), .slice aa na ac, .int .i64 fu, .int .i64 ta].toArray 25 (0, 0)) := (hb1.block _ (lt_row hjA)).trans hjA
    have hbw := hbA.trans (hb1.mono hbA.size)
    have hJ1 := hJ.below hbw
    have i0 := cell_row (i := 0) hj1 rfl
    have i1 := cell_row (i := 1) hj1 rfl
    have i2 := cell_row (i := 2) hj1 rfl
    have i3 := cell_row (i := 3) hj1 rfl
    have i4 := cell_row (i := 4) hj1 rfl
    have hil := lt_row hj1
    obtain ⟨b, off, ca, cc, p1, y0, -, -, -, -⟩ := hJ1.cell hmf
    simp only at p1
    subst p1
    have hn20 := (HFN.out fs[m] (List.getElem_mem _)).1
    have hkx := List.getElem?_eq_getElem hmf
    generalize fs[m] = fm at y0 hn20 hkx
    have D1 := fun w => digits_any fu (in64_one HII.out.two (by simp)) w
    have D2 := fun w => digits_any ta (in64_one HII.out.two (by simp)) w
    have hz1 := itoa_size (in64_one HII.out.two (n := fu) (by simp))
    have hz2 := itoa_size (in64_one HII.out.two (n := ta) (by simp))
    have HKX := hide hkx
    have HJ1 := hide hj1
    have HT0 := hide (show bs (headT fu ta ++ ([109, 97, 105, 110, 32] ++ fm.name.data.toList)) = ⟨#[106, 111, 98, 32]⟩ ++ bs (Lib.itoa fu) ++ ⟨#[32]⟩ ++ bs (Lib.itoa ta) ++ ⟨#[10, 109, 97, 105, 110, 32]⟩ ++ fm.name by
      apply bytes_inj
      rw [show ∀ l, (bs l).data.toList = l from fun l => by simp [bs]]
      simp [headT, numsT, bs])
    generalize bs (Lib.itoa fu) = A at D1 hz1 HT0
    generalize bs (Lib.itoa ta) = B at D2 hz2 HT0
    have hmi : (m : Int) < (nf : Int) := by have := HNF.out; omega
    have hyl := cell_some_lt y0
    clear hkx hjA j0 j1 j2 j3 j4 hj1 hmf
    go_wp2
    go_quiet (first | (go_at_call 17; with_reducible exact Calls.quiet_of_same (D1 _)) | (go_at_call 17; with_reducible exact Calls.quiet_of_same (D2 _)))
    rw [← HT0.out]
    have hw2 : (w1.drewN nq).heap[w.heap.size]? = some (.cells [.slice (some ⟨b, off, none⟩) nf fc, .int .i64 (m : Int), .slice aa na ac, .int .i64 fu, .int .i64 ta].toArray 25 (0, 0)) := by
      have := HJ1.out
      simpa using this
    have hb2 : Below w.heap.size w (w1.drewN nq) := below_drewN hbw nq
    have hH : (headT fu ta ++ ([109, 97, 105, 110, 32] ++ fm.name.data.toList)).length ≤ 200 := by
      rw [← bs_size, HT0.out]
      simp only [ByteArray.size_append]
      have e1 : (⟨#[106, 111, 98, 32]⟩ : ByteArray).size = 4 := rfl
      have e2 : (⟨#[32]⟩ : ByteArray).size = 1 := rfl
      have e3 : (⟨#[10, 109, 97, 105, 110, 32]⟩ : ByteArray).size = 6 := rfl
      omega
    have HTT := hide (show printT fs (m : Int) args fu ta = (headT fu ta ++ ([109, 97, 105, 110, 32] ++ fm.name.data.toList)) ++ numsT args ++ [10] ++ fs.flatMap (fun f => funcT f fs) ++ [101, 110, 100, 10] by
      simp [printT, mainT, HKX.out])
    have HJ2 := hide (hJ.below hb2)
    generalize w1.drewN nq = w2 at hw2 hb2 HJ2 ⊢
    generalize headT fu ta ++ ([109, 97, 105, 110, 32] ++ fm.name.data.toList) = H at hH HTT ⊢
    clear D1 D2 hz1 hz2 HT0 HJ1 hbw hJ1 i0 i1 i2 i3 i4 hil y0 hn20 HKX hmi hyl hbA hb1
    have k2 := cell_row (i := 2) hw2 rfl
    have k0 := cell_row (i := 0) hw2 rfl
    have hkl := lt_row hw2
    have HW2 := hide hw2
    have HB2 := hide hb2
    have HH := hide hH
    clear hw2 hb2 hH
    go_wp2
    go_loopw [4, 5] (fun s i wr => wr = w2 ∧ ∃ k : Nat, k ≤ na ∧ i = .int .i64 (k : Nat) ∧ s = .string (bs (H ++ numsT (args.take k)))) (fun _ i _ => na - (intOf i).toNat)
    case atStart => exact ⟨rfl, 0, Nat.zero_le _, rfl, by simp [numsT]⟩
    case round =>
      obtain ⟨rfl, k, hk, rfl, rfl⟩ := hrel
      have hlen : (bs (H ++ numsT (args.take k))).size ≤ 400 := by
        have e1 := numsT_len (args.take k) (fun x hx => HII.out.args x (List.mem_of_mem_take hx))
        have e2 := HH.out
        have e3 := HA8.out
        rw [bs_size, List.length_append]
        rw [List.length_take] at e1
        omega
      by_cases hlt : k < na
      · have hka : k < args.length := by have := HNA.out; omega
        obtain ⟨ab, ao, pa, hcs⟩ := reads_at HJ2.out.args hka
        simp only at pa
        subst pa
        have hc := hcs.out k _ (by rw [iV, List.getElem?_map, List.getElem?_eq_getElem hka]; rfl)
        have hx := List.getElem?_eq_getElem hka
        have hxm := in64_one HII.out.args (List.getElem_mem hka)
        generalize args[k] = x at hc hx hxm
        have D := fun w => digits_any x hxm w
        have hz := itoa_size hxm
        have HS := hide (show bs (H ++ numsT (args.take (k + 1))) = bs (H ++ numsT (args.take k)) ++ ⟨#[32]⟩ ++ bs (Lib.itoa x) by
          apply bytes_inj
          rw [show ∀ l, (bs l).data.toList = l from fun l => by simp [bs], List.take_add_one, hx]
          simp [numsT, bs])
        generalize bs (Lib.itoa x) = A at D hz HS
        generalize bs (H ++ numsT (args.take k)) = T0 at HS hlen ⊢
        have hlt' : (k : Int) < (na : Int) := by omega
        have hal := cell_some_lt hc
        clear hx hcs hxm
        go_wp2_with (go_at_call 17; go_must (with_reducible refine (D _).mono ?_; rintro e wz ⟨rfl, hwz⟩; replace hwz := hwz.symm; subst hwz))
        go_roundw
        case rel => exact ⟨trivial, k + 1, by omega, by go_num, by rw [HS.out]⟩
        case measure => simp [intOf]; omega
      · have hlt' : ¬ (k : Int) < (na : Int) := by omega
        have HE := hide (show bs (H ++ numsT (args.take k)) ++ ⟨#[10]⟩ = bs (H ++ numsT args ++ [10]) by
          rw [List.take_of_length_le (by have := HNA.out; omega)]
          exact bs_append _ _)
        have HBL := hide (show (H ++ numsT args ++ [10]).length ≤ 500 by
          have := congrArg ByteArray.size HE.out
          rw [ByteArray.size_append, bs_size (H ++ numsT args ++ [10])] at this
          have e2 : (⟨#[10]⟩ : ByteArray).size = 1 := rfl
          omega)
        generalize bs (H ++ numsT (args.take k)) = T0 at HE hlen ⊢
        generalize H ++ numsT args ++ [10] = base at HE HBL HTT
        clear hlt hk
        go_wp2
        clear hlen k0 k2 hkl
        go_loopw [4, 6] (fun s i wr => ∃ k : Nat, k ≤ nf ∧ i = .int .i64 (k : Nat) ∧ s = .string (bs (base ++ (fs.take k).flatMap fun f => funcT f fs)) ∧ Hid ((base ++ (fs.take k).flatMap fun f => funcT f fs).length ≤ 500 + k * 400000) ∧ Hid (Below w.heap.size w wr) ∧ wr.heap[w.heap.size]? = some (.cells [.slice (some ⟨b, off, none⟩) nf fc, .int .i64 (m : Int), .slice aa na ac, .int .i64 fu, .int .i64 ta].toArray 25 (0, 0))) (fun _ i _ => nf - (intOf i).toNat)
        case atStart => exact ⟨0, Nat.zero_le _, rfl, by rw [HE.out]; simp, (by refine Lib.hid ?_; simpa using HBL.out), HB2, HW2.out⟩
        case round =>
          clear HE HW2 HB2 HJ2 HBL HH
          obtain ⟨k, hk, rfl, rfl, hlen, hbw, hj⟩ := hrel
          obtain ⟨wo, hwo⟩ : ∃ wo, wo = wr := ⟨_, rfl⟩
          subst hwo
          have j0 := cell_row (i := 0) hj rfl
          have hjl := lt_row hj
          have hs0 : (bs (base ++ (fs.take k).flatMap fun f => funcT f fs)).size ≤ 500 + k * 400000 := by rw [bs_size]; exact hlen.out
          by_cases hlt : k < nf
          · have hkf : k < fs.length := by have := HNF.out; omega
            obtain ⟨b', off', ca, cc, p2, y0, y1, y2, y3, yr⟩ := (hJ.below hbw.out).cell hkf
            simp only at p2
            injection p2 with p2
            injection p2 with p3 p4
            subst p3 p4
            have hfm : fs[k] ∈ fs := List.getElem_mem _
            have hkx := List.getElem?_eq_getElem hkf
            generalize fs[k] = f at y0 y1 y2 y3 yr hfm hkx
            obtain ⟨g20, g256, g16⟩ := HFN.out f hfm
            obtain ⟨gin, _, _, gcode⟩ := HII.out.funcs f hfm
            obtain ⟨cn, hcn⟩ : ∃ cn, cn = f.code.length := ⟨_, rfl⟩
            rw [← hcn] at y3 g256
            have HCN := hide hcn
            have HY := hide yr
            have G16 := hide g16
            have GC := hide gcode
            have hlt' : (k : Int) < (nf : Int) := by omega
            have h32' : k ≤ 32 := by have := HNF.out; omega
            have D1 := fun w => digits_any f.args (in64_one gin (by simp)) w
            have D2 := fun w => digits_any f.locals (in64_one gin (by simp)) w
            have hz1 := itoa_size (in64_one gin (n := f.args) (by simp))
            have hz2 := itoa_size (in64_one gin (n := f.locals) (by simp))
            have HFT := hide (show base ++ (fs.take (k + 1)).flatMap (fun f => funcT f fs) = (base ++ (fs.take k).flatMap fun f => funcT f fs) ++ ([102, 117, 110, 99, 32] ++ f.name.data.toList ++ numsT [f.args, f.locals] ++ [10]) ++ codeT f.code fs by
              rw [List.take_add_one, hkx]
              simp [funcT])
            generalize (base ++ (fs.take k).flatMap fun f => funcT f fs) = acc at HFT hs0 ⊢
            have HAC := hide (show bs (acc ++ ([102, 117, 110, 99, 32] ++ f.name.data.toList ++ numsT [f.args, f.locals] ++ [10])) = bs acc ++ ⟨#[102, 117, 110, 99, 32]⟩ ++ f.name ++ ⟨#[32]⟩ ++ bs (Lib.itoa f.args) ++ ⟨#[32]⟩ ++ bs (Lib.itoa f.locals) ++ ⟨#[10]⟩ by
              apply bytes_inj
              rw [show ∀ l, (bs l).data.toList = l from fun l => by simp [bs]]
              simp [numsT, bs])
            have hac2 : (acc ++ ([102, 117, 110, 99, 32] ++ f.name.data.toList ++ numsT [f.args, f.locals] ++ [10])).length ≤ 700 + k * 400000 := by
              rw [← bs_size, HAC.out]
              simp only [ByteArray.size_append]
              have e1 : (⟨#[102, 117, 110, 99, 32]⟩ : ByteArray).size = 5 := rfl
              have e2 : (⟨#[32]⟩ : ByteArray).size = 1 := rfl
              have e3 : (⟨#[10]⟩ : ByteArray).size = 1 := rfl
              omega
            generalize acc ++ ([102, 117, 110, 99, 32] ++ f.name.data.toList ++ numsT [f.args, f.locals] ++ [10]) = acc2 at HFT HAC hac2
            generalize bs (Lib.itoa f.args) = A at D1 hz1 HAC
            generalize bs (Lib.itoa f.locals) = B at D2 hz2 HAC
            have hyl := cell_some_lt y0
            have hbC := alloc_below wo (.cells #[.string f.name, .int .i64 f.args, .int .i64 f.locals, .slice ca cn cc] 45)
            have hF : (wo.alloc (.cells #[.string f.name, .int .i64 f.args, .int .i64 f.locals, .slice ca cn cc] 45)).heap[wo.heap.size]? = some (.cells [.string f.name, .int .i64 f.args, .int .i64 f.locals, .slice ca cn cc].toArray 45 (0, 0)) := heap_alloc_new wo _
            have HAL := hide hac2
            have HJ0 := hide hj
            generalize bs acc = TA at HAC hs0 ⊢
            clear hcn yr g16 gcode hkx hac2 hj gin
            go_upto_region 14 with fail
            have n0 := cell_row (i := 0) hF rfl
            have n1 := cell_row (i := 1) hF rfl
            have n2 := cell_row (i := 2) hF rfl
            have hfl := lt_row hF
            generalize wo.alloc (.cells #[.string f.name, .int .i64 f.args, .int .i64 f.locals, .slice ca cn cc] 45) = wa at hbC hF n0 n1 n2 hfl ⊢
            go_quiet (first | (go_at_call 17; with_reducible exact Calls.quiet_of_same (D1 _)) | (go_at_call 17; with_reducible exact Calls.quiet_of_same (D2 _)))
            rw [← HAC.out]
            have hFb : (wa.drewN nq).heap[wo.heap.size]? = some (.cells [.string f.name, .int .i64 f.args, .int .i64 f.locals, .slice ca cn cc].toArray 45 (0, 0)) := by simpa using hF
            have hbB : Below wo.heap.size wo (wa.drewN nq) := below_drewN hbC nq
            have hbW := hbw.out.trans (hbB.mono hbw.out.size)
            have hJb := (hbB.block _ hjl).trans HJ0.out
            generalize wa.drewN nq = wb at hFb hbB hbW hJb ⊢
            have n3 := cell_row (i := 3) hFb rfl
            have hfl2 := lt_row hFb
            have HFB := hide hFb
            have HJB := hide hJb
            have HBW := hide hbW
            have HBB := hide hbB
            clear hF n0 n1 n2 hfl hbC hFb hJb hbW hbB D1 D2 hz1 hz2 HAC hs0 y0 y1 y2 y3 j0 hyl
            go_wp2
            clear n3 hfl2
            go_loopw [4, 8] (fun s i wr => ∃ kk : Nat, kk ≤ cn ∧ i = .int .i64 (kk : Nat) ∧ s = .string (bs (acc2 ++ codeT (f.code.take kk) fs)) ∧ Hid ((acc2 ++ codeT (f.code.take kk) fs).length ≤ 700 + k * 400000 + kk * 1100) ∧ Hid (Below wb.heap.size wb wr)) (fun _ i _ => cn - (intOf i).toNat)
            case atStart => exact ⟨0, Nat.zero_le _, rfl, by simp [codeT], (by refine Lib.hid ?_; simpa [codeT] using HAL.out), Below.refl _ _⟩
            case round =>
              obtain ⟨kk, hkk, rfl, rfl, hlq, hbq⟩ := hrel
              obtain ⟨wp, hwp⟩ : ∃ wp, wp = wr := ⟨_, rfl⟩
              subst hwp
              have hF3 := (hbq.out.block _ (lt_row HFB.out)).trans HFB.out
              have hJ3 := (hbq.out.block _ (lt_row HJB.out)).trans HJB.out
              have c3 := cell_row (i := 3) hF3 rfl
              have z0 := cell_row (i := 0) hJ3 rfl
              have hfl3 := lt_row hF3
              have hjl3 := lt_row hJ3
              have hbp := HBW.out.trans (hbq.out.mono HBW.out.size)
              have HBP := hide hbp
              have hsq : (bs (acc2 ++ codeT (f.code.take kk) fs)).size ≤ 700 + k * 400000 + kk * 1100 := by rw [bs_size]; exact hlq.out
              by_cases hlk : kk < cn
              · have hkc : kk < f.code.length := by have := HCN.out; omega
                obtain ⟨cb, co, rfl, u0, u1⟩ := code_at (HY.out.below (HBB.out.trans (hbq.out.mono HBB.out.size))) hkc
                have hxx := List.getElem?_eq_getElem hkc
                have hxm : f.code[kk] ∈ f.code := List.getElem_mem _
                generalize f.code[kk] = x at u0 u1 hxx hxm
                have hlk' : (kk : Int) < (cn : Int) := by omega
                have hx64 := GC.out x hxm
                have hx16 := G16.out x hxm
                have hnames : ∀ g ∈ fs, g.name.size ≤ 1000 := fun g hg => by have := (HFN.out g hg).1; omega
                have htl := insText_len x.1 x.2 fs hx64 hnames
                have HCT := hide (show bs (acc2 ++ codeT (f.code.take (kk + 1)) fs) = bs (acc2 ++ codeT (f.code.take kk) fs) ++ bs (insText x.1 x.2 fs) by
                  rw [bs_append, List.take_add_one, hxx]
                  simp [codeT])
                have HLN := hide (show (acc2 ++ codeT (f.code.take (kk + 1)) fs).length ≤ 700 + k * 400000 + (kk + 1) * 1100 by
                  rw [← bs_size, HCT.out, ByteArray.size_append, bs_size (insText x.1 x.2 fs)]
                  omega)
                generalize bs (acc2 ++ codeT (f.code.take kk) fs) = TQ at HCT hsq ⊢
                have HIT := hide (show bs (insText x.1 x.2 fs) = ⟨#[32, 32]⟩ ++ (kindOf x.1).word ++ bs (behindT x.1 x.2 fs) ++ ⟨#[10]⟩ by
                  apply bytes_inj
                  rw [show ∀ l, (bs l).data.toList = l from fun l => by simp [bs]]
                  simp [insText, bs])
                have hwl := word_len x.1
                have HBH := hide (show behindT x.1 x.2 fs = if x.1 = 16 then 32 :: ((fs[x.2.toNat]?).map fun f => f.name.data.toList).getD [] else if (kindOf x.1).hasN = true then 32 :: Lib.itoa x.2 else [] from rfl)
                have NM := fun w => refName_any x.1 w
                have HN := fun w => refHasN_any x.1 w
                generalize (kindOf x.1).word = wd at NM HIT hwl
                generalize (kindOf x.1).hasN = hn at HN HBH
                obtain ⟨op, n⟩ := x
                simp only at *
                have hbX := alloc_below wp (.cells #[.int .i64 op, .int .i64 n] 42)
                have hX : (wp.alloc (.cells #[.int .i64 op, .int .i64 n] 42)).heap[wp.heap.size]? = some (.cells [.int .i64 op, .int .i64 n].toArray 42 (0, 0)) := heap_alloc_new wp _
                have hul := cell_some_lt u0
                have HJ3 := hide hJ3
                clear hF3 hJ3 hxx hxm htl
                go_wp2_with (go_at_call 18; refine Hid.out ?_)
                refine Lib.hid ?_
                generalize wp.alloc (.cells #[.int .i64 op, .int .i64 n] 42) = wx at hX hbX ⊢
                refine (NM wx).mono ?_
                rintro e w5 ⟨rfl, hb5⟩
                have hX5 := (hb5.block _ (lt_row hX)).trans hX
                have hbX5 := hbX.trans (hb5.mono hbX.size)
                have x0 := cell_row (i := 0) hX5 rfl
                have x1 := cell_row (i := 1) hX5 rfl
                have hxl := lt_row hX5
                have z5 := keep_cell z0 hbX5
                have hzl := cell_some_lt z5
                have hbP5 := HBP.out.trans (hbX5.mono HBP.out.size)
                have HB6 := hide (hbq.out.trans (hbX5.mono hbq.out.size))
                have hzw : (⟨#[32]⟩ : ByteArray).size = 1 := rfl
                clear NM hX hX5 hbX c3 z0 hfl3 hjl3 u0 u1 hul
                by_cases h16 : op = 16
                · have h16r := hx16 h16
                  obtain ⟨q, rfl⟩ : ∃ q : Nat, n = (q : Int) := ⟨n.toNat, by omega⟩
                  have hqf : q < fs.length := by omega
                  obtain ⟨b', off', _, _, p2, v0, -, -, -, -⟩ := (hJ.below hbP5).cell hqf
                  simp only at p2
                  injection p2 with p2
                  injection p2 with p3 p4
                  subst p3 p4
                  have hq20 := (HFN.out fs[q] (List.getElem_mem _)).1
                  have hqx := List.getElem?_eq_getElem hqf
                  generalize fs[q] = fq at v0 hq20 hqx
                  have HFIN := hide (show TQ ++ ⟨#[32, 32]⟩ ++ wd ++ ⟨#[32]⟩ ++ fq.name ++ ⟨#[10]⟩ = bs (acc2 ++ codeT (f.code.take (kk + 1)) fs) by
                    rw [HCT.out, HIT.out, HBH.out, if_pos h16, Int.toNat_natCast, hqx]
                    apply bytes_inj
                    simp [bs])
                  have hqi : (q : Int) < (nf : Int) := by have := HNF.out; omega
                  have hvl := cell_some_lt v0
                  subst h16
                  clear HCT HIT HBH hx16 hqx hbP5 hbX5 hb5 h16r hx64
                  go_wp2_with (go_at_call 19; go_must (refine (HN _).mono ?_; rintro e wz ⟨rfl, hwz⟩; replace hwz := hwz.symm; subst hwz))
                  go_roundw
                  case rel => exact ⟨kk + 1, by omega, by go_num, by rw [HFIN.out], HLN, HB6⟩
                  case measure => simp [intOf]; omega
                · cases hn with
                  | true =>
                    have D := fun w => digits_any n hx64 w
                    have hz := itoa_size hx64
                    have HFIN := hide (show TQ ++ ⟨#[32, 32]⟩ ++ wd ++ ⟨#[32]⟩ ++ bs (Lib.itoa n) ++ ⟨#[10]⟩ = bs (acc2 ++ codeT (f.code.take (kk + 1)) fs) by
                      rw [HCT.out, HIT.out, HBH.out, if_neg h16, if_pos rfl]
                      apply bytes_inj
                      simp [bs])
                    generalize bs (Lib.itoa n) = A at D hz HFIN
                    clear HCT HIT HBH hx16 hbP5 hbX5 hb5 hx64
                    go_wp2_with (first
                      | (go_at_call 19; go_must (refine (HN _).mono ?_; rintro e wz ⟨rfl, hwz⟩; replace hwz := hwz.symm; subst hwz))
                      | (go_at_call 17; go_must (with_reducible refine (D _).mono ?_; rintro e wz ⟨rfl, hwz⟩; replace hwz := hwz.symm; subst hwz)))
                    go_roundw
                    case rel => exact ⟨kk + 1, by omega, by go_num, by rw [HFIN.out], HLN, HB6⟩
                    case measure => simp [intOf]; omega
                  | false =>
                    have HFIN := hide (show TQ ++ ⟨#[32, 32]⟩ ++ wd ++ ⟨#[10]⟩ = bs (acc2 ++ codeT (f.code.take (kk + 1)) fs) by
                      rw [HCT.out, HIT.out, HBH.out, if_neg h16, if_neg (by decide)]
                      apply bytes_inj
                      simp [bs])
                    clear HCT HIT HBH hx16 hbP5 hbX5 hb5 hx64
                    go_wp2_with (go_at_call 19; go_must (refine (HN _).mono ?_; rintro e wz ⟨rfl, hwz⟩; replace hwz := hwz.symm; subst hwz))
                    go_roundw
                    case rel => exact ⟨kk + 1, by omega, by go_num, by rw [HFIN.out], HLN, HB6⟩
                    case measure => simp [intOf]; omega
              · have hlk' : ¬ (kk : Int) < (cn : Int) := by omega
                have HEQ := hide (show bs (acc2 ++ codeT (f.code.take kk) fs) = bs (base ++ (fs.take (k + 1)).flatMap fun f => funcT f fs) by
                  rw [HFT.out, List.take_of_length_le (by have := HCN.out; omega)])
                have HEL := hide (show (base ++ (fs.take (k + 1)).flatMap fun f => funcT f fs).length ≤ 500 + (k + 1) * 400000 by
                  rw [← bs_size, ← HEQ.out]
                  omega)
                generalize bs (acc2 ++ codeT (f.code.take kk) fs) = TQ at HEQ hsq ⊢
                have HJ9 := hide hJ3
                clear hF3 hJ3 z0
                go_wp2
                go_roundw
                case rel => exact ⟨k + 1, by omega, by go_num, by rw [HEQ.out], HEL, HBP, HJ9.out⟩
                case measure => simp [intOf]; omega
          · have hlt' : ¬ (k : Int) < (nf : Int) := by omega
            have HFIN := hide (show bs (base ++ (fs.take k).flatMap fun f => funcT f fs) ++ ⟨#[101, 110, 100, 10]⟩ = bs RES by
              rw [HR.out, HTT.out, List.take_of_length_le (by have := HNF.out; omega)]
              exact bs_append _ _)
            have hk32 : k ≤ 32 := by have := HNF.out; omega
            generalize bs (base ++ (fs.take k).flatMap fun f => funcT f fs) = TQ at HFIN hs0 ⊢
            clear hlen
            go_wp2
            go_ret
            exact ⟨by rw [← HFIN.out]; rfl, hbw.out⟩
end Go.Proofs.YtfnloomcianbiaaGreatDoor
