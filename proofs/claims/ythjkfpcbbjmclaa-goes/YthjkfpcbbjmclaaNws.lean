/- The newest of views, both. -/
import Derived.Test.YthjkfpcbbjmclaaWoA
import Derived.Test.YthjkfpcbbjmclaaArg
namespace Go.Proofs.Ythjkfpcbbjmclaa
open Go.RowKit Go.ChangeShapes Go.WideShapes Go.ChangeAt Go.Deep

/-- The newest, of x and these. -/
def nwV : Vm → List Vm → Vm
  | x, [] => x
  | x, y :: r => nwV (if x.ep < y.ep then y else x) r
theorem nwV_gt {x y : Vm} {r : List Vm} (h : x.ep < y.ep) : nwV x (y :: r) = nwV y r := by simp [nwV, h]
theorem nwV_le {x y : Vm} {r : List Vm} (h : ¬ x.ep < y.ep) : nwV x (y :: r) = nwV x r := by simp [nwV, h]
def nilV : Vm := ⟨0, none, 0, 0, []⟩
def topV : List Vm → Vm
  | [] => nilV
  | x :: r => nwV x r
theorem nwV_mem : ∀ (r : List Vm) (x : Vm), nwV x r = x ∨ nwV x r ∈ r
  | [], x => .inl rfl
  | y :: r, x => by
    rcases nwV_mem r (if x.ep < y.ep then y else x) with h | h
    · by_cases hc : x.ep < y.ep
      · rw [if_pos hc] at h; exact .inr (by simp [nwV, hc, h])
      · rw [if_neg hc] at h; exact .inl (by simp [nwV, hc, h])
    · exact .inr (by simp only [nwV]; exact List.mem_cons_of_mem _ h)
theorem topV_mem {vs : List Vm} (h : 0 < vs.length) : topV vs ∈ vs := by
  cases vs with
  | nil => simp at h
  | cons x r =>
    rcases nwV_mem r x with h | h
    · show nwV x r ∈ _; rw [h]; exact List.mem_cons_self
    · exact List.mem_cons_of_mem _ h

set_option linter.unusedSimpArgs false in
set_option maxRecDepth 100000 in
set_option maxHeartbeats 4000000 in
/-- gleanerref14.Newest. -/
theorem rnewest_any (vs : List Vm) (a : Option Addr) (l c : Nat) (w : World) (hl : vs.length = l) (hlen : l ≤ 20000) (hr : Reads w a (vV vs)) :
    Calls Try.prog 24 #[.slice a l c] w fun e w' => e = .returned (.agg #[.int .i64 (topV vs).ep, (topV vs).sl]) ∧ Below w.heap.size w w' := by
  have HB := hide (below_new w (.cells #[.int .i64 0, .slice none 0 0] 24))
  have HX := hide (BoxL.new w [.int .i64 0, .slice none 0 0] 24)
  obtain ⟨V, hV⟩ : ∃ V, V = w.alloc (.cells #[.int .i64 0, .slice none 0 0] 24) := ⟨_, rfl⟩
  have HX := hide (show BoxL V w.heap.size [.int .i64 0, .slice none 0 0] by rw [hV]; exact HX.out)
  rw [← hV] at HB
  have HR := hide (hr.below HB.out)
  have HL := hide hl
  have HV := hide hV
  obtain ⟨R, hR⟩ : ∃ R, R = topV vs := ⟨_, rfl⟩
  rw [← hR]
  have HRR := hide hR
  clear hV hr hl hR
  by_cases h0 : l = 0
  · subst h0
    obtain rfl : R = nilV := by rw [HRR.out, List.eq_nil_of_length_eq_zero HL.out]; rfl
    have HZ := hide (HX.out.put2 (.int .i64 0) (.slice none 0 0))
    have HW := hide (below_put2 HB.out (g := w.heap.size) (Nat.le_refl _) (.int .i64 0) (.slice none 0 0))
    obtain ⟨⟨x0, x1⟩, x2, x3⟩ := HX.out.c2
    go_enter Try.func24, Try.ntmps24
    go_upto_region 1 with fail
    rw [← HV.out]
    go_wp2
    generalize (V.setCell ⟨w.heap.size, 0, none⟩ (.int .i64 0)).setCell ⟨w.heap.size, 1, none⟩ (.slice none 0 0) = X at HZ HW ⊢
    obtain ⟨⟨z0, z1⟩, -⟩ := HZ.out.c2
    refine bodyPost_ret (v := .agg #[.int .i64 0, .slice none 0 0]) (by simp [results, Try.results24, go_sem, z0, z1]) rfl ?_
    exact ⟨rfl, HW.out⟩
  · have q0 : ((l : Int) == 0) = false := by rw [beq_eq_false_iff_ne]; omega
    have hv0 : 0 < vs.length := by have := HL.out; omega
    have HS := hide (show R = nwV vs[0] (vs.drop 1) by
      rw [HRR.out]
      cases vs with
      | nil => simp at hv0
      | cons x r => rfl)
    clear HRR
    go_enter Try.func24, Try.ntmps24
    go_upto_region 1 with fail
    rw [← HV.out]
    go_wp2
    go_loopw [3, 4] (fun j i wr => Hid (Below V.heap.size V wr) ∧ ∃ (q k : Nat), q < k ∧ k ≤ l ∧ j = .int .i64 (q : Nat) ∧ i = .int .i64 (k : Nat) ∧ Hid (∃ hq : q < vs.length, R = nwV vs[q] (vs.drop k))) (fun _ i _ => l - (intOf i).toNat)
    case atStart => exact ⟨hide (Below.refl _ _), 0, 1, by omega, by omega, rfl, rfl, hide ⟨hv0, HS.out⟩⟩
    case round =>
      clear HS hv0
      obtain ⟨hbw, q, k, hqk, hk, rfl, rfl, hI⟩ := hrel
      obtain ⟨hq, hI⟩ := hI.out
      have hql : q < l := by omega
      have hqi : (q : Int) < (l : Int) := by omega
      have HB2 := hide (show Below w.heap.size w wr from HB.out.trans (hbw.out.mono HB.out.size))
      obtain ⟨g, off, har, u0, u1⟩ := vw_at (HR.out.below hbw.out) hq
      subst har
      by_cases hlt : k < l
      · have hlt' : (k : Int) < (l : Int) := by omega
        have hkl : k < vs.length := by have := HL.out; omega
        obtain ⟨g', off', har, y0, y1⟩ := vw_at (HR.out.below hbw.out) hkl
        simp only [Option.some.injEq, Addr.mk.injEq] at har
        obtain ⟨rfl, rfl, -⟩ := har
        rw [List.drop_eq_getElem_cons hkl] at hI
        clear u1 y1
        by_cases hgt : vs[q].ep < vs[k].ep
        · have HN := hide (show ∃ hq : k < vs.length, R = nwV vs[k] (vs.drop (k + 1)) from ⟨hkl, by rw [hI, nwV_gt hgt]⟩)
          generalize vs[q].ep = eq at u0 hgt
          generalize vs[k].ep = ek at y0 hgt
          clear hI hq hkl
          go_wp2_with fail
          go_big_quiet (fail)
          go_wp2
          go_roundw
          case rel => exact ⟨hide (below_drewN hbw.out _), k, k + 1, by omega, by omega, rfl, by go_num, HN⟩
          case measure => simp [intOf]; omega
        · have HN := hide (show ∃ hq : q < vs.length, R = nwV vs[q] (vs.drop (k + 1)) from ⟨hq, by rw [hI, nwV_le hgt]⟩)
          generalize vs[q].ep = eq at u0 hgt
          generalize vs[k].ep = ek at y0 hgt
          clear hI hq hkl
          go_wp2_with fail
          go_big_quiet (fail)
          go_wp2
          go_roundw
          case rel => exact ⟨hide (below_drewN hbw.out _), q, k + 1, by omega, by omega, rfl, by go_num, HN⟩
          case measure => simp [intOf]; omega
      · obtain rfl : k = l := by omega
        have HI := hide (show R = vs[q] by rw [hI, List.drop_of_length_le (by have := HL.out; omega)]; rfl)
        rw [← HI.out] at u0 u1
        obtain ⟨rep, ra, rn, rc, rl⟩ := R
        simp only [Vm.sl] at u0 u1
        have HZ := hide ((HX.out.below hbw.out).put2 (.int .i64 rep) (.slice ra rn rc))
        have HW := hide (below_put2 HB2.out (g := w.heap.size) (Nat.le_refl _) (.int .i64 rep) (.slice ra rn rc))
        obtain ⟨⟨x0, x1⟩, x2, x3⟩ := (HX.out.below hbw.out).c2
        clear HI hI hq
        go_wp2
        generalize (World.setCell (World.setCell _ ⟨w.heap.size, 0, none⟩ (.int .i64 rep)) ⟨w.heap.size, 1, none⟩ (.slice ra rn rc)) = X at HZ HW ⊢
        obtain ⟨⟨z0, z1⟩, -⟩ := HZ.out.c2
        refine bodyPost_ret (v := .agg #[.int .i64 rep, .slice ra rn rc]) (by simp [results, Try.results24, go_sem, z0, z1]) rfl ?_
        exact ⟨rfl, HW.out⟩

/-! The program's. -/
def atv (g off c k : Nat) : Addr := if c = k then ⟨g, off, none⟩ else ⟨g, off + k * 2, none⟩
theorem slice_fromV (w : World) (g off n c k : Nat) (hk : k ≤ n) : (Instr.slice 44 (.slice (some ⟨g, off, none⟩) n c) (some (.int .i64 (k : Int))) none none).run Try.prog w = .ok (.slice (some (atv g off c k)) (n - k) (c - k)) w := by
  simp [Instr.slice, run_underlying Try.underlying44, Instr.sliceBounds, run_sliceBound (P := Try.prog) w .i64 (k : Int) n .sliceB (by omega) (by omega)]
  unfold atv
  split <;> simp [add_none]
/-- What Newest answers. -/
def NwPost (w : World) (R : Vm) (e : Ending) (w' : World) : Prop := ∃ v, e = .returned (.agg #[.int .i64 R.ep, v]) ∧ Own w.heap.size w' v R.l.length R.l ∧ Below w.heap.size w w'

set_option linter.unusedSimpArgs false in
set_option maxRecDepth 100000 in
set_option maxHeartbeats 4000000 in
/-- view.Newest. -/
theorem newest_any (vs : List Vm) (a : Option Addr) (l c : Nat) (w : World) (hl : vs.length = l) (hlen : l ≤ 20000) (hlc : l ≤ c) (hr : Reads w a (vV vs)) (hvr : ∀ x ∈ vs, VmR w x ∧ x.n ≤ 20000) :
    Calls Try.prog 23 #[.slice a l c] w (NwPost w (topV vs)) := by
  have HB := hide (below_new w (.cells #[.int .i64 0, .slice none 0 0] 24))
  have HX := hide (BoxL.new w [.int .i64 0, .slice none 0 0] 24)
  obtain ⟨V, hV⟩ : ∃ V, V = w.alloc (.cells #[.int .i64 0, .slice none 0 0] 24) := ⟨_, rfl⟩
  have HX := hide (show BoxL V w.heap.size [.int .i64 0, .slice none 0 0] by rw [hV]; exact HX.out)
  rw [← hV] at HB
  have HSZ := hide (show V.heap.size = w.heap.size + 1 by rw [hV]; simp)
  have HR := hide (hr.below HB.out)
  have HR0 := hide hr
  have HL := hide hl
  have HV := hide hV
  obtain ⟨R, hR⟩ : ∃ R, R = topV vs := ⟨_, rfl⟩
  have HVR := hide (show 0 < vs.length → VmR w R ∧ R.n ≤ 20000 from fun h => by rw [hR]; exact hvr _ (topV_mem h))
  rw [← hR]
  have HRR := hide hR
  clear hV hr hl hR hvr
  by_cases h0 : l = 0
  · subst h0
    obtain rfl : R = nilV := by rw [HRR.out, List.eq_nil_of_length_eq_zero HL.out]; rfl
    have HZ := hide (HX.out.put2 (.int .i64 0) (.slice none 0 0))
    have HW := hide (below_put2 HB.out (g := w.heap.size) (Nat.le_refl _) (.int .i64 0) (.slice none 0 0))
    obtain ⟨⟨x0, x1⟩, x2, x3⟩ := HX.out.c2
    go_enter Try.func23, Try.ntmps23
    go_upto_region 1 with fail
    rw [← HV.out]
    go_wp2
    generalize (V.setCell ⟨w.heap.size, 0, none⟩ (.int .i64 0)).setCell ⟨w.heap.size, 1, none⟩ (.slice none 0 0) = X at HZ HW ⊢
    obtain ⟨⟨z0, z1⟩, -⟩ := HZ.out.c2
    refine bodyPost_ret (v := .agg #[.int .i64 0, .slice none 0 0]) (by simp [results, Try.results23, go_sem, z0, z1]) rfl ?_
    exact ⟨_, rfl, Own.nil _ _, HW.out⟩
  · have q0 : ((l : Int) == 0) = false := by rw [beq_eq_false_iff_ne]; omega
    have hl0 : 0 < l := by omega
    have hl0' : (0 : Int) < (l : Int) := by omega
    have hv0 : 0 < vs.length := by have := HL.out; omega
    have HS := hide (show R = nwV vs[0] (vs.drop 1) by
      rw [HRR.out]
      cases vs with
      | nil => simp at hv0
      | cons x r => rfl)
    obtain ⟨HVA, hrn⟩ := HVR.out hv0
    have HVA := hide HVA
    clear HRR HVR
    obtain ⟨g, off, har, u0, u1⟩ := vw_at HR.out hv0
    rw [Nat.zero_mul, Nat.add_zero] at u0 u1
    subst har
    have HLE := hide hrn
    generalize hx : vs[0] = x at u0 u1 HS
    clear hx hrn
    obtain ⟨xe, xa, xn, xc, xl⟩ := x
    simp only [Vm.sl] at u0 u1
    have kf : ∀ W, (Instr.slice 44 (.slice (some ⟨g, off, none⟩) l c) (some (.int .i64 1)) none none).run Try.prog W = .ok (.slice (some (atv g off c 1)) (l - 1) (c - 1)) W := fun W => slice_fromV W g off l c 1 (by omega)
    go_enter Try.func23, Try.ntmps23
    go_upto_region 1 with fail
    rw [← HV.out]
    go_upto_region 4 with fail
    have HBN := hide (HB.out.trans ((below_new V (.cells #[.int .i64 xe, .slice xa xn xc] 24)).mono HB.out.size))
    have HXN := hide (HX.out.below (below_new V (.cells #[.int .i64 xe, .slice xa xn xc] 24)))
    have HYN := hide (BoxL.new V [.int .i64 xe, .slice xa xn xc] 24)
    rw [HSZ.out] at HYN
    generalize V.alloc (.cells #[.int .i64 xe, .slice xa xn xc] 24) = V2 at HBN HXN HYN ⊢
    have hvs : V.heap.size = w.heap.size + 1 := HSZ.out
    rw [hvs]
    generalize hat : atv g off c 1 = ad at kf
    have HAT := hide hat
    clear hat hvs u0 u1 HX HB HR HV HSZ
    go_wp2
    go_loopw [16] (fun i wr => Hid (Below w.heap.size w wr) ∧ Hid (BoxL wr w.heap.size [.int .i64 0, .slice none 0 0]) ∧ ∃ (k : Nat) (x : Vm), k ≤ l - 1 ∧ i = .int .i64 (k : Nat) ∧ Hid (BoxL wr (w.heap.size + 1) [.int .i64 x.ep, x.sl]) ∧ Hid (R = nwV x (vs.drop (k + 1)))) (fun i _ => l - (intOf i).toNat)
    case atStart => exact ⟨HBN, HXN, 0, ⟨xe, xa, xn, xc, xl⟩, Nat.zero_le _, rfl, HYN, HS⟩
    case round =>
      clear HS HBN HXN HYN hv0
      obtain ⟨hbw, hX, k, x, hk, rfl, hY, hI⟩ := hrel
      obtain ⟨xe, xa, xn, xc, xl⟩ := x
      simp only [Vm.sl] at hY
      obtain ⟨⟨t0, t1⟩, t2, t3⟩ := hY.out.c2
      have hll : ((l - 1 : Nat) : Int) = (l : Int) - 1 := by omega
      by_cases hlt : k < l - 1
      · have hlt' : (k : Int) < ((l - 1 : Nat) : Int) := by omega
        have hkl : k + 1 < vs.length := by have := HL.out; omega
        obtain rfl : ad = ⟨g, off + 2, none⟩ := by rw [← HAT.out]; unfold atv; rw [if_neg (by omega), Nat.one_mul]
        obtain ⟨g', off', har, y0, y1⟩ := vw_at (HR0.out.below hbw.out) hkl
        simp only [Option.some.injEq, Addr.mk.injEq] at har
        obtain ⟨rfl, rfl, -⟩ := har
        rw [show off + (k + 1) * 2 = off + 2 + k * 2 by omega] at y0 y1
        have HD := hide hI.out
        rw [List.drop_eq_getElem_cons hkl] at HD
        generalize vs[k + 1] = y at y0 y1 HD
        obtain ⟨ye, ya, yn, yc, yl⟩ := y
        simp only [Vm.sl] at y1
        clear hI hll
        have HB3 := hide (hbw.out.trans ((below_new wr (.cells #[.int .i64 ye, .slice ya yn yc] 24)).mono hbw.out.size))
        have HX3 := hide (hX.out.below (below_new wr (.cells #[.int .i64 ye, .slice ya yn yc] 24)))
        have HY3 := hide (hY.out.below (below_new wr (.cells #[.int .i64 ye, .slice ya yn yc] 24)))
        have HZ3 := hide (BoxL.new wr [.int .i64 ye, .slice ya yn yc] 24)
        go_upto_region 7 with fail
        generalize wr.alloc (.cells #[.int .i64 ye, .slice ya yn yc] 24) = X at HB3 HX3 HY3 HZ3 ⊢
        obtain ⟨⟨p0, p1⟩, p2, p3⟩ := HY3.out.c2
        obtain ⟨⟨r0, r1⟩, -⟩ := HZ3.out.c2
        clear t0 t1 t2 t3 y0 y1
        by_cases hgt : xe < ye
        · have HN := hide (show R = nwV ⟨ye, ya, yn, yc, yl⟩ (vs.drop (k + 1 + 1)) by rw [HD.out]; exact nwV_gt hgt)
          have HY4 := hide (HY3.out.put2 (.int .i64 ye) (.slice ya yn yc))
          have HX4 := hide ((HX3.out.grown (grown_setCell X (w.heap.size + 1) 0 (.int .i64 ye)) (by omega)).grown (grown_setCell _ (w.heap.size + 1) 1 (.slice ya yn yc)) (by omega))
          have HB4 := hide (below_put2 HB3.out (g := w.heap.size + 1) (by omega) (.int .i64 ye) (.slice ya yn yc))
          clear HD HY3 HX3 HB3 HZ3
          go_upto_region 9 with fail
          generalize (X.setCell ⟨w.heap.size + 1, 0, none⟩ (.int .i64 ye)).setCell ⟨w.heap.size + 1, 1, none⟩ (.slice ya yn yc) = X4 at HY4 HX4 HB4 ⊢
          go_wp2
          go_roundw
          case rel => exact ⟨HB4, HX4, k + 1, ⟨ye, ya, yn, yc, yl⟩, by omega, by go_num, HY4, HN⟩
          case measure => simp [intOf]; omega
        · have HN := hide (show R = nwV ⟨xe, xa, xn, xc, xl⟩ (vs.drop (k + 1 + 1)) by rw [HD.out]; exact nwV_le hgt)
          clear HD
          go_wp2
          go_roundw
          case rel => exact ⟨HB3, HX3, k + 1, ⟨xe, xa, xn, xc, xl⟩, by omega, by go_num, HY3, HN⟩
          case measure => simp [intOf]; omega
      · have hlt' : ¬ (k : Int) < ((l - 1 : Nat) : Int) := by omega
        obtain rfl : R = ⟨xe, xa, xn, xc, xl⟩ := by rw [hI.out, List.drop_of_length_le (by have := HL.out; omega)]; rfl
        have C27 := hide (fun X (hX : Below w.heap.size w X) => clone_any xl xa xn xc X HVA.out.len HLE.out (HVA.out.rd.below hX) HVA.out.nil)
        have HK := hide (show ∀ W, Below wr.heap.size wr W → W.cell? ⟨w.heap.size + 1, 0, none⟩ = some (.int .i64 xe) ∧ W.cell? ⟨w.heap.size + 1, 1, none⟩ = some (.slice xa xn xc) from fun W hW => (hY.out.below hW).c2.1)
        have HKP := hide (show ∀ W x y, Below wr.heap.size wr W → ((W.setCell ⟨w.heap.size, 0, none⟩ x).setCell ⟨w.heap.size, 1, none⟩ y).cell? ⟨w.heap.size + 1, 0, none⟩ = some (.int .i64 xe) ∧ ((W.setCell ⟨w.heap.size, 0, none⟩ x).setCell ⟨w.heap.size, 1, none⟩ y).cell? ⟨w.heap.size + 1, 1, none⟩ = some (.slice xa xn xc) from fun W x y hW => by
          obtain ⟨h0, h1⟩ := HK.out W hW
          refine ⟨?_, ?_⟩ <;> (rw [World.cell?_setCell_other (h := by simp), World.cell?_setCell_other (h := by simp)]; assumption))
        have HX5 := hide (fun X (h : Below wr.heap.size wr X) => (hX.out.below h).c2)
        have hN : Below wr.heap.size wr wr.drew := (Below.refl _ _).drew
        have HSZ := hide hY.out.1
        have HXB := hide hX.out
        have HVN := hide HVA.out.len
        clear hI t0 t1 t2 t3 hX hY HVA HLE
        go_upto_region 10 with fail
        go_region_held3 (fun W => W.cell? ⟨w.heap.size + 1, 0, none⟩ = some (.int .i64 xe) ∧ W.cell? ⟨w.heap.size + 1, 1, none⟩ = some (.slice xa xn xc)) (first | exact HK.out _ hN | exact HKP.out _ _ _ hN)
          ((go_at_call 27; (with_reducible refine (C27.out _ (hbw.out.trans (hN.mono hbw.out.size))).mono ?_); rintro e w6 ⟨v6, rfl, ho6, hb6⟩; obtain ⟨a6, c6, rfl⟩ := ho6.open; have HO6 := hide (ho6.mono hN.size); have hN := hN.trans (hb6.mono hN.size); obtain ⟨⟨z0, z1⟩, z2, z3⟩ := HX5.out _ hN; clear hb6 ho6))
        all_goals
          have HZ := hide ((HXB.out.below hN).put2 (.int .i64 xe) (.slice a6 xn c6))
          have HW := hide (below_put2 (hbw.out.trans (hN.mono hbw.out.size)) (g := w.heap.size) (Nat.le_refl _) (.int .i64 xe) (.slice a6 xn c6))
          have HO7 := hide ((HO6.out.put2 (g := w.heap.size) (by have := HSZ.out; omega) (.int .i64 xe) (.slice a6 xn c6)).mono hbw.out.size)
          generalize (World.setCell (World.setCell _ ⟨w.heap.size, 0, none⟩ (.int .i64 xe)) ⟨w.heap.size, 1, none⟩ (.slice a6 xn c6)) = X at HZ HW HO7 ⊢
          obtain ⟨⟨q0, q1⟩, -⟩ := HZ.out.c2
          go_wp2
          refine bodyPost_ret (v := .agg #[.int .i64 xe, .slice a6 xn c6]) (by simp [results, Try.results23, go_sem, q0, q1]) rfl ?_
          exact ⟨_, rfl, by rw [HVN.out]; exact HO7.out, HW.out⟩
end Go.Proofs.Ythjkfpcbbjmclaa
