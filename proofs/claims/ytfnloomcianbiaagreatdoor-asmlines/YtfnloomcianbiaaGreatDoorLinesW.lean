/- AsmLines: its walk. -/
import Derived.Test.YtfnloomcianbiaaGreatDoorOutA
import Derived.Test.YtfnloomcianbiaaGreatDoorPrintsW
import Derived.BigQuiet
namespace Go.Proofs.YtfnloomcianbiaaGreatDoor
open Go.RowKit Go.ChangeShapes Go.WideShapes Go.ChangeAt Go.Deep

theorem le_grow {a b q : Nat} (h : a ≤ q * 400000) (hb : b ≤ a + 300000) : b ≤ (q + 1) * 400000 := by omega
theorem nl_one : (⟨#[10]⟩ : ByteArray).size = 1 := rfl

set_option maxRecDepth 100000 in
set_option maxHeartbeats 4000000 in
theorem linesLaw_any (j : JV) (cs : List Value) (fs : List Fun) (args : List Int) (at_ what : Int) (more : ByteArray) (w : World) (hJ : JobR w j cs fs args) (hN : JobNum fs args j.fuel j.tasks) (hE : Env w) :
    Calls Tryz.prog 3 #[.agg j.cells, .int .i64 at_, .int .i64 what, .string more] w fun e w' => e = .returned (.bool true) ∧ Below w.heap.size w w' := by
  have hbA := alloc_below w (.cells j.cells 25)
  have hjA : (w.alloc (.cells j.cells 25)).heap[w.heap.size]? = some (.cells j.cells 25 (0, 0)) := heap_alloc_new w _
  have AL := alive_any (w.alloc (.cells j.cells 25)) (hE.below hbA)
  have BG := fun (W : World) (hb : Below w.heap.size w W) => big_any j cs fs args W (hJ.below hb) hN.nf hN.na hN.sizes
  have RP := fun (W : World) (hb : Below w.heap.size w W) => refPlain_any j cs fs args W (hJ.below hb) hN.nf hN.na hN.sizes
  have RR := fun (W : World) (hb : Below w.heap.size w W) => refPrintBig_any j cs fs args W (hJ.below hb) hN
  have HTX := hide (show printL fs j.main args j.fuel j.tasks = if plainL fs j.main args.length = true then printT fs j.main args j.fuel j.tasks else [] from rfl)
  have HSZ := hide (fun (h : plainL fs j.main args.length = true) (hb : bigN fs ≤ 2000) => text_size (hN.in h) h hb)
  have HMD := hide (fun (h : plainL fs j.main args.length = true) => modest_of h)
  obtain ⟨fa, nf, fc, mn, aa, na, ac, fu, ta⟩ := j
  simp only [JV.cells] at *
  have j0 := cell_row (i := 0) hjA rfl
  have j1 := cell_row (i := 1) hjA rfl
  have j2 := cell_row (i := 2) hjA rfl
  have j3 := cell_row (i := 3) hjA rfl
  have j4 := cell_row (i := 4) hjA rfl
  clear hJ hN
  go_enter Tryz.func3, Tryz.ntmps3
  go_wp2_with (go_at_call 4; go_must (refine AL.mono ?_; rintro e w1 ⟨rfl, hb1⟩; refine Hid.out ?_))
  refine Lib.hid ?_
  have hj1 := (hb1.block _ (lt_row hjA)).trans hjA
  have hbw1 := hbA.trans (hb1.mono hbA.size)
  have k0 := cell_row (i := 0) hj1 rfl
  have k1 := cell_row (i := 1) hj1 rfl
  have k2 := cell_row (i := 2) hj1 rfl
  have k3 := cell_row (i := 3) hj1 rfl
  have k4 := cell_row (i := 4) hj1 rfl
  have hkl := lt_row hj1
  have BG1 := BG w1 hbw1
  clear AL j0 j1 j2 j3 j4 hjA hbA BG
  go_wp2_with (go_at_call 5; go_must (refine BG1.mono ?_; rintro e w2 ⟨bg, rfl, hb2, hbg⟩; refine Hid.out ?_))
  refine Lib.hid ?_
  clear BG1
  have hj2 := (hb2.block _ (lt_row hj1)).trans hj1
  have hbw2 := hbw1.trans (hb2.mono hbw1.size)
  have l0 := cell_row (i := 0) hj2 rfl
  have l1 := cell_row (i := 1) hj2 rfl
  have l2 := cell_row (i := 2) hj2 rfl
  have l3 := cell_row (i := 3) hj2 rfl
  have l4 := cell_row (i := 4) hj2 rfl
  have hll := lt_row hj2
  have RP2 := RP w2 hbw2
  clear RP k0 k1 k2 k3 k4 hkl hj1
  generalize plainL fs mn args.length = pl at *
  generalize hpr : printL fs mn args fu ta = pr at *
  go_wp2_with (go_at_call 6; go_must (refine RP2.mono ?_; rintro e w3 ⟨rfl, hb3⟩; refine Hid.out ?_))
  refine Lib.hid ?_
  clear RP2
  have hj3 := (hb3.block _ (lt_row hj2)).trans hj2
  have hbw3 := hbw2.trans (hb3.mono hbw2.size)
  clear l0 l1 l2 l3 l4 hll hj2
  cases bg with
  | true =>
    go_wp2
    go_ret
    exact ⟨rfl, hbw3⟩
  | false =>
  cases pl with
  | false =>
    go_wp2
    go_ret
    exact ⟨rfl, hbw3⟩
  | true =>
  by_cases ha : at_ < 0
  · go_wp2
    go_ret
    exact ⟨rfl, hbw3⟩
  by_cases hm : (50 : Int) < (more.size : Int)
  · go_wp2
    go_ret
    exact ⟨rfl, hbw3⟩
  have HBG := hide (hbg.out rfl)
  have HPR := hide (show pr = printT fs mn args fu ta by rw [HTX.out]; rfl)
  have hps : (bs pr).size ≤ 131072 := by rw [HPR.out]; exact HSZ.out rfl (HBG.out (HMD.out rfl))
  have hpn : pr ≠ [] := by rw [HPR.out]; simp [printT, headT]
  have m0 := cell_row (i := 0) hj3 rfl
  have m1 := cell_row (i := 1) hj3 rfl
  have m2 := cell_row (i := 2) hj3 rfl
  have m3 := cell_row (i := 3) hj3 rfl
  have m4 := cell_row (i := 4) hj3 rfl
  have hml := lt_row hj3
  have RR3 := RR w3 hbw3
  have LN := fun W => lines_any (bs pr) (by omega) W
  have hln : (linesOf (bs pr).data.toList).1 ≠ [] := by rw [bs_list, Ne, lines_nil]; exact hpn
  have hlb : ∀ x ∈ (linesOf (bs pr).data.toList).1, x.size ≤ 131072 := fun x hx => by
    have h8 := (lines_bound (bs pr).data.toList []).2 x hx
    rw [← Lib.size_eq] at h8
    simp at h8
    omega
  have hE3 := hE.below hbw3
  clear hpr HTX HSZ HMD hbg HBG HPR RR
  generalize linesOf (bs pr).data.toList = LL at LN hln hlb
  obtain ⟨ls, wh⟩ := LL
  simp only at hln hlb
  go_wp2_with (go_at_call 8; go_must (refine RR3.mono ?_; rintro e w4 ⟨rfl, hb4⟩; refine Hid.out ?_))
  refine Lib.hid ?_
  have hbw4 := hbw3.trans (hb4.mono hbw3.size)
  have LN4 := LN w4
  clear LN RR3 m0 m1 m2 m3 m4 hml hj3
  go_wp2_with (go_at_call 7; go_must ((with_reducible refine LN4.mono ?_); rintro e w5 ⟨v, rfl, ho, hb5⟩; refine Hid.out ?_))
  refine Lib.hid ?_
  have hbw5 := hbw4.trans (hb5.mono hbw4.size)
  have hE5 := hE.below hbw5
  obtain ⟨va, vc, rfl⟩ := own_any ho
  have HCL := hide (show ∀ j x, ls[j]? = some x → ∃ lg, va = some ⟨lg, 0, none⟩ ∧ lg < w5.heap.size ∧ w5.cell? ⟨lg, j, none⟩ = some (.string x) from fun j x hx => by
    rcases ho.2 with ⟨h, e⟩ | ⟨lg, cap, cur, h, _, hh, _⟩
    · have : ls = [] := List.eq_nil_of_length_eq_zero e
      rw [this] at hx
      cases hx
    · injection h with h _ _
      refine ⟨lg, h, lt_row hh, ?_⟩
      have h8 := ho.cells (g := lg) (by rw [h]; rfl) j (.string x) (by rw [List.getElem?_map, hx]; rfl)
      rwa [add_none, Nat.zero_add] at h8)
  have HLB := hide hlb
  have hn0 : 0 < ls.length := List.length_pos_iff.2 hln
  obtain ⟨n, hn⟩ : ∃ n, n = ls.length := ⟨_, rfl⟩
  have HN := hide hn
  rw [← hn] at hn0 ⊢
  clear LN4 ho hlb hn hln
  by_cases h400 : (400 : Int) < (n : Int)
  · go_wp2
    go_ret
    exact ⟨rfl, hbw5⟩
  have hz : ¬ (n : Int) = 0 := by omega
  go_wp2
  go_loopw [15, 16] (fun o i wr => Hid (Below w5.heap.size w5 wr) ∧ ∃ q : Nat, q ≤ n ∧ i = .int .i64 (q : Nat) ∧ ∃ T : ByteArray, o = .string T ∧ T.size ≤ q * 400000) (fun _ i _ => n - (intOf i).toNat)
  case atStart => exact ⟨Lib.hid (Below.refl _ _), 0, Nat.zero_le _, rfl, ⟨#[]⟩, rfl, Nat.zero_le _⟩
  case round =>
    obtain ⟨HBR, q, hq, rfl, T, rfl, hT⟩ := hrel
    by_cases hlt : q < n
    · have hlt' : (q : Int) < (n : Int) := by omega
      obtain ⟨x, hx⟩ : ∃ x, ls[q]? = some x := ⟨_, List.getElem?_eq_getElem (by have := HN.out; omega)⟩
      obtain ⟨lg, rfl, hlg0, hc0⟩ := HCL.out q x hx
      have hc := keep_cell hc0 HBR.out
      have hlg := Nat.lt_of_lt_of_le hlg0 HBR.out.size
      have hxs : x.size ≤ 131072 := HLB.out x (List.mem_of_getElem? hx)
      clear hx hc0 hlg0
      go_wp2
      · go_roundw
        case rel => exact ⟨HBR, q + 1, by omega, by go_num, _, rfl, le_grow hT (by simp only [ByteArray.size_append, nl_one]; omega)⟩
        case measure => simp [intOf]; omega
      · go_roundw
        case rel => exact ⟨HBR, q + 1, by omega, by go_num, _, rfl, le_grow hT (Nat.le_add_right _ _)⟩
        case measure => simp [intOf]; omega
      · go_quiet (fail)
        go_wp2
        go_roundw
        case rel => exact ⟨(by refine Lib.hid ?_; exact below_drewN HBR.out _), q + 1, by omega, by go_num, _, rfl, le_grow hT (by simp only [ByteArray.size_append, nl_one]; omega)⟩
        case measure => simp [intOf]; omega
      · go_roundw
        case rel => exact ⟨HBR, q + 1, by omega, by go_num, _, rfl, le_grow hT (by simp only [ByteArray.size_append, nl_one]; omega)⟩
        case measure => simp [intOf]; omega
      · go_roundw
        case rel => exact ⟨HBR, q + 1, by omega, by go_num, _, rfl, le_grow hT (by simp only [ByteArray.size_append, nl_one]; omega)⟩
        case measure => simp [intOf]; omega
    · have hqn : q = n := by omega
      subst hqn
      have hlt' : ¬ (q : Int) < (q : Int) := by omega
      have hE6 := hE5.below HBR.out
      have hbw6 := hbw5.trans (HBR.out.mono hbw5.size)
      have RA := readA_any T _ hE6
      have FA := fun (W : World) (h : 9 ≤ W.heap.size) => refA_any T W h
      have SM := outA_small T
      generalize outA T = O at RA FA SM
      obtain ⟨fs', mn', ar', fu', ta', ln', er'⟩ := O
      have HSM := hide SM
      clear SM hT hlt hq
      go_wp2_with (go_at_call 9; go_must (refine RA.mono ?_; rintro e w6 ⟨fa1, fc1, aa1, ac1, cs1, rfl, hJ6, hb6, _⟩; refine Hid.out ?_))
      refine Lib.hid ?_
      clear RA
      have hbA := alloc_below w6 (.cells #[.slice fa1 fs'.length fc1, .int .i64 mn', .slice aa1 ar'.length ac1, .int .i64 fu', .int .i64 ta'] 25)
      have hjA : (w6.alloc (.cells #[.slice fa1 fs'.length fc1, .int .i64 mn', .slice aa1 ar'.length ac1, .int .i64 fu', .int .i64 ta'] 25)).heap[w6.heap.size]? = some (.cells [.slice fa1 fs'.length fc1, .int .i64 mn', .slice aa1 ar'.length ac1, .int .i64 fu', .int .i64 ta'].toArray 25 (0, 0)) := heap_alloc_new w6 _
      have FA7 := FA _ (hE6.below (hb6.trans (hbA.mono hb6.size))).size
      have hJ7 := hJ6.below hbA
      have HB7 := hide ((hbw6.trans (hb6.mono hbw6.size)).trans (hbA.mono (Nat.le_trans hbw6.size hb6.size)))
      have hjl := lt_row hjA
      clear FA hJ6
      go_wp2_with (go_at_call 10; go_must (refine FA7.mono ?_; rintro e w8 ⟨fa2, fc2, aa2, ac2, cs2, rfl, hJ8, hb8⟩; refine Hid.out ?_))
      refine Lib.hid ?_
      clear FA7
      generalize w6.alloc (.cells #[.slice fa1 fs'.length fc1, .int .i64 mn', .slice aa1 ar'.length ac1, .int .i64 fu', .int .i64 ta'] 25) = w7 at *
      have hjr := (hb8.block _ hjl).trans hjA
      have hJr := hJ7.below hb8
      have o0 := cell_row (i := 0) hjr rfl
      have o1 := cell_row (i := 1) hjr rfl
      have o2 := cell_row (i := 2) hjr rfl
      have o3 := cell_row (i := 3) hjr rfl
      have o4 := cell_row (i := 4) hjr rfl
      have hol := lt_row hjr
      have HB8 := hide (HB7.out.trans (hb8.mono HB7.out.size))
      obtain ⟨sm1, sm2, sm3⟩ := HSM.out
      have SJ := fun (W : World) (hb : Below w8.heap.size w8 W) => sameJob_any ⟨fa1, fs'.length, fc1, mn', aa1, ar'.length, ac1, fu', ta'⟩ ⟨fa2, fs'.length, fc2, mn', aa2, ar'.length, ac2, fu', ta'⟩ cs1 cs2 fs' ar' W (hJr.below hb) (hJ8.below hb) rfl rfl rfl (by omega) (by omega) (fun f hf => by have := sm3 f hf; omega)
      simp only [JV.cells] at SJ
      have hbz := alloc_below w8 (.cells #[.slice fa2 fs'.length fc2, .int .i64 mn', .slice aa2 ar'.length ac2, .int .i64 fu', .int .i64 ta'] 25)
      clear hjA hJ7 sm1 sm2 sm3
      go_wp2_with (first
        | (go_at_call 11; go_must (refine (num_any _ _).mono ?_; rintro e wz ⟨rfl, hwz⟩; replace hwz := hwz.symm; subst hwz))
        | (go_at_call 12; go_must (refine (SJ _ hbz).mono ?_; rintro e w9 ⟨rfl, hb9⟩)))
      go_ret
      exact ⟨rfl, (HB8.out.trans (hbz.mono HB8.out.size)).trans (hb9.mono (Nat.le_trans HB8.out.size hbz.size))⟩
end Go.Proofs.YtfnloomcianbiaaGreatDoor
