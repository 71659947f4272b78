/- DequePlays answers true. -/
import Derived.Test.YtaooglcjcnkgnaaPlyM
namespace Go.Proofs.Ytaooglcjcnkgnaa
open Go.RowKit Go.ChangeShapes Go.WideShapes Go.ChangeAt Go.Deep
namespace dequePlays

theorem acts_at {w : World} {d : Option Addr} {l : List (Int × Int × Int)} {k : Nat} (h : ActsM w d l) (hk : k < l.length) : ∃ b off wy i v, d = some ⟨b, off, none⟩ ∧ w.cell? ⟨b, off + k * 3, none⟩ = some (.int .i64 wy) ∧ w.cell? ⟨b, off + k * 3 + 1, none⟩ = some (.int .i64 i) ∧ w.cell? ⟨b, off + k * 3 + 2, none⟩ = some (.int .i64 v) := by
  rcases h with h | ⟨b, off, e, h⟩
  · subst h; simp at hk
  · obtain ⟨h1, h2, h3⟩ := h k l[k] (by simp [hk])
    exact ⟨b, off, _, _, _, e, h1, h2, h3⟩

theorem same_row (H : List Int) (a b : Option Addr) (c e : Nat) (w : World) (hl : H.length ≤ 20000) (ha : Reads w a (iV H)) (hb : Reads w b (iV H)) : Calls Try.prog 20 #[.slice a H.length c, .slice b H.length e] w fun e w' => e = .returned (.bool true) ∧ Below w.heap.size w w' := by
  refine (sameInts_any H H a b _ c _ e w rfl rfl hl ha hb).mono ?_
  rintro e w' ⟨rfl, hb⟩
  exact ⟨ret_bool (by simp), hb⟩

theorem items_len {m : Nat} {d : Dq} (h : Sml m d) : (itemsD d).length ≤ 2 * m := by
  have h1 := h.top
  have h2 := h.bot
  simp [itemsD]
  omega

structure PM (w wr : World) (cb ob qb k : Nat) (q qo : Dq) : Prop where
  t : T0 w cb ob qb wr q q qo
  sq : Sml (2 * k) q
  so : Sml (2 * k) qo
  wf : Wf q

set_option maxRecDepth 100000 in
set_option maxHeartbeats 8000000 in
theorem walk_main (a : Option Addr) (n c : Nat) (l : List (Int × Int × Int)) (w : World) (hl : l.length = n) (hA : ActsM w a l) (hn : n ≤ 500) :
    Calls Try.prog 3 #[.slice a n c] w fun e w' => e = .returned (.bool true) ∧ Below w.heap.size w w' := by
  have HL := hide hl
  have HA := hide hA
  have hn' : ¬ 500 < (n : Int) := by omega
  clear hl hA
  go_enter Try.func3, Try.ntmps3
  go_wp2_with (first
    | (go_at_call 10; go_must ((with_reducible refine (alive_any w).mono ?_); rintro e w1 ⟨rfl, hb1⟩; have C11 := hide (T0.start hb1); clear hb1))
    | (go_at_call 11; ((with_reducible refine C11.out.mono ?_); rintro e w2 ⟨cb, rfl, hc⟩; have C11b := hide hc; clear hc))
    | (go_at_call 11; ((with_reducible refine C11b.out.mono ?_); rintro e w3 ⟨ob, rfl, hc⟩; have C12 := hide hc; clear hc))
    | (go_at_call 12; ((with_reducible refine C12.out.mono ?_); rintro e w4 ⟨qb, rfl, hT⟩; have HT := hide hT; clear hT)))
  clear C11 C11b C12
  go_loopw [7] (fun i wr => ∃ (k : Nat) (q qo : Dq), k ≤ n ∧ i = .int .i64 (k : Nat) ∧ Hid (PM w wr cb ob qb k q qo)) (fun i _ => n - (intOf i).toNat)
  case atStart => exact ⟨0, Dq.zero, Dq.zero, by omega, rfl, hide ⟨HT.out, Sml.zero, Sml.zero, Wf.zero⟩⟩
  case round =>
    obtain ⟨k, q, qo, hk, rfl, HM⟩ := hrel
    by_cases hlt : k < n
    · obtain ⟨b, off, wy, kd, it, rfl, ha0, ha1, ha2⟩ := acts_at HA.out (show k < l.length by have := HL.out; omega)
      have hc0 := keep_cell ha0 HM.out.t.bel
      have hc1 := keep_cell ha1 HM.out.t.bel
      have hc2 := keep_cell ha2 HM.out.t.bel
      clear ha0 ha1 ha2
      go_upto_region 11 with fail
      generalize hV : wr.alloc (.cells #[.int .i64 wy, .int .i64 kd, .int .i64 it] 29) = V at *
      have HX := hide (HM.out.t.box (xs := [.int .i64 wy, .int .i64 kd, .int .i64 it]) hV.symm)
      generalize hab : wr.heap.size = ab at *
      clear hab hV hc0 hc1 hc2
      have HSQ := hide HM.out.sq
      have HSO := hide HM.out.so
      have HWF := hide HM.out.wf
      clear HM
      have C13 := hide (HX.out.obegin 0 1 (k : Int))
      have HSO2 := hide (HSO.out.begin 0 1 (k : Int))
      generalize (beginD qo 0 1 (k : Int)).2 = qo1 at *
      have C14 := hide (fun W (h : Tb w cb ob qb ab [.int .i64 wy, .int .i64 kd, .int .i64 it] W q q qo1) => h.ostep (HSO2.out.mono (by omega)) 0)
      have HSO3 := hide (HSO2.out.step 0)
      generalize (stepD qo1 0).2.2 = qo2 at *
      go_upto_region 13 with (first
        | (go_at_call 13; go_must ((with_reducible refine C13.out.mono ?_); rintro e w5 ⟨⟨x5, rfl⟩, hT5⟩; have C14b := hide (C14.out _ hT5); clear hT5))
        | (go_at_call 14; go_must ((with_reducible refine C14b.out.mono ?_); rintro e w6 ⟨⟨x6, y6, rfl⟩, hT6⟩; have HT6 := hide hT6; clear hT6)))
      have e2 : 2 * (k + 1) = 2 * k + 2 := by omega
      have HE2 := hide e2
      clear e2 C13 C14 C14b HX HSO HSO2
      obtain ⟨z0, z1, z2⟩ := HT6.out.bx.c3
      by_cases hkd : kd = 0
      · subst hkd
        have C14 := hide (HT6.out.dstep (HSQ.out.mono (by omega)) wy)
        have C17 := hide (fun W q1 (h : Tb w cb ob qb ab [.int .i64 wy, .int .i64 0, .int .i64 it] W q1 q qo2) => h.rstep (HSQ.out.mono (by omega)) HWF.out wy)
        have HS1 := hide (HSQ.out.step wy)
        have HW1 := hide (HWF.out.step wy)
        generalize stepD q wy = r at *
        obtain ⟨e1, v1, q1⟩ := r
        dsimp only at C14 C17 HS1 HW1
        have hee : (e1 != e1) = false := by simp
        have hvv : (v1 != v1) = false := by simp
        clear HSQ HWF
        go_upto_region 20 with (first
          | (go_at_call 14; go_must ((with_reducible refine C14.out.mono ?_); rintro e w7 ⟨rfl, hT7⟩; obtain ⟨u0, u1, u2⟩ := hT7.bx.c3; have C17b := hide (C17.out _ _ hT7); clear hT7))
          | (go_at_call 17; go_must ((with_reducible refine C17b.out.mono ?_); rintro e w9 ⟨rfl, hT9⟩; have HT9 := hide hT9; clear hT9)))
        have HTD := hide (show Tb w cb ob qb ab [.int .i64 wy, .int .i64 0, .int .i64 it] w9.drew q1 q1 qo2 from HT9.out.below (below_drewN (Below.refl _ _) 1))
        have C18 := hide (HTD.out.dbusy wy)
        have C19 := hide (fun W (h : Tb w cb ob qb ab [.int .i64 wy, .int .i64 0, .int .i64 it] W q1 q1 qo2) => h.rbusy wy)
        have C21 := hide (fun W (h : Tb w cb ob qb ab [.int .i64 wy, .int .i64 0, .int .i64 it] W q1 q1 qo2) => h.ditems (HS1.out.mono (by omega)))
        have C22 := hide (fun W (h : Tb w cb ob qb ab [.int .i64 wy, .int .i64 0, .int .i64 it] W q1 q1 qo2) => h.ritems (HS1.out.mono (by omega)))
        have HLN := hide (show (itemsD q1).length ≤ 20000 by have := items_len HS1.out; omega)
        have CS := hide (fun (a b : Option Addr) (c e : Nat) W ra rb => same_row (itemsD q1) a b c e W HLN.out ra rb)
        generalize itemsD q1 = H at *
        generalize busyD q1 wy = bb at *
        have hbb : (bb != bb) = false := by simp
        have z9 := HT9.out.bx.c3.1
        go_region_held3 (fun W => W.cell? ⟨ab, 0, none⟩ = some (.int .i64 wy)) (first | exact z9 | exact zB | exact zA | exact zC | go_keep) (first
          | (go_at_call 18; (with_reducible refine C18.out.mono ?_); rintro e wA ⟨rfl, hw⟩; subst hw; have zA := HTD.out.bx.c3.1; have C19b := hide (C19.out _ HTD.out))
          | (go_at_call 19; (with_reducible refine C19b.out.mono ?_); rintro e wB ⟨rfl, hw⟩; subst hw; have C21b := hide (C21.out _ HTD.out))
          | (go_at_call 21; (with_reducible refine C21b.out.mono ?_); rintro e wC ⟨aC, cC, rfl, hrC, hbC, hTC⟩; have zA := hTC.bx.c3.1; have HRC := hide hrC; have C22b := hide (C22.out _ hTC); clear hrC hbC hTC)
          | (go_at_call 22; (with_reducible refine C22b.out.mono ?_); rintro e wD ⟨aD, cD, rfl, hrD, hbD, hTD⟩; have zB := hTD.bx.c3.1; have HTE := hide hTD; have CSb := hide (CS.out aC aD cC cD _ (HRC.out.below hbD) hrD); clear hrD hbD hTD)
          | (go_at_call 20; (with_reducible refine CSb.out.mono ?_); rintro e wE ⟨rfl, hbE⟩; have hTE := HTE.out.below hbE; have zC := hTE.bx.c3.1; have HTF := hide hTE; clear hbE hTE))
        go_wp2
        go_roundw
        case rel => exact ⟨k + 1, q1, qo2, by omega, by go_num, hide ⟨HTF.out.t0, by rw [HE2.out]; exact HS1.out, by rw [HE2.out]; exact HSO3.out, HW1.out⟩⟩
        case measure => simp [intOf]; omega
      · have hkd' : (kd != 0) = true := by simpa using hkd
        have C13 := hide ((show Tb w cb ob qb ab [.int .i64 wy, .int .i64 kd, .int .i64 it] w6.drew q q qo2 from HT6.out.below (below_drewN (Below.refl _ _) 1)).dbegin wy kd it)
        have C16 := hide (fun W q1 (h : Tb w cb ob qb ab [.int .i64 wy, .int .i64 kd, .int .i64 it] W q1 q qo2) => h.rbegin wy kd it)
        have HS1 := hide ((HSQ.out.begin wy kd it).mono (show 2 * k ≤ 2 * k + 2 by omega))
        have HW1 := hide (HWF.out.begin wy kd it)
        generalize beginD q wy kd it = r at *
        obtain ⟨e1, q1⟩ := r
        dsimp only at C13 C16 HS1 HW1
        have hee : (e1 != e1) = false := by simp
        clear HSQ HWF hkd
        go_upto_region 14 with fail
        go_region_held3 (fun W => W.cell? ⟨ab, 0, none⟩ = some (.int .i64 wy) ∧ W.cell? ⟨ab, 1, none⟩ = some (.int .i64 kd) ∧ W.cell? ⟨ab, 2, none⟩ = some (.int .i64 it)) (first | exact ⟨z0, z1, z2⟩ | exact ⟨u0, u1, u2⟩ | exact ⟨t0, t1, t2⟩ | go_keep) (first
          | (go_at_call 13; (with_reducible refine C13.out.mono ?_); rintro e w7 ⟨rfl, hT7⟩; obtain ⟨u0, u1, u2⟩ := hT7.bx.c3; have C16b := hide (C16.out _ _ hT7); clear hT7)
          | (go_at_call 15; (with_reducible refine (num_any _ _).mono ?_); rintro e w8 ⟨rfl, rfl⟩)
          | (go_at_call 16; (with_reducible refine C16b.out.mono ?_); rintro e w9 ⟨rfl, hT9⟩; obtain ⟨t0, t1, t2⟩ := hT9.bx.c3; have HT9 := hide hT9; clear hT9))
        go_upto_region 20 with fail
        have HTD := hide (show Tb w cb ob qb ab [.int .i64 wy, .int .i64 kd, .int .i64 it] w9.drew q1 q1 qo2 from HT9.out.below (below_drewN (Below.refl _ _) 1))
        have C18 := hide (HTD.out.dbusy wy)
        have C19 := hide (fun W (h : Tb w cb ob qb ab [.int .i64 wy, .int .i64 kd, .int .i64 it] W q1 q1 qo2) => h.rbusy wy)
        have C21 := hide (fun W (h : Tb w cb ob qb ab [.int .i64 wy, .int .i64 kd, .int .i64 it] W q1 q1 qo2) => h.ditems (HS1.out.mono (by omega)))
        have C22 := hide (fun W (h : Tb w cb ob qb ab [.int .i64 wy, .int .i64 kd, .int .i64 it] W q1 q1 qo2) => h.ritems (HS1.out.mono (by omega)))
        have HLN := hide (show (itemsD q1).length ≤ 20000 by have := items_len HS1.out; omega)
        have CS := hide (fun (a b : Option Addr) (c e : Nat) W ra rb => same_row (itemsD q1) a b c e W HLN.out ra rb)
        generalize itemsD q1 = H at *
        generalize busyD q1 wy = bb at *
        have hbb : (bb != bb) = false := by simp
        have z9 := HT9.out.bx.c3.1
        go_region_held3 (fun W => W.cell? ⟨ab, 0, none⟩ = some (.int .i64 wy)) (first | exact z9 | exact zB | exact zA | exact zC | go_keep) (first
          | (go_at_call 18; (with_reducible refine C18.out.mono ?_); rintro e wA ⟨rfl, hw⟩; subst hw; have zA := HTD.out.bx.c3.1; have C19b := hide (C19.out _ HTD.out))
          | (go_at_call 19; (with_reducible refine C19b.out.mono ?_); rintro e wB ⟨rfl, hw⟩; subst hw; have C21b := hide (C21.out _ HTD.out))
          | (go_at_call 21; (with_reducible refine C21b.out.mono ?_); rintro e wC ⟨aC, cC, rfl, hrC, hbC, hTC⟩; have zA := hTC.bx.c3.1; have HRC := hide hrC; have C22b := hide (C22.out _ hTC); clear hrC hbC hTC)
          | (go_at_call 22; (with_reducible refine C22b.out.mono ?_); rintro e wD ⟨aD, cD, rfl, hrD, hbD, hTD⟩; have zB := hTD.bx.c3.1; have HTE := hide hTD; have CSb := hide (CS.out aC aD cC cD _ (HRC.out.below hbD) hrD); clear hrD hbD hTD)
          | (go_at_call 20; (with_reducible refine CSb.out.mono ?_); rintro e wE ⟨rfl, hbE⟩; have hTE := HTE.out.below hbE; have zC := hTE.bx.c3.1; have HTF := hide hTE; clear hbE hTE))
        go_wp2
        go_roundw
        case rel => exact ⟨k + 1, q1, qo2, by omega, by go_num, hide ⟨HTF.out.t0, by rw [HE2.out]; exact HS1.out, by rw [HE2.out]; exact HSO3.out, HW1.out⟩⟩
        case measure => simp [intOf]; omega
    · obtain rfl : k = n := by omega
      go_wp2
      go_ret
      exact ⟨rfl, HM.out.t.bel⟩

theorem walk (a : Option Addr) (n c : Nat) (l : List (Int × Int × Int)) (w : World) (hl : l.length = n) (hm : n ≤ maxLen) (hA : ActsM w a l) :
    Calls Try.prog 3 #[.slice a n c] w fun e w' => e = .returned (.bool true) ∧ Below w.heap.size w w' := by
  by_cases h : n ≤ 500
  · exact walk_main a n c l w hl hA h
  · have h' : 500 < (n : Int) := by omega
    have hm' : n ≤ 9223372036854775807 := by unfold maxLen at hm; omega
    go_enter Try.func3, Try.ntmps3
    go_wp2_with (go_at_call 10; go_must ((with_reducible refine (alive_any w).mono ?_); rintro e w1 ⟨rfl, hb1⟩))
    go_ret
    exact ⟨rfl, hb1⟩
end dequePlays
end Go.Proofs.Ytaooglcjcnkgnaa
