/- LinkBrings: a frame is lost, or comes in. -/
import Derived.Test.YtofigofaiadffaaBrE
namespace Go.Proofs.Ytofigofaiadffaa
namespace linkBrings
open Go.RowKit Go.ChangeShapes Go.WideShapes Go.ChangeAt Go.Deep

set_option linter.unusedSimpArgs false in
set_option maxRecDepth 100000 in
set_option maxHeartbeats 8000000 in
theorem turn_in (w0 w : World) (pb ga gb : Nat) (p : Pr) (wy K : Int) (a : Option Addr) (n c : Nat) (x : List Nat) (h : PairM w0 w pb ga gb p) (hbd : Bd p) (hA : ArgT w0 w ⟨a, n, c, x⟩) (hK : I64 K) (hwy : wy = 4) (hway : 0 < p.way.length) (hinv : Inv p) (p2 : Pr) (hp2 : p2 = inP { p with way := p.way.eraseIdx (kOf K p.way.length) } (p.way[kOf K p.way.length]'(Nat.mod_lt _ hway))) :
    Calls Try.prog 24 #[.pointer (some ⟨pb, 0, none⟩), .agg #[.int .i64 wy, .int .i64 K, .slice a n c]] w fun e w' => e = .returned (.bool true) ∧ PairM w0 w' pb ga gb (p2) := by
  obtain ⟨hl, hB, hcap, hnil, hr⟩ := hA.1
  simp only at hl hB hcap hnil hr
  have hbn := below_new w (.cells #[.int .i64 wy, .int .i64 K, .slice a n c] 68)
  have hbx := BoxL.new w [.int .i64 wy, .int .i64 K, .slice a n c] 68
  obtain ⟨V, hV⟩ : ∃ V, V = w.alloc (.cells #[.int .i64 wy, .int .i64 K, .slice a n c] 68) := ⟨_, rfl⟩
  have HBX := hide (show BoxL V w.heap.size [.int .i64 wy, .int .i64 K, .slice a n c] by rw [hV]; exact hbx)
  have HTB := hide (show V.heap[w.heap.size]? = some (.cells #[.int .i64 wy, .int .i64 K, .slice a n c] 68) by rw [hV]; show (w.heap.push _)[w.heap.size]? = _; simp)
  rw [← hV] at hbn
  have HBN := hide hbn
  have HV := hide hV
  obtain ⟨D1, D2, aw, cw, l, t0, t1, u0, u1, hS0⟩ := h
  have hpbw := hS0.box.1
  have hS := hS0.below hbn
  have HS := hide hS
  have HA := hide (hA.keep (w' := V) fun k hk => hbn.block k (by have := hS0.bel.size; omega))
  obtain ⟨b0, b1, b2⟩ := HBX.out.c3
  obtain ⟨c0, c1, c2, c3, c4, c5, c6, c7, hfz⟩ := hS.cells
  obtain ⟨kk, hkk⟩ : ∃ kk : Nat, kk = (if K < 0 then -(K + 1) else K).toNat := ⟨_, rfl⟩
  obtain ⟨nw, hnw⟩ : ∃ nw, nw = p.way.length := ⟨_, rfl⟩
  obtain ⟨tm, htm⟩ : ∃ tm, tm = p.now := ⟨_, rfl⟩
  have HNW := hide hnw
  have HTM := hide htm
  rw [← hnw] at c2
  rw [← htm] at c3
  obtain ⟨k2, hk2⟩ : ∃ k2 : Nat, k2 = if 0 < nw then kk % nw else kk := ⟨_, rfl⟩
  have HK2 := hide (show 0 < nw → k2 = kOf K nw from fun h0 => by rw [hk2, if_pos h0, hkk]; rfl)
  have HK2' := hide hk2
  have hnb : nw ≤ 400000 := by rw [hnw]; exact hbd.way
  have htb : tm ≤ 1000000 := by rw [htm]; exact hbd.now
  have HBD := hide hbd
  have HPB := hide hpbw
  have hkkb : kk ≤ 9223372036854775807 := by unfold I64 at hK; rw [hkk]; split <;> omega
  have HKK := hide hkk
  have hKn : K < 0 → -(K + 1) = (kk : Int) := fun h0 => by rw [hkk, if_pos h0]; omega
  have hKp : ¬ K < 0 → K = (kk : Int) := fun h0 => by rw [hkk, if_neg h0]; omega
  have HKn := hide hKn
  have HKp := hide hKp
  unfold I64 at hK
  obtain ⟨hK1, hK2⟩ := hK
  clear hbn hbx hV hS hS0 hkk hnw htm hk2 hr hA hl hB hnil hcap hbd hpbw hKn hKp
  have w0q : (wy == 0) = false := by rw [hwy]; rfl
  have w1q : (wy == 1) = false := by rw [hwy]; rfl
  have w2q : (wy == 2) = false := by rw [hwy]; rfl
  have w3q : (wy == 3) = false := by rw [hwy]; rfl
  have w4q : (wy == 4) = true := by rw [hwy]; rfl
  have h0 : 0 < nw := by rw [HNW.out]; exact hway
  obtain ⟨gw, haw, hnc⟩ := own_addr HS.out.wo (by rw [← HNW.out]; exact h0)
  have hk3 : k2 < nw := by rw [HK2.out h0]; exact Nat.mod_lt _ h0
  subst haw
  have hnc2 : nw ≤ cw := by rw [HNW.out]; exact hnc
  have kf : ∀ W, (Instr.slice 53 (.slice (some ⟨gw, 0, none⟩) nw cw) (some (.int .i64 ((k2 : Int) + 1))) none none).run Try.prog W = .ok (.slice (some (atf gw cw (k2 + 1))) (nw - (k2 + 1)) (cw - (k2 + 1))) W := fun W => slice_fromF W gw nw cw (k2 + 1) (by omega)
  have kt := fun W => slice_toF W (some ⟨gw, 0, none⟩) nw cw k2 (by omega)
  have hq0 : ((nw : Int) == 0) = false := by simp; omega
  have hlen : l.length = nw := by have h1 := congrArg List.length HS.out.wp; rw [List.length_map] at h1; rw [h1, ← HNW.out]
  have hkl : k2 < l.length := by omega
  have hke : k2 = kOf K p.way.length := by rw [HK2.out h0, HNW.out]
  have hfe : l[k2].p = p.way[kOf K p.way.length]'(Nat.mod_lt _ hway) := by
    obtain ⟨y, hy⟩ : ∃ y, y = l[k2].p := ⟨_, rfl⟩
    have h1 : p.way[k2]? = some y := by rw [← HS.out.wp, hy]; simp [hkl]
    rw [← hy]
    rw [hke, List.getElem?_eq_getElem (show kOf K p.way.length < p.way.length from Nat.mod_lt _ hway)] at h1
    simp only [Option.some.injEq] at h1
    exact h1.symm
  have hwo : V.ownsRow w0.heap.size 34 6 (.slice (some ⟨gw, 0, none⟩) nw cw) nw (fV l) := by rw [HNW.out]; exact HS.out.wo
  obtain ⟨y0, y1, y2, y3, y4, y5⟩ := own_at6 hwo hkl
  have HTX := hide (HS.out.wl l[k2] (List.getElem_mem _))
  have HFE := hide hfe
  have HP2 := hide (show p2 = inP { p with way := p.way.eraseIdx k2 } l[k2].p from by rw [hp2, hfe, hke])
  obtain ⟨x6, hx6⟩ : ∃ x6, x6 = l[k2] := ⟨_, rfl⟩
  rw [← hx6] at y0 y1 y2 y3 y4 y5 HTX HFE HP2
  have hvn := below_new V (.cells #[.int .i64 x6.fr, .int .i64 x6.tt, .int .i64 x6.lf, .int .i64 x6.sq, .int .i64 x6.ak, .slice x6.t.a x6.t.len x6.t.cap] 34)
  have hvx := BoxL.new V [.int .i64 x6.fr, .int .i64 x6.tt, .int .i64 x6.lf, .int .i64 x6.sq, .int .i64 x6.ak, .slice x6.t.a x6.t.len x6.t.cap] 34
  obtain ⟨V2, hV2⟩ : ∃ V2, V2 = V.alloc (.cells #[.int .i64 x6.fr, .int .i64 x6.tt, .int .i64 x6.lf, .int .i64 x6.sq, .int .i64 x6.ak, .slice x6.t.a x6.t.len x6.t.cap] 34) := ⟨_, rfl⟩
  have HV2 := hide hV2
  have hvx2 : BoxL V2 V.heap.size [.int .i64 x6.fr, .int .i64 x6.tt, .int .i64 x6.lf, .int .i64 x6.sq, .int .i64 x6.ak, .slice x6.t.a x6.t.len x6.t.cap] := by rw [hV2]; exact hvx
  rw [← hV2] at hvn
  have hS2 := HS.out.below hvn
  obtain ⟨a1, v1, w3, a2, v2, w4, a3, v3, w5, r1, r2, r3, hb3, hb5, ⟨e2, f2⟩, hset⟩ := erase_app hS2 HNW.out hk3 hnb
  have c2v : V2.cell? ⟨pb, 2, none⟩ = some (.slice (some ⟨gw, 0, none⟩) nw cw) := keep_cell c2 hvn
  have d2 : w3.cell? ⟨pb, 2, none⟩ = some (.slice (some ⟨gw, 0, none⟩) nw cw) := keep_cell c2v hb3
  have HSET := hide hset
  have hpv : V.heap.size ≠ pb := by have := HS.out.box.1; omega
  have hvx6 : BoxL (w5.setCell ⟨pb, 2, none⟩ (.slice a3 (k2 + (nw - (k2 + 1))) v3)) V.heap.size [.int .i64 x6.fr, .int .i64 x6.tt, .int .i64 x6.lf, .int .i64 x6.sq, .int .i64 x6.ak, .slice x6.t.a x6.t.len x6.t.cap] := (hvx2.below hb5).keep (by rw [size_set]; exact Nat.le_refl _) (setp_keep hpv)
  have HX6 := hide hvx6
  have HT6 := hide ((((HTX.out.below hvn).below hb5).keep (w' := w5.setCell ⟨pb, 2, none⟩ (.slice a3 (k2 + (nw - (k2 + 1))) v3)) fun ad e => setp_keep (HTX.out.2.2 ad e).2.2))
  obtain ⟨W6, hW6⟩ : ∃ W6, W6 = w5.setCell ⟨pb, 2, none⟩ (.slice a3 (k2 + (nw - (k2 + 1))) v3) := ⟨_, rfl⟩
  rw [← hW6] at HX6 HT6 HSET
  have hwv : Inv { p with way := p.way.eraseIdx k2 } := hinv.way fun f hf => List.mem_of_mem_eraseIdx hf
  have hok : inOk { p with way := p.way.eraseIdx k2 } x6.p = true := (hwv.inn (hinv.fr x6.p (by rw [HFE.out]; exact List.getElem_mem _))).1
  have C36 := hide (pin_any w0 W6 pb ga gb { p with way := p.way.eraseIdx k2 } x6.p x6.t.a x6.t.len x6.t.cap ⟨_, _, _, _, _, _, _, _, _, HSET.out⟩ (by have := HBD.out.ua; show p.a.used ≤ 1000000; omega) (by have := HBD.out.ub; show p.b.used ≤ 1000000; omega) (by have := HBD.out.ca; show p.a.came ≤ 1000000; omega) (by have := HBD.out.cb; show p.b.came ≤ 1000000; omega) HBD.out.t0 HBD.out.t1 HT6.out.1.1 HT6.out.1.2.1 HT6.out.reads.1 HT6.out.reads.2.1 (fun ad e _ => HT6.out.2.2 ad e))
  rw [hok] at C36
  have C36' := hide (show Calls Try.prog 36 #[.pointer (some ⟨pb, 0, none⟩), .agg #[.int .i64 x6.fr, .int .i64 x6.tt, .int .i64 x6.lf, .int .i64 x6.sq, .int .i64 x6.ak, .slice x6.t.a x6.t.len x6.t.cap]] W6 _ from C36.out)
  have HKE := hide hke
  have HW6 := hide hW6
  obtain ⟨m0, m1, m2, m3, m4, m5⟩ := HX6.out.c6
  have hkn : (k2 : Int) < (nw : Int) := by omega
  clear hset hb3 hb5 hwy hnc h0 hx6 hV2 hvn hvx hvx2 hvx6 hS2 hwv hok hW6 C36 hpv hlen hkl hke hfe hwo hp2 HFE
  go_enter Try.func24, Try.ntmps24
  go_upto_region 1 with fail
  rw [← HV.out]
  go_upto_if 12 with fail
  go_cut [5] from 11 to 16 (fun v wc => V = wc ∧ v = .int .i64 (kk : Int))
  case first =>
    by_cases hneg : K < 0
    · have hq := HKn.out hneg
      go_wp2
      go_meet
      exact ⟨rfl, rfl⟩
    · have HQ := hide (HKp.out hneg)
      go_wp2
      go_meet
      exact ⟨rfl, by rw [← HQ.out]⟩
  case rest =>
    obtain ⟨rfl, rfl⟩ := hcut
    go_upto_if 21 with fail
    go_cut [5] from 16 to 29 (fun v wc => V = wc ∧ v = .int .i64 (k2 : Int))
    case first =>
      by_cases h0 : 0 < nw
      · have hm : (kk : Int).tmod (nw : Int) = (k2 : Int) := by
          have := HK2'.out
          rw [if_pos h0] at this
          rw [Int.tmod_eq_emod_of_nonneg (by omega), this]
          simp
        have hn0 : (nw : Int) ≠ 0 := by omega
        have h0i : (0 : Int) < (nw : Int) := by omega
        go_wp2
        go_meet
        exact ⟨rfl, rfl⟩
      · have h0i : ¬ (0 : Int) < (nw : Int) := by omega
        have hm : kk = k2 := by
          have := HK2'.out
          rw [if_neg h0] at this
          exact this.symm
        have HM := hide hm
        clear hm
        go_wp2 <;> (go_meet; exact ⟨rfl, by rw [HM.out]⟩)
    case rest =>
      obtain ⟨rfl, rfl⟩ := hcut
      go_upto_region 22 with fail
      rw [← HV2.out]
      go_upto_region 24 with (first
        | (at_builtin; (refine wpl_app53 rfl (.const (.slice none 0 0)) (.tmp 181) rfl rfl rfl r1 ?_))
        | (at_builtin; (refine wpl_app53 rfl (.const (.slice none 0 0)) (.tmp 189) rfl rfl rfl r2 ?_))
        | (at_builtin; (refine wpl_app53 rfl (.tmp 190) (.tmp 191) rfl rfl rfl r3 ?_)))
      rw [← HW6.out]
      go_wp2_with (go_at_call 36; go_must ((with_reducible refine C36'.out.mono ?_); rintro e w9 ⟨rfl, hP9⟩; have HP9 := hide hP9; clear hP9))
      go_ret
      refine ⟨rfl, ?_⟩
      rw [HP2.out]
      exact HP9.out
end linkBrings
end Go.Proofs.Ytofigofaiadffaa
