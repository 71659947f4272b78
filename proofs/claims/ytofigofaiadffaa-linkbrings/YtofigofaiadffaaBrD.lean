/- LinkBrings: a frame is doubled. -/
import Derived.Test.YtofigofaiadffaaBrE
namespace Go.Proofs.Ytofigofaiadffaa
namespace linkBrings
open Go.RowKit Go.ChangeShapes Go.WideShapes Go.ChangeAt Go.Deep

set_option linter.unusedSimpArgs false in
set_option maxRecDepth 100000 in
set_option maxHeartbeats 8000000 in
theorem turn_dbl (w0 w : World) (pb ga gb : Nat) (p : Pr) (wy K : Int) (a : Option Addr) (n c : Nat) (x : List Nat) (h : PairM w0 w pb ga gb p) (hbd : Bd p) (hA : ArgT w0 w ⟨a, n, c, x⟩) (hK : I64 K) (hwy : wy ≠ 0 ∧ wy ≠ 1 ∧ wy ≠ 2 ∧ wy ≠ 3 ∧ wy ≠ 4 ∧ wy ≠ 5) (hway : 0 < p.way.length) (p2 : Pr) (hp2 : p2 = { p with way := p.way ++ [p.way[kOf K p.way.length]'(Nat.mod_lt _ hway)] }) :
    Calls Try.prog 24 #[.pointer (some ⟨pb, 0, none⟩), .agg #[.int .i64 wy, .int .i64 K, .slice a n c]] w fun e w' => e = .returned (.bool true) ∧ PairM w0 w' pb ga gb (p2) := by
  obtain ⟨hl, hB, hcap, hnil, hr⟩ := hA.1
  simp only at hl hB hcap hnil hr
  have hbn := below_new w (.cells #[.int .i64 wy, .int .i64 K, .slice a n c] 68)
  have hbx := BoxL.new w [.int .i64 wy, .int .i64 K, .slice a n c] 68
  obtain ⟨V, hV⟩ : ∃ V, V = w.alloc (.cells #[.int .i64 wy, .int .i64 K, .slice a n c] 68) := ⟨_, rfl⟩
  have HBX := hide (show BoxL V w.heap.size [.int .i64 wy, .int .i64 K, .slice a n c] by rw [hV]; exact hbx)
  have HTB := hide (show V.heap[w.heap.size]? = some (.cells #[.int .i64 wy, .int .i64 K, .slice a n c] 68) by rw [hV]; show (w.heap.push _)[w.heap.size]? = _; simp)
  rw [← hV] at hbn
  have HBN := hide hbn
  have HV := hide hV
  obtain ⟨D1, D2, aw, cw, l, t0, t1, u0, u1, hS0⟩ := h
  have hpbw := hS0.box.1
  have hS := hS0.below hbn
  have HS := hide hS
  have HA := hide (hA.keep (w' := V) fun k hk => hbn.block k (by have := hS0.bel.size; omega))
  obtain ⟨b0, b1, b2⟩ := HBX.out.c3
  obtain ⟨c0, c1, c2, c3, c4, c5, c6, c7, hfz⟩ := hS.cells
  obtain ⟨kk, hkk⟩ : ∃ kk : Nat, kk = (if K < 0 then -(K + 1) else K).toNat := ⟨_, rfl⟩
  obtain ⟨nw, hnw⟩ : ∃ nw, nw = p.way.length := ⟨_, rfl⟩
  obtain ⟨tm, htm⟩ : ∃ tm, tm = p.now := ⟨_, rfl⟩
  have HNW := hide hnw
  have HTM := hide htm
  rw [← hnw] at c2
  rw [← htm] at c3
  obtain ⟨k2, hk2⟩ : ∃ k2 : Nat, k2 = if 0 < nw then kk % nw else kk := ⟨_, rfl⟩
  have HK2 := hide (show 0 < nw → k2 = kOf K nw from fun h0 => by rw [hk2, if_pos h0, hkk]; rfl)
  have HK2' := hide hk2
  have hnb : nw ≤ 400000 := by rw [hnw]; exact hbd.way
  have htb : tm ≤ 1000000 := by rw [htm]; exact hbd.now
  have HBD := hide hbd
  have HPB := hide hpbw
  have hkkb : kk ≤ 9223372036854775807 := by unfold I64 at hK; rw [hkk]; split <;> omega
  have HKK := hide hkk
  have hKn : K < 0 → -(K + 1) = (kk : Int) := fun h0 => by rw [hkk, if_pos h0]; omega
  have hKp : ¬ K < 0 → K = (kk : Int) := fun h0 => by rw [hkk, if_neg h0]; omega
  have HKn := hide hKn
  have HKp := hide hKp
  unfold I64 at hK
  obtain ⟨hK1, hK2⟩ := hK
  clear hbn hbx hV hS hS0 hkk hnw htm hk2 hr hA hl hB hnil hcap hbd hpbw hKn hKp
  have w0q : (wy == 0) = false := by simpa using hwy.1
  have w1q : (wy == 1) = false := by simpa using hwy.2.1
  have w2q : (wy == 2) = false := by simpa using hwy.2.2.1
  have w3q : (wy == 3) = false := by simpa using hwy.2.2.2.1
  have w4q : (wy == 4) = false := by simpa using hwy.2.2.2.2.1
  have w5q : (wy == 5) = false := by simpa using hwy.2.2.2.2.2
  have h0 : 0 < nw := by rw [HNW.out]; exact hway
  obtain ⟨gw, haw, hnc⟩ := own_addr HS.out.wo (by rw [← HNW.out]; exact h0)
  have hk3 : k2 < nw := by rw [HK2.out h0]; exact Nat.mod_lt _ h0
  subst haw
  have hnc2 : nw ≤ cw := by rw [HNW.out]; exact hnc
  have hq0 : ((nw : Int) == 0) = false := by simp; omega
  have hlen : l.length = nw := by have h1 := congrArg List.length HS.out.wp; rw [List.length_map] at h1; rw [h1, ← HNW.out]
  have hkl : k2 < l.length := by omega
  have hke : k2 = kOf K p.way.length := by rw [HK2.out h0, HNW.out]
  have hfe : l[k2].p = p.way[kOf K p.way.length]'(Nat.mod_lt _ hway) := by
    obtain ⟨y, hy⟩ : ∃ y, y = l[k2].p := ⟨_, rfl⟩
    have h1 : p.way[k2]? = some y := by rw [← HS.out.wp, hy]; simp [hkl]
    rw [← hy]
    rw [hke, List.getElem?_eq_getElem (show kOf K p.way.length < p.way.length from Nat.mod_lt _ hway)] at h1
    simp only [Option.some.injEq] at h1
    exact h1.symm
  have HP2 := hide (show p2 = { p with way := (l ++ [l[k2]]).map Fm.p } from by rw [hp2, List.map_append, HS.out.wp, ← hfe]; rfl)
  have HTX := hide (HS.out.wl l[k2] (List.getElem_mem _))
  have HXd := HS.out.below ((Below.refl _ V).drew)
  have hwo : V.drew.ownsRow w0.heap.size 34 6 (.slice (some ⟨gw, 0, none⟩) nw cw) nw (fV l) := by rw [HNW.out]; exact HXd.wo
  obtain ⟨y0, y1, y2, y3, y4, y5⟩ := own_at6 hwo hkl
  obtain ⟨x6, hx6⟩ : ∃ x6, x6 = l[k2] := ⟨_, rfl⟩
  rw [← hx6] at y0 y1 y2 y3 y4 y5 HTX HP2
  have hvn := below_new V.drew (.cells #[.int .i64 x6.fr, .int .i64 x6.tt, .int .i64 x6.lf, .int .i64 x6.sq, .int .i64 x6.ak, .slice x6.t.a x6.t.len x6.t.cap] 34)
  have hS2 := HXd.below hvn
  have hwo2 : (V.drew.alloc (.cells #[.int .i64 x6.fr, .int .i64 x6.tt, .int .i64 x6.lf, .int .i64 x6.sq, .int .i64 x6.ak, .slice x6.t.a x6.t.len x6.t.cap] 34)).ownsRow w0.heap.size 34 6 (.slice (some ⟨gw, 0, none⟩) nw cw) nw (fV l) := by rw [HNW.out]; exact hS2.wo
  obtain ⟨ar, cr, wr, hrun, hor, hgr, hwr⟩ := app34 (V.drew.alloc (.cells #[.int .i64 x6.fr, .int .i64 x6.tt, .int .i64 x6.lf, .int .i64 x6.sq, .int .i64 x6.ak, .slice x6.t.a x6.t.len x6.t.cap] 34)) w0.heap.size (some ⟨gw, 0, none⟩) nw cw l hwo2 (some ⟨V.heap.size, 0, none⟩) 1 1 [x6] (fun e => by cases e) rfl (reads_new V.drew (Fm.cs x6) 34) (by omega) hS2.bel.size 53
  have hrun2 : (Builtin.append_ #[53, 53] 53 #[.slice (some ⟨gw, 0, none⟩) nw cw, .slice (some ⟨V.heap.size, 0, none⟩) 1 1]).run Try.prog (V.alloc (.cells #[.int .i64 x6.fr, .int .i64 x6.tt, .int .i64 x6.lf, .int .i64 x6.sq, .int .i64 x6.ak, .slice x6.t.a x6.t.len x6.t.cap] 34)).drew = .ok (.slice ar (nw + 1) cr) wr := hrun
  have hgr2 : (V.drew.alloc (.cells #[.int .i64 x6.fr, .int .i64 x6.tt, .int .i64 x6.lf, .int .i64 x6.sq, .int .i64 x6.ak, .slice x6.t.a x6.t.len x6.t.cap] 34)).grownBy wr (Value.slice (some ⟨gw, 0, none⟩) p.way.length cw).ownBlock := hgr
  have HSET := hide (hS2.setWay (l' := l ++ [x6]) (n' := nw + 1) hgr2 (by rw [List.length_append, hlen]; rfl) hor hwr (fun t ht => by
    have hk0 : ∀ q : Txt, TxO (Fb pb ga gb) (V.drew.alloc (.cells #[.int .i64 x6.fr, .int .i64 x6.tt, .int .i64 x6.lf, .int .i64 x6.sq, .int .i64 x6.ak, .slice x6.t.a x6.t.len x6.t.cap] 34)) q → TxO (Fb pb ga gb) wr q := fun q hq => hq.keep fun ad e => grown_keep hgr (hq.lt ad e) (fun ad2 e2 => (own_apart hq.2.1 hwo2 (by decide) ad ad2 e e2).symm)
    rw [List.mem_append, List.mem_singleton] at ht
    rcases ht with ht | rfl
    · exact hk0 _ (hS2.wl t ht)
    · exact hk0 _ (hS2.wl t (by rw [hx6]; exact List.getElem_mem _))))
  have d2 : V.drew.cell? ⟨pb, 2, none⟩ = some (.slice (some ⟨gw, 0, none⟩) nw cw) := c2
  have e2 : (V.drew.alloc (.cells #[.int .i64 x6.fr, .int .i64 x6.tt, .int .i64 x6.lf, .int .i64 x6.sq, .int .i64 x6.ak, .slice x6.t.a x6.t.len x6.t.cap] 34)).cell? ⟨pb, 2, none⟩ = some (.slice (some ⟨gw, 0, none⟩) nw cw) := keep_cell d2 hvn
  have e2b : (V.alloc (.cells #[.int .i64 x6.fr, .int .i64 x6.tt, .int .i64 x6.lf, .int .i64 x6.sq, .int .i64 x6.ak, .slice x6.t.a x6.t.len x6.t.cap] 34)).drew.cell? ⟨pb, 2, none⟩ = some (.slice (some ⟨gw, 0, none⟩) nw cw) := e2
  have hpk : wr.heap[pb]? = (V.drew.alloc (.cells #[.int .i64 x6.fr, .int .i64 x6.tt, .int .i64 x6.lf, .int .i64 x6.sq, .int .i64 x6.ak, .slice x6.t.a x6.t.len x6.t.cap] 34)).heap[pb]? := grown_keep hgr hS2.box.1 (fun ad e => (hS2.wn ad e).2.2)
  have r2 : wr.cell? ⟨pb, 2, none⟩ = some (.slice (some ⟨gw, 0, none⟩) nw cw) := by rw [World.cell?_of_block (w := V.drew.alloc (.cells #[.int .i64 x6.fr, .int .i64 x6.tt, .int .i64 x6.lf, .int .i64 x6.sq, .int .i64 x6.ak, .slice x6.t.a x6.t.len x6.t.cap] 34)) (a := ⟨pb, 2, none⟩) hpk]; exact e2
  have f2 : wr.frozen? ⟨pb, 2, none⟩ = false := by rw [World.frozen?_of_block (w := V.drew.alloc (.cells #[.int .i64 x6.fr, .int .i64 x6.tt, .int .i64 x6.lf, .int .i64 x6.sq, .int .i64 x6.ak, .slice x6.t.a x6.t.len x6.t.cap] 34)) (a := ⟨pb, 2, none⟩) hpk]; exact hS2.cells.2.2.2.2.2.2.2.2 2 (by omega)
  have hkn : (k2 : Int) < (nw : Int) := by omega
  clear hwy hway hp2 h0 hnc hlen hkl hke hfe HXd hwo hvn hS2 hwo2 hor hgr hgr2 hwr hpk hx6
  go_enter Try.func24, Try.ntmps24
  go_upto_region 1 with fail
  rw [← HV.out]
  go_upto_if 12 with fail
  go_cut [5] from 11 to 16 (fun v wc => V = wc ∧ v = .int .i64 (kk : Int))
  case first =>
    by_cases hneg : K < 0
    · have hq := HKn.out hneg
      go_wp2
      go_meet
      exact ⟨rfl, rfl⟩
    · have HQ := hide (HKp.out hneg)
      go_wp2
      go_meet
      exact ⟨rfl, by rw [← HQ.out]⟩
  case rest =>
    obtain ⟨rfl, rfl⟩ := hcut
    go_upto_if 21 with fail
    go_cut [5] from 16 to 29 (fun v wc => V = wc ∧ v = .int .i64 (k2 : Int))
    case first =>
      by_cases h0 : 0 < nw
      · have hm : (kk : Int).tmod (nw : Int) = (k2 : Int) := by
          have := HK2'.out
          rw [if_pos h0] at this
          rw [Int.tmod_eq_emod_of_nonneg (by omega), this]
          simp
        have hn0 : (nw : Int) ≠ 0 := by omega
        have h0i : (0 : Int) < (nw : Int) := by omega
        go_wp2
        go_meet
        exact ⟨rfl, rfl⟩
      · have h0i : ¬ (0 : Int) < (nw : Int) := by omega
        have hm : kk = k2 := by
          have := HK2'.out
          rw [if_neg h0] at this
          exact this.symm
        have HM := hide hm
        clear hm
        go_wp2 <;> (go_meet; exact ⟨rfl, by rw [HM.out]⟩)
    case rest =>
      obtain ⟨rfl, rfl⟩ := hcut
      go_upto_region 6 with fail
      refine wp_region_noPanic ?_
      refine wp_region_held_drew (S := fun _ => True) (by kernel_rfl) trivial (fun _ => ?_)
      refine takeD (i := 0) (d := some 29) (v := ?_) rfl rfl (by kernel_rfl) (by kernel_rfl) (by kernel_rfl) (fun _ _ _ h => h) (Or.inl ⟨by rfl, ?_⟩) trivial ?_
      rotate_left
      · intro w hSw
        go_simp
        try (with_reducible rfl)
      try simp only [Act.put, List.setIfInBounds_toArray, List.set_cons_zero, List.set_cons_succ]
      refine takeD (i := 1) (d := some 30) (v := ?_) rfl rfl (by kernel_rfl) (by kernel_rfl) (by kernel_rfl) (fun _ _ _ h => h) (Or.inl ⟨by rfl, ?_⟩) trivial ?_
      rotate_left
      · intro w hSw
        go_simp
        try (with_reducible rfl)
      try simp only [Act.put, List.setIfInBounds_toArray, List.set_cons_zero, List.set_cons_succ]
      refine takeD (i := 2) (d := some 31) (v := ?_) rfl rfl (by kernel_rfl) (by kernel_rfl) (by kernel_rfl) (fun _ _ _ h => h) (Or.inl ⟨by rfl, ?_⟩) trivial ?_
      rotate_left
      · intro w hSw
        go_simp
        try (with_reducible rfl)
      try simp only [Act.put, List.setIfInBounds_toArray, List.set_cons_zero, List.set_cons_succ]
      refine takeD (i := 3) (d := some 32) (v := ?_) rfl rfl (by kernel_rfl) (by kernel_rfl) (by kernel_rfl) (fun _ _ _ h => h) (Or.inl ⟨by rfl, ?_⟩) trivial ?_
      rotate_left
      · intro w hSw
        go_simp
        try (with_reducible rfl)
      try simp only [Act.put, List.setIfInBounds_toArray, List.set_cons_zero, List.set_cons_succ]
      refine takeD (i := 5) (d := some 34) (v := ?_) rfl rfl (by kernel_rfl) (by kernel_rfl) (by kernel_rfl) (fun _ _ _ h => h) (Or.inl ⟨by rfl, ?_⟩) trivial ?_
      rotate_left
      · intro w hSw
        go_simp
        try (with_reducible rfl)
      try simp only [Act.put, List.setIfInBounds_toArray, List.set_cons_zero, List.set_cons_succ]
      refine takeD (i := 6) (d := some 35) (v := ?_) rfl rfl (by kernel_rfl) (by kernel_rfl) (by kernel_rfl) (fun _ _ _ h => h) (Or.inl ⟨by rfl, ?_⟩) trivial ?_
      rotate_left
      · intro w hSw
        go_simp
        try (with_reducible rfl)
      try simp only [Act.put, List.setIfInBounds_toArray, List.set_cons_zero, List.set_cons_succ]
      refine takeD (i := 7) (d := some 36) (v := ?_) rfl rfl (by kernel_rfl) (by kernel_rfl) (by kernel_rfl) (fun _ _ _ h => h) (Or.inl ⟨by rfl, ?_⟩) trivial ?_
      rotate_left
      · intro w hSw
        go_simp
        try (with_reducible rfl)
      try simp only [Act.put, List.setIfInBounds_toArray, List.set_cons_zero, List.set_cons_succ]
      refine takeD (i := 9) (d := some 38) (v := ?_) rfl rfl (by kernel_rfl) (by kernel_rfl) (by kernel_rfl) (fun _ _ _ h => h) (Or.inl ⟨by rfl, ?_⟩) trivial ?_
      rotate_left
      · intro w hSw
        go_simp
        try (with_reducible rfl)
      try simp only [Act.put, List.setIfInBounds_toArray, List.set_cons_zero, List.set_cons_succ]
      refine wpAnyH_ready (rs := [4, 8]) (by kernel_rfl) (by simp) ?_
      refine AllReadyH.cons rfl (fun K hK => ?_) (AllReadyH.cons rfl (fun K hK => ?_) AllReadyH.nil)
      · go_simp
        go_wp2_with fail
        refine hK.out _ _ trivial (fun _ => ?_)
        clear hK K
        try simp only [Act.put, List.setIfInBounds_toArray, List.set_cons_zero, List.set_cons_succ]
        refine wpAnyH_ready (rs := [8]) (by kernel_rfl) (by simp) ?_
        refine AllReadyH.cons rfl (fun K hK => ?_) AllReadyH.nil
        go_simp
        go_wp2_with fail
        refine hK.out _ _ trivial (fun _ => ?_)
        clear hK K
        try simp only [Act.put, List.setIfInBounds_toArray, List.set_cons_zero, List.set_cons_succ]
        refine takeD (i := 10) (d := some 39) (v := ?_) rfl rfl (by kernel_rfl) (by kernel_rfl) (by kernel_rfl) (fun _ _ _ h => h) (Or.inl ⟨by rfl, ?_⟩) trivial ?_
        rotate_left
        · intro w hSw
          go_simp
          try (with_reducible rfl)
        try simp only [Act.put, List.setIfInBounds_toArray, List.set_cons_zero, List.set_cons_succ]
        refine wpAnyH_ready (rs := [11]) (by kernel_rfl) (by simp) ?_
        refine AllReadyH.cons rfl (fun K hK => ?_) AllReadyH.nil
        go_simp
        go_wp2_with fail
        refine hK.out _ _ trivial (fun _ => ?_)
        clear hK K
        try simp only [Act.put, List.setIfInBounds_toArray, List.set_cons_zero, List.set_cons_succ]
        refine wpAnyH_ready (rs := [12]) (by kernel_rfl) (by simp) ?_
        refine AllReadyH.cons rfl (fun K hK => ?_) AllReadyH.nil
        go_simp
        go_wp2_with fail
        refine hK.out _ _ trivial (fun _ => ?_)
        clear hK K
        try simp only [Act.put, List.setIfInBounds_toArray, List.set_cons_zero, List.set_cons_succ]
        refine wpAnyH_ready (rs := [13]) (by kernel_rfl) (by simp) ?_
        refine AllReadyH.cons rfl (fun K hK => ?_) AllReadyH.nil
        first | refine wp_app53 (.tmp 33) (.tmp 41) rfl rfl rfl hrun ?_ | refine wp_app53 (.tmp 33) (.tmp 41) rfl rfl rfl hrun2 ?_
        refine hK.out _ _ trivial (fun _ => ?_)
        clear hK K
        try simp only [Act.put, List.setIfInBounds_toArray, List.set_cons_zero, List.set_cons_succ]
        refine takeD (i := 14) (d := some 43) (v := ?_) rfl rfl (by kernel_rfl) (by kernel_rfl) (by kernel_rfl) (fun _ _ _ h => h) (Or.inl ⟨by rfl, ?_⟩) trivial ?_
        rotate_left
        · intro w hSw
          go_simp
          try (with_reducible rfl)
        try simp only [Act.put, List.setIfInBounds_toArray, List.set_cons_zero, List.set_cons_succ]
        refine takeD (i := 15) (d := some 44) (v := ?_) rfl rfl (by kernel_rfl) (by kernel_rfl) (by kernel_rfl) (fun _ _ _ h => h) (Or.inl ⟨by rfl, ?_⟩) trivial ?_
        rotate_left
        · intro w hSw
          go_simp
          try (with_reducible rfl)
        try simp only [Act.put, List.setIfInBounds_toArray, List.set_cons_zero, List.set_cons_succ]
        refine wpAnyH_ready (rs := [16]) (by kernel_rfl) (by simp) ?_
        refine AllReadyH.cons rfl (fun K hK => ?_) AllReadyH.nil
        go_simp
        go_wp2_with fail
        refine hK.out _ _ trivial (fun _ => ?_)
        clear hK K
        try simp only [Act.put, List.setIfInBounds_toArray, List.set_cons_zero, List.set_cons_succ]
        refine wpAnyH_done (by kernel_rfl) ?_ _
        refine NoPanic.normal ?_
        clear y0 y1 y2 y3 y4 y5 d2 e2 e2b r2 f2 hrun hrun2
        generalize wr.setCell ⟨pb, 2, none⟩ (.slice ar (nw + 1) cr) = W5 at HSET ⊢
        go_wp2
        go_ret
        refine ⟨rfl, ?_⟩
        rw [HP2.out]
        exact ⟨_, _, _, _, _, _, _, _, _, HSET.out⟩
      · go_simp
        go_wp2_with fail
        refine hK.out _ _ trivial (fun _ => ?_)
        clear hK K
        try simp only [Act.put, List.setIfInBounds_toArray, List.set_cons_zero, List.set_cons_succ]
        refine takeD (i := 10) (d := some 39) (v := ?_) rfl rfl (by kernel_rfl) (by kernel_rfl) (by kernel_rfl) (fun _ _ _ h => h) (Or.inl ⟨by rfl, ?_⟩) trivial ?_
        rotate_left
        · intro w hSw
          go_simp
          try (with_reducible rfl)
        try simp only [Act.put, List.setIfInBounds_toArray, List.set_cons_zero, List.set_cons_succ]
        refine wpAnyH_ready (rs := [4, 11]) (by kernel_rfl) (by simp) ?_
        refine AllReadyH.cons rfl (fun K hK => ?_) (AllReadyH.cons rfl (fun K hK => ?_) AllReadyH.nil)
        · go_simp
          go_wp2_with fail
          refine hK.out _ _ trivial (fun _ => ?_)
          clear hK K
          try simp only [Act.put, List.setIfInBounds_toArray, List.set_cons_zero, List.set_cons_succ]
          refine wpAnyH_ready (rs := [11]) (by kernel_rfl) (by simp) ?_
          refine AllReadyH.cons rfl (fun K hK => ?_) AllReadyH.nil
          go_simp
          go_wp2_with fail
          refine hK.out _ _ trivial (fun _ => ?_)
          clear hK K
          try simp only [Act.put, List.setIfInBounds_toArray, List.set_cons_zero, List.set_cons_succ]
          refine wpAnyH_ready (rs := [12]) (by kernel_rfl) (by simp) ?_
          refine AllReadyH.cons rfl (fun K hK => ?_) AllReadyH.nil
          go_simp
          go_wp2_with fail
          refine hK.out _ _ trivial (fun _ => ?_)
          clear hK K
          try simp only [Act.put, List.setIfInBounds_toArray, List.set_cons_zero, List.set_cons_succ]
          refine wpAnyH_ready (rs := [13]) (by kernel_rfl) (by simp) ?_
          refine AllReadyH.cons rfl (fun K hK => ?_) AllReadyH.nil
          first | refine wp_app53 (.tmp 33) (.tmp 41) rfl rfl rfl hrun ?_ | refine wp_app53 (.tmp 33) (.tmp 41) rfl rfl rfl hrun2 ?_
          refine hK.out _ _ trivial (fun _ => ?_)
          clear hK K
          try simp only [Act.put, List.setIfInBounds_toArray, List.set_cons_zero, List.set_cons_succ]
          refine takeD (i := 14) (d := some 43) (v := ?_) rfl rfl (by kernel_rfl) (by kernel_rfl) (by kernel_rfl) (fun _ _ _ h => h) (Or.inl ⟨by rfl, ?_⟩) trivial ?_
          rotate_left
          · intro w hSw
            go_simp
            try (with_reducible rfl)
          try simp only [Act.put, List.setIfInBounds_toArray, List.set_cons_zero, List.set_cons_succ]
          refine takeD (i := 15) (d := some 44) (v := ?_) rfl rfl (by kernel_rfl) (by kernel_rfl) (by kernel_rfl) (fun _ _ _ h => h) (Or.inl ⟨by rfl, ?_⟩) trivial ?_
          rotate_left
          · intro w hSw
            go_simp
            try (with_reducible rfl)
          try simp only [Act.put, List.setIfInBounds_toArray, List.set_cons_zero, List.set_cons_succ]
          refine wpAnyH_ready (rs := [16]) (by kernel_rfl) (by simp) ?_
          refine AllReadyH.cons rfl (fun K hK => ?_) AllReadyH.nil
          go_simp
          go_wp2_with fail
          refine hK.out _ _ trivial (fun _ => ?_)
          clear hK K
          try simp only [Act.put, List.setIfInBounds_toArray, List.set_cons_zero, List.set_cons_succ]
          refine wpAnyH_done (by kernel_rfl) ?_ _
          refine NoPanic.normal ?_
          clear y0 y1 y2 y3 y4 y5 d2 e2 e2b r2 f2 hrun hrun2
          generalize wr.setCell ⟨pb, 2, none⟩ (.slice ar (nw + 1) cr) = W5 at HSET ⊢
          go_wp2
          go_ret
          refine ⟨rfl, ?_⟩
          rw [HP2.out]
          exact ⟨_, _, _, _, _, _, _, _, _, HSET.out⟩
        · go_simp
          go_wp2_with fail
          refine hK.out _ _ trivial (fun _ => ?_)
          clear hK K
          try simp only [Act.put, List.setIfInBounds_toArray, List.set_cons_zero, List.set_cons_succ]
          refine wpAnyH_ready (rs := [4, 12]) (by kernel_rfl) (by simp) ?_
          refine AllReadyH.cons rfl (fun K hK => ?_) (AllReadyH.cons rfl (fun K hK => ?_) AllReadyH.nil)
          · go_simp
            go_wp2_with fail
            refine hK.out _ _ trivial (fun _ => ?_)
            clear hK K
            try simp only [Act.put, List.setIfInBounds_toArray, List.set_cons_zero, List.set_cons_succ]
            refine wpAnyH_ready (rs := [12]) (by kernel_rfl) (by simp) ?_
            refine AllReadyH.cons rfl (fun K hK => ?_) AllReadyH.nil
            go_simp
            go_wp2_with fail
            refine hK.out _ _ trivial (fun _ => ?_)
            clear hK K
            try simp only [Act.put, List.setIfInBounds_toArray, List.set_cons_zero, List.set_cons_succ]
            refine wpAnyH_ready (rs := [13]) (by kernel_rfl) (by simp) ?_
            refine AllReadyH.cons rfl (fun K hK => ?_) AllReadyH.nil
            first | refine wp_app53 (.tmp 33) (.tmp 41) rfl rfl rfl hrun ?_ | refine wp_app53 (.tmp 33) (.tmp 41) rfl rfl rfl hrun2 ?_
            refine hK.out _ _ trivial (fun _ => ?_)
            clear hK K
            try simp only [Act.put, List.setIfInBounds_toArray, List.set_cons_zero, List.set_cons_succ]
            refine takeD (i := 14) (d := some 43) (v := ?_) rfl rfl (by kernel_rfl) (by kernel_rfl) (by kernel_rfl) (fun _ _ _ h => h) (Or.inl ⟨by rfl, ?_⟩) trivial ?_
            rotate_left
            · intro w hSw
              go_simp
              try (with_reducible rfl)
            try simp only [Act.put, List.setIfInBounds_toArray, List.set_cons_zero, List.set_cons_succ]
            refine takeD (i := 15) (d := some 44) (v := ?_) rfl rfl (by kernel_rfl) (by kernel_rfl) (by kernel_rfl) (fun _ _ _ h => h) (Or.inl ⟨by rfl, ?_⟩) trivial ?_
            rotate_left
            · intro w hSw
              go_simp
              try (with_reducible rfl)
            try simp only [Act.put, List.setIfInBounds_toArray, List.set_cons_zero, List.set_cons_succ]
            refine wpAnyH_ready (rs := [16]) (by kernel_rfl) (by simp) ?_
            refine AllReadyH.cons rfl (fun K hK => ?_) AllReadyH.nil
            go_simp
            go_wp2_with fail
            refine hK.out _ _ trivial (fun _ => ?_)
            clear hK K
            try simp only [Act.put, List.setIfInBounds_toArray, List.set_cons_zero, List.set_cons_succ]
            refine wpAnyH_done (by kernel_rfl) ?_ _
            refine NoPanic.normal ?_
            clear y0 y1 y2 y3 y4 y5 d2 e2 e2b r2 f2 hrun hrun2
            generalize wr.setCell ⟨pb, 2, none⟩ (.slice ar (nw + 1) cr) = W5 at HSET ⊢
            go_wp2
            go_ret
            refine ⟨rfl, ?_⟩
            rw [HP2.out]
            exact ⟨_, _, _, _, _, _, _, _, _, HSET.out⟩
          · go_simp
            go_wp2_with fail
            refine hK.out _ _ trivial (fun _ => ?_)
            clear hK K
            try simp only [Act.put, List.setIfInBounds_toArray, List.set_cons_zero, List.set_cons_succ]
            refine wpAnyH_ready (rs := [4]) (by kernel_rfl) (by simp) ?_
            refine AllReadyH.cons rfl (fun K hK => ?_) AllReadyH.nil
            go_simp
            go_wp2_with fail
            refine hK.out _ _ trivial (fun _ => ?_)
            clear hK K
            try simp only [Act.put, List.setIfInBounds_toArray, List.set_cons_zero, List.set_cons_succ]
            refine wpAnyH_ready (rs := [13]) (by kernel_rfl) (by simp) ?_
            refine AllReadyH.cons rfl (fun K hK => ?_) AllReadyH.nil
            first | refine wp_app53 (.tmp 33) (.tmp 41) rfl rfl rfl hrun ?_ | refine wp_app53 (.tmp 33) (.tmp 41) rfl rfl rfl hrun2 ?_
            refine hK.out _ _ trivial (fun _ => ?_)
            clear hK K
            try simp only [Act.put, List.setIfInBounds_toArray, List.set_cons_zero, List.set_cons_succ]
            refine takeD (i := 14) (d := some 43) (v := ?_) rfl rfl (by kernel_rfl) (by kernel_rfl) (by kernel_rfl) (fun _ _ _ h => h) (Or.inl ⟨by rfl, ?_⟩) trivial ?_
            rotate_left
            · intro w hSw
              go_simp
              try (with_reducible rfl)
            try simp only [Act.put, List.setIfInBounds_toArray, List.set_cons_zero, List.set_cons_succ]
            refine takeD (i := 15) (d := some 44) (v := ?_) rfl rfl (by kernel_rfl) (by kernel_rfl) (by kernel_rfl) (fun _ _ _ h => h) (Or.inl ⟨by rfl, ?_⟩) trivial ?_
            rotate_left
            · intro w hSw
              go_simp
              try (with_reducible rfl)
            try simp only [Act.put, List.setIfInBounds_toArray, List.set_cons_zero, List.set_cons_succ]
            refine wpAnyH_ready (rs := [16]) (by kernel_rfl) (by simp) ?_
            refine AllReadyH.cons rfl (fun K hK => ?_) AllReadyH.nil
            go_simp
            go_wp2_with fail
            refine hK.out _ _ trivial (fun _ => ?_)
            clear hK K
            try simp only [Act.put, List.setIfInBounds_toArray, List.set_cons_zero, List.set_cons_succ]
            refine wpAnyH_done (by kernel_rfl) ?_ _
            refine NoPanic.normal ?_
            clear y0 y1 y2 y3 y4 y5 d2 e2 e2b r2 f2 hrun hrun2
            generalize wr.setCell ⟨pb, 2, none⟩ (.slice ar (nw + 1) cr) = W5 at HSET ⊢
            go_wp2
            go_ret
            refine ⟨rfl, ?_⟩
            rw [HP2.out]
            exact ⟨_, _, _, _, _, _, _, _, _, HSET.out⟩
end linkBrings
end Go.Proofs.Ytofigofaiadffaa
