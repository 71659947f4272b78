/- LinkBrings: a side's frames go out. -/
import Derived.Test.YtofigofaiadffaaBrT
namespace Go.Proofs.Ytofigofaiadffaa
namespace linkBrings
open Go.RowKit Go.ChangeShapes Go.WideShapes Go.ChangeAt Go.Deep

set_option linter.unusedSimpArgs false in
set_option maxRecDepth 100000 in
set_option maxHeartbeats 8000000 in
theorem turn_outA (w0 w : World) (pb ga gb : Nat) (p : Pr) (wy K : Int) (a : Option Addr) (n c : Nat) (x : List Nat) (h : PairM w0 w pb ga gb p) (hbd : Bd p) (hA : ArgT w0 w ⟨a, n, c, x⟩) (hK : I64 K) (hwy : wy = 2) :
    Calls Try.prog 24 #[.pointer (some ⟨pb, 0, none⟩), .agg #[.int .i64 wy, .int .i64 K, .slice a n c]] w fun e w' => e = .returned (.bool true) ∧ PairM w0 w' pb ga gb (outA p) := by
  obtain ⟨hl, hB, hcap, hnil, hr⟩ := hA.1
  simp only at hl hB hcap hnil hr
  have hbn := below_new w (.cells #[.int .i64 wy, .int .i64 K, .slice a n c] 68)
  have hbx := BoxL.new w [.int .i64 wy, .int .i64 K, .slice a n c] 68
  obtain ⟨V, hV⟩ : ∃ V, V = w.alloc (.cells #[.int .i64 wy, .int .i64 K, .slice a n c] 68) := ⟨_, rfl⟩
  have HBX := hide (show BoxL V w.heap.size [.int .i64 wy, .int .i64 K, .slice a n c] by rw [hV]; exact hbx)
  have HTB := hide (show V.heap[w.heap.size]? = some (.cells #[.int .i64 wy, .int .i64 K, .slice a n c] 68) by rw [hV]; show (w.heap.push _)[w.heap.size]? = _; simp)
  rw [← hV] at hbn
  have HBN := hide hbn
  have HV := hide hV
  obtain ⟨D1, D2, aw, cw, l, t0, t1, u0, u1, hS0⟩ := h
  have hpbw := hS0.box.1
  have hS := hS0.below hbn
  have HS := hide hS
  have HA := hide (hA.keep (w' := V) fun k hk => hbn.block k (by have := hS0.bel.size; omega))
  obtain ⟨b0, b1, b2⟩ := HBX.out.c3
  obtain ⟨c0, c1, c2, c3, c4, c5, c6, c7, hfz⟩ := hS.cells
  obtain ⟨kk, hkk⟩ : ∃ kk : Nat, kk = (if K < 0 then -(K + 1) else K).toNat := ⟨_, rfl⟩
  obtain ⟨nw, hnw⟩ : ∃ nw, nw = p.way.length := ⟨_, rfl⟩
  obtain ⟨tm, htm⟩ : ∃ tm, tm = p.now := ⟨_, rfl⟩
  have HNW := hide hnw
  have HTM := hide htm
  rw [← hnw] at c2
  rw [← htm] at c3
  obtain ⟨k2, hk2⟩ : ∃ k2 : Nat, k2 = if 0 < nw then kk % nw else kk := ⟨_, rfl⟩
  have HK2 := hide (show 0 < nw → k2 = kOf K nw from fun h0 => by rw [hk2, if_pos h0, hkk]; rfl)
  have HK2' := hide hk2
  have hnb : nw ≤ 400000 := by rw [hnw]; exact hbd.way
  have htb : tm ≤ 1000000 := by rw [htm]; exact hbd.now
  have HBD := hide hbd
  have HPB := hide hpbw
  have hkkb : kk ≤ 9223372036854775807 := by unfold I64 at hK; rw [hkk]; split <;> omega
  have HKK := hide hkk
  have hKn : K < 0 → -(K + 1) = (kk : Int) := fun h0 => by rw [hkk, if_pos h0]; omega
  have hKp : ¬ K < 0 → K = (kk : Int) := fun h0 => by rw [hkk, if_neg h0]; omega
  have HKn := hide hKn
  have HKp := hide hKp
  unfold I64 at hK
  obtain ⟨hK1, hK2⟩ := hK
  clear hbn hbx hV hS hS0 hkk hnw htm hk2 hr hA hl hB hnil hcap hbd hpbw hKn hKp
  have w0q : (wy == 0) = false := by rw [hwy]; rfl
  have w1q : (wy == 1) = false := by rw [hwy]; rfl
  have w2q : (wy == 2) = true := by rw [hwy]; rfl
  have C15 := hide (out_any D1 ga p.a (tm : Int) V.drew (HS.out.la.keep (Nat.le_refl _) (fun _ _ => rfl)) (by have := HBD.out.ua; omega) (by unfold I64; omega))
  unfold OutQ at C15
  have HGA := hide (HS.out.la.lt _ HS.out.la.dg)
  have HGBB := hide (HS.out.lb.lt _ HS.out.lb.dg)
  have HGP := hide HS.out.box.1
  have hcast : ((tm + 1 : Nat) : Int) = (tm : Int) + 1 := by omega
  have HCA := hide hcast
  have cd2 : V.drew.cell? ⟨pb, 2, none⟩ = some (.slice aw nw cw) := c2
  clear hwy hcast
  go_enter Try.func24, Try.ntmps24
  go_upto_region 1 with fail
  rw [← HV.out]
  go_upto_if 12 with fail
  go_cut [5] from 11 to 16 (fun v wc => V = wc ∧ v = .int .i64 (kk : Int))
  case first =>
    by_cases hneg : K < 0
    · have hq := HKn.out hneg
      go_wp2
      go_meet
      exact ⟨rfl, rfl⟩
    · have HQ := hide (HKp.out hneg)
      go_wp2
      go_meet
      exact ⟨rfl, by rw [← HQ.out]⟩
  case rest =>
    obtain ⟨rfl, rfl⟩ := hcut
    go_upto_if 21 with fail
    go_cut [5] from 16 to 29 (fun v wc => V = wc ∧ v = .int .i64 (k2 : Int))
    case first =>
      by_cases h0 : 0 < nw
      · have hm : (kk : Int).tmod (nw : Int) = (k2 : Int) := by
          have := HK2'.out
          rw [if_pos h0] at this
          rw [Int.tmod_eq_emod_of_nonneg (by omega), this]
          simp
        have hn0 : (nw : Int) ≠ 0 := by omega
        have h0i : (0 : Int) < (nw : Int) := by omega
        go_wp2
        go_meet
        exact ⟨rfl, rfl⟩
      · have h0i : ¬ (0 : Int) < (nw : Int) := by omega
        have hm : kk = k2 := by
          have := HK2'.out
          rw [if_neg h0] at this
          exact this.symm
        have HM := hide hm
        clear hm
        go_wp2
        go_meet
        exact ⟨rfl, by rw [HM.out]⟩
    case rest =>
      obtain ⟨rfl, rfl⟩ := hcut
      go_upto_region 14 with fail
      refine wp_region_noPanic ?_
      refine wp_region_held_drew (S := fun W => W.cell? ⟨pb, 0, none⟩ = some (.pointer (some ⟨ga, 0, none⟩)) ∧ W.cell? ⟨pb, 3, none⟩ = some (.int .i64 (tm : Int))) (by kernel_rfl) (by first | exact ⟨c0, c3⟩ | exact ⟨z0, z3⟩ | exact ⟨y0, y3⟩ | exact ⟨x0 _, x3 _⟩) (fun hHeld => ?_)
      refine takeD (i := 0) (d := some 105) (v := ?_) rfl rfl (by kernel_rfl) (by kernel_rfl) (by kernel_rfl) (fun _ _ _ h => h) (Or.inl ⟨by rfl, ?_⟩) (by assumption) ?_
      rotate_left
      · intro w hSw
        go_simp
        try (with_reducible rfl)
      try simp only [Act.put, List.setIfInBounds_toArray, List.set_cons_zero, List.set_cons_succ]
      refine takeD (i := 1) (d := some 106) (v := ?_) rfl rfl (by kernel_rfl) (by kernel_rfl) (by kernel_rfl) (fun _ _ _ h => h) (Or.inl ⟨by rfl, ?_⟩) (by assumption) ?_
      rotate_left
      · intro w hSw
        go_simp
        try (with_reducible rfl)
      try simp only [Act.put, List.setIfInBounds_toArray, List.set_cons_zero, List.set_cons_succ]
      refine takeD (i := 2) (d := some 107) (v := ?_) rfl rfl (by kernel_rfl) (by kernel_rfl) (by kernel_rfl) (fun _ _ _ h => h) (Or.inl ⟨by rfl, ?_⟩) (by assumption) ?_
      rotate_left
      · intro w hSw
        go_simp
        try (with_reducible rfl)
      try simp only [Act.put, List.setIfInBounds_toArray, List.set_cons_zero, List.set_cons_succ]
      refine takeD (i := 3) (d := some 108) (v := ?_) rfl rfl (by kernel_rfl) (by kernel_rfl) (by kernel_rfl) (fun _ _ _ h => h) (Or.inl ⟨by rfl, ?_⟩) (by assumption) ?_
      rotate_left
      · intro w hSw
        go_simp
        try (with_reducible rfl)
      try simp only [Act.put, List.setIfInBounds_toArray, List.set_cons_zero, List.set_cons_succ]
      refine takeD (i := 5) (d := some 110) (v := ?_) rfl rfl (by kernel_rfl) (by kernel_rfl) (by kernel_rfl) (fun _ _ _ h => h) (Or.inl ⟨by rfl, ?_⟩) (by assumption) ?_
      rotate_left
      · intro w hSw
        go_simp
        try (with_reducible rfl)
      try simp only [Act.put, List.setIfInBounds_toArray, List.set_cons_zero, List.set_cons_succ]
      refine takeD (i := 6) (d := some 111) (v := ?_) rfl rfl (by kernel_rfl) (by kernel_rfl) (by kernel_rfl) (fun _ _ _ h => h) (Or.inl ⟨by rfl, ?_⟩) (by assumption) ?_
      rotate_left
      · intro w hSw
        go_simp
        try (with_reducible rfl)
      try simp only [Act.put, List.setIfInBounds_toArray, List.set_cons_zero, List.set_cons_succ]
      refine takeD (i := 7) (d := some 112) (v := ?_) rfl rfl (by kernel_rfl) (by kernel_rfl) (by kernel_rfl) (fun _ _ _ h => h) (Or.inl ⟨by rfl, ?_⟩) (by assumption) ?_
      rotate_left
      · intro w hSw
        go_simp
        try (with_reducible rfl)
      try simp only [Act.put, List.setIfInBounds_toArray, List.set_cons_zero, List.set_cons_succ]
      refine takeD (i := 8) (d := some 113) (v := ?_) rfl rfl (by kernel_rfl) (by kernel_rfl) (by kernel_rfl) (fun _ _ _ h => h) (Or.inl ⟨by rfl, ?_⟩) (by assumption) ?_
      rotate_left
      · intro w hSw
        go_simp
        try (with_reducible rfl)
      try simp only [Act.put, List.setIfInBounds_toArray, List.set_cons_zero, List.set_cons_succ]
      refine takeD (i := 9) (d := some 114) (v := ?_) rfl rfl (by kernel_rfl) (by kernel_rfl) (by kernel_rfl) (fun _ _ _ h => h) (Or.inl ⟨by rfl, ?_⟩) (by assumption) ?_
      rotate_left
      · intro w hSw
        go_simp
        try (with_reducible rfl)
      try simp only [Act.put, List.setIfInBounds_toArray, List.set_cons_zero, List.set_cons_succ]
      refine takeD (i := 10) (d := some 115) (v := ?_) rfl rfl (by kernel_rfl) (by kernel_rfl) (by kernel_rfl) (fun _ _ _ h => h) (Or.inl ⟨by rfl, ?_⟩) (by assumption) ?_
      rotate_left
      · intro w hSw
        go_simp
        try (with_reducible rfl)
      try simp only [Act.put, List.setIfInBounds_toArray, List.set_cons_zero, List.set_cons_succ]
      refine takeD (i := 11) (d := some 116) (v := ?_) rfl rfl (by kernel_rfl) (by kernel_rfl) (by kernel_rfl) (fun _ _ _ h => h) (Or.inl ⟨by rfl, ?_⟩) (by assumption) ?_
      rotate_left
      · intro w hSw
        go_simp
        try (with_reducible rfl)
      try simp only [Act.put, List.setIfInBounds_toArray, List.set_cons_zero, List.set_cons_succ]
      refine takeD (i := 12) (d := some 117) (v := ?_) rfl rfl (by kernel_rfl) (by kernel_rfl) (by kernel_rfl) (fun _ _ _ h => h) (Or.inl ⟨by rfl, ?_⟩) (by assumption) ?_
      rotate_left
      · intro w hSw
        go_simp
        try (with_reducible rfl)
      try simp only [Act.put, List.setIfInBounds_toArray, List.set_cons_zero, List.set_cons_succ]
      refine wpAnyH_ready (rs := [4, 13]) (by kernel_rfl) (by simp) ?_
      refine AllReadyH.cons rfl (fun K hK => ?_) (AllReadyH.cons rfl (fun K hK => ?_) AllReadyH.nil)
      · skip
        go_simp
        go_wp2_with fail
        refine hK.out _ _ (by first | exact ⟨c0, c3⟩ | exact ⟨z0, z3⟩ | exact ⟨y0, y3⟩ | exact ⟨x0 _, x3 _⟩) (fun hHeld => ?_)
        clear hK K
        try simp only [Act.put, List.setIfInBounds_toArray, List.set_cons_zero, List.set_cons_succ]
        refine wpAnyH_ready (rs := [13]) (by kernel_rfl) (by simp) ?_
        refine AllReadyH.cons rfl (fun K hK => ?_) AllReadyH.nil
        go_simp
        (with_reducible refine C15.out.mono ?_)
        rintro e w3 ⟨a3, n3, v3, l3, rfl, hR3, hl3, hP3, hK3⟩
        have HS3 := hide (HS.out.linkA (s' := outL p.a (tm : Int)) (hP3.mono (fun k hk => .inl hk) (fun k hk => hk.elim (hP3.lt k) fun q => q.2)) hK3.undrew)
        have z0 := HS3.out.cells.1
        have z3 : w3.cell? ⟨pb, 3, none⟩ = some (.int .i64 (tm : Int)) := by rw [HTM.out]; exact HS3.out.cells.2.2.2.1
        have z2 : w3.cell? ⟨pb, 2, none⟩ = some (.slice aw nw cw) := by rw [HNW.out]; exact HS3.out.cells.2.2.1
        have hwo : w3.ownsRow w0.heap.size 34 6 (.slice aw nw cw) nw (fV l) := by rw [HNW.out]; exact HS3.out.wo
        have hl9 : l3.length ≤ 9 := by
          have h1 := congrArg List.length hl3
          rw [List.length_map] at h1
          have h2 := outP_len p.a (tm : Int)
          have h3 : p.a.op.length ≤ 8 := by obtain ⟨m, _, _, hr⟩ := HS.out.la; exact hr.len
          unfold outF at h1
          rw [List.length_map] at h1
          omega
        obtain ⟨ar, cr, wr, hrun, hor, hgr, hwr⟩ := app34 w3 w0.heap.size aw nw cw l hwo a3 n3 v3 l3 (own_reads hR3.2.1).2 hR3.1 (own_reads hR3.2.1).1 (by have := hR3.1; omega) HS3.out.bel.size 53
        have hgr2 : w3.grownBy wr (Value.slice aw p.way.length cw).ownBlock := by rw [← HNW.out]; exact hgr
        have hTn : ∀ t : Fm, t ∈ l3 → TxO (Fb pb ga gb) w3 t.t := fun t ht => (hR3.2.2 t ht).mono fun k hk => ⟨by have := HGA.out; have h5 : V.heap.size ≤ k := hk.1; omega, by have := HGBB.out; have h5 : V.heap.size ≤ k := hk.1; omega, by have := HGP.out; have h5 : V.heap.size ≤ k := hk.1; omega⟩
        have HSET := hide (HS3.out.setWay (l' := l ++ l3) (n' := nw + n3) hgr2 (by rw [List.length_append, hR3.1]; have h1 := congrArg List.length HS3.out.wp; rw [List.length_map] at h1; rw [h1, HNW.out]) hor hwr (fun t ht => by
          have hk0 : ∀ q : Txt, TxO (Fb pb ga gb) w3 q → TxO (Fb pb ga gb) wr q := fun q hq => hq.keep fun ad e => grown_keep hgr (hq.lt ad e) (fun ad2 e2 => (own_apart hq.2.1 hwo (by decide) ad ad2 e e2).symm)
          rw [List.mem_append] at ht
          rcases ht with ht | ht
          · exact hk0 _ (HS3.out.wl t ht)
          · exact hk0 _ (hTn t ht)))
        have hpk : wr.heap[pb]? = w3.heap[pb]? := grown_keep hgr HS3.out.box.1 (fun ad e => (HS3.out.wn ad e).2.2)
        have y0 : wr.cell? ⟨pb, 0, none⟩ = some (.pointer (some ⟨ga, 0, none⟩)) := by rw [World.cell?_of_block (w := w3) (a := ⟨pb, 0, none⟩) hpk]; exact z0
        have y3 : wr.cell? ⟨pb, 3, none⟩ = some (.int .i64 (tm : Int)) := by rw [World.cell?_of_block (w := w3) (a := ⟨pb, 3, none⟩) hpk]; exact z3
        have y2 : wr.cell? ⟨pb, 2, none⟩ = some (.slice aw nw cw) := by rw [World.cell?_of_block (w := w3) (a := ⟨pb, 2, none⟩) hpk]; exact z2
        have g2 : wr.frozen? ⟨pb, 2, none⟩ = false := by rw [World.frozen?_of_block (w := w3) (a := ⟨pb, 2, none⟩) hpk]; exact HS3.out.cells.2.2.2.2.2.2.2.2 2 (by omega)
        have x0 : ∀ v, (wr.setCell ⟨pb, 2, none⟩ v).cell? ⟨pb, 0, none⟩ = some (.pointer (some ⟨ga, 0, none⟩)) := fun v => by rw [cset (by omega)]; exact y0
        have x3 : ∀ v, (wr.setCell ⟨pb, 2, none⟩ v).cell? ⟨pb, 3, none⟩ = some (.int .i64 (tm : Int)) := fun v => by rw [cset (by omega)]; exact y3
        have HWL := hide (show (l ++ l3).map Fm.p = p.way ++ outF p.a (tm : Int) from by rw [List.map_append, hl3]; congr 1; exact HS.out.wp)
        clear hR3 hl3 hP3 hK3 hwo hor hgr hgr2 hwr hTn hpk hl9
        go_wp2_with fail
        refine hK.out _ _ (by first | exact ⟨c0, c3⟩ | exact ⟨z0, z3⟩ | exact ⟨y0, y3⟩ | exact ⟨x0 _, x3 _⟩) (fun hHeld => ?_)
        clear hK K
        try simp only [Act.put, List.setIfInBounds_toArray, List.set_cons_zero, List.set_cons_succ]
        refine wpAnyH_ready (rs := [14]) (by kernel_rfl) (by simp) ?_
        refine AllReadyH.cons rfl (fun K hK => ?_) AllReadyH.nil
        refine wp_app53 (.tmp 109) (.tmp 118) rfl rfl rfl hrun ?_
        refine hK.out _ _ (by first | exact ⟨c0, c3⟩ | exact ⟨z0, z3⟩ | exact ⟨y0, y3⟩ | exact ⟨x0 _, x3 _⟩) (fun hHeld => ?_)
        clear hK K
        try simp only [Act.put, List.setIfInBounds_toArray, List.set_cons_zero, List.set_cons_succ]
        refine takeD (i := 15) (d := some 120) (v := ?_) rfl rfl (by kernel_rfl) (by kernel_rfl) (by kernel_rfl) (fun _ _ _ h => h) (Or.inl ⟨by rfl, ?_⟩) (by assumption) ?_
        rotate_left
        · intro w hSw
          go_simp
          try (with_reducible rfl)
        try simp only [Act.put, List.setIfInBounds_toArray, List.set_cons_zero, List.set_cons_succ]
        refine takeD (i := 16) (d := some 121) (v := ?_) rfl rfl (by kernel_rfl) (by kernel_rfl) (by kernel_rfl) (fun _ _ _ h => h) (Or.inl ⟨by rfl, ?_⟩) (by assumption) ?_
        rotate_left
        · intro w hSw
          go_simp
          try (with_reducible rfl)
        try simp only [Act.put, List.setIfInBounds_toArray, List.set_cons_zero, List.set_cons_succ]
        refine wpAnyH_ready (rs := [17]) (by kernel_rfl) (by simp) ?_
        refine AllReadyH.cons rfl (fun K hK => ?_) AllReadyH.nil
        go_simp
        go_wp2_with fail
        refine hK.out _ _ (by first | exact ⟨c0, c3⟩ | exact ⟨z0, z3⟩ | exact ⟨y0, y3⟩ | exact ⟨x0 _, x3 _⟩) (fun hHeld => ?_)
        clear hK K
        try simp only [Act.put, List.setIfInBounds_toArray, List.set_cons_zero, List.set_cons_succ]
        refine wpAnyH_done (by kernel_rfl) ?_ _
        refine NoPanic.normal ?_
        clear hHeld z0 z3 z2 y0 y3 y2 g2 c0 c1 c2 c3 c4 c5 c6 c7 cd2 x0 x3 hrun
        generalize wr.setCell ⟨pb, 2, none⟩ (.slice ar (nw + n3) cr) = W5 at HSET ⊢
        have n3c : W5.cell? ⟨pb, 3, none⟩ = some (.int .i64 (tm : Int)) := by rw [HTM.out]; exact HSET.out.cells.2.2.2.1
        have n3f : W5.frozen? ⟨pb, 3, none⟩ = false := HSET.out.cells.2.2.2.2.2.2.2.2 3 (by omega)
        have HN := hide (HSET.out.setNow (tm + 1))
        rw [HCA.out] at HN
        go_wp2
        go_ret
        refine ⟨rfl, ?_⟩
        have e : outA p = { p with a := outL p.a (tm : Int), way := (l ++ l3).map Fm.p, now := tm + 1 } := by unfold outA; rw [← HTM.out, HWL.out]
        rw [e]
        exact ⟨_, _, _, _, _, _, _, _, _, HN.out⟩
      · skip
        go_simp
        (with_reducible refine C15.out.mono ?_)
        rintro e w3 ⟨a3, n3, v3, l3, rfl, hR3, hl3, hP3, hK3⟩
        have HS3 := hide (HS.out.linkA (s' := outL p.a (tm : Int)) (hP3.mono (fun k hk => .inl hk) (fun k hk => hk.elim (hP3.lt k) fun q => q.2)) hK3.undrew)
        have z0 := HS3.out.cells.1
        have z3 : w3.cell? ⟨pb, 3, none⟩ = some (.int .i64 (tm : Int)) := by rw [HTM.out]; exact HS3.out.cells.2.2.2.1
        have z2 : w3.cell? ⟨pb, 2, none⟩ = some (.slice aw nw cw) := by rw [HNW.out]; exact HS3.out.cells.2.2.1
        have hwo : w3.ownsRow w0.heap.size 34 6 (.slice aw nw cw) nw (fV l) := by rw [HNW.out]; exact HS3.out.wo
        have hl9 : l3.length ≤ 9 := by
          have h1 := congrArg List.length hl3
          rw [List.length_map] at h1
          have h2 := outP_len p.a (tm : Int)
          have h3 : p.a.op.length ≤ 8 := by obtain ⟨m, _, _, hr⟩ := HS.out.la; exact hr.len
          unfold outF at h1
          rw [List.length_map] at h1
          omega
        obtain ⟨ar, cr, wr, hrun, hor, hgr, hwr⟩ := app34 w3 w0.heap.size aw nw cw l hwo a3 n3 v3 l3 (own_reads hR3.2.1).2 hR3.1 (own_reads hR3.2.1).1 (by have := hR3.1; omega) HS3.out.bel.size 53
        have hgr2 : w3.grownBy wr (Value.slice aw p.way.length cw).ownBlock := by rw [← HNW.out]; exact hgr
        have hTn : ∀ t : Fm, t ∈ l3 → TxO (Fb pb ga gb) w3 t.t := fun t ht => (hR3.2.2 t ht).mono fun k hk => ⟨by have := HGA.out; have h5 : V.heap.size ≤ k := hk.1; omega, by have := HGBB.out; have h5 : V.heap.size ≤ k := hk.1; omega, by have := HGP.out; have h5 : V.heap.size ≤ k := hk.1; omega⟩
        have HSET := hide (HS3.out.setWay (l' := l ++ l3) (n' := nw + n3) hgr2 (by rw [List.length_append, hR3.1]; have h1 := congrArg List.length HS3.out.wp; rw [List.length_map] at h1; rw [h1, HNW.out]) hor hwr (fun t ht => by
          have hk0 : ∀ q : Txt, TxO (Fb pb ga gb) w3 q → TxO (Fb pb ga gb) wr q := fun q hq => hq.keep fun ad e => grown_keep hgr (hq.lt ad e) (fun ad2 e2 => (own_apart hq.2.1 hwo (by decide) ad ad2 e e2).symm)
          rw [List.mem_append] at ht
          rcases ht with ht | ht
          · exact hk0 _ (HS3.out.wl t ht)
          · exact hk0 _ (hTn t ht)))
        have hpk : wr.heap[pb]? = w3.heap[pb]? := grown_keep hgr HS3.out.box.1 (fun ad e => (HS3.out.wn ad e).2.2)
        have y0 : wr.cell? ⟨pb, 0, none⟩ = some (.pointer (some ⟨ga, 0, none⟩)) := by rw [World.cell?_of_block (w := w3) (a := ⟨pb, 0, none⟩) hpk]; exact z0
        have y3 : wr.cell? ⟨pb, 3, none⟩ = some (.int .i64 (tm : Int)) := by rw [World.cell?_of_block (w := w3) (a := ⟨pb, 3, none⟩) hpk]; exact z3
        have y2 : wr.cell? ⟨pb, 2, none⟩ = some (.slice aw nw cw) := by rw [World.cell?_of_block (w := w3) (a := ⟨pb, 2, none⟩) hpk]; exact z2
        have g2 : wr.frozen? ⟨pb, 2, none⟩ = false := by rw [World.frozen?_of_block (w := w3) (a := ⟨pb, 2, none⟩) hpk]; exact HS3.out.cells.2.2.2.2.2.2.2.2 2 (by omega)
        have x0 : ∀ v, (wr.setCell ⟨pb, 2, none⟩ v).cell? ⟨pb, 0, none⟩ = some (.pointer (some ⟨ga, 0, none⟩)) := fun v => by rw [cset (by omega)]; exact y0
        have x3 : ∀ v, (wr.setCell ⟨pb, 2, none⟩ v).cell? ⟨pb, 3, none⟩ = some (.int .i64 (tm : Int)) := fun v => by rw [cset (by omega)]; exact y3
        have HWL := hide (show (l ++ l3).map Fm.p = p.way ++ outF p.a (tm : Int) from by rw [List.map_append, hl3]; congr 1; exact HS.out.wp)
        clear hR3 hl3 hP3 hK3 hwo hor hgr hgr2 hwr hTn hpk hl9
        go_wp2_with fail
        refine hK.out _ _ (by first | exact ⟨c0, c3⟩ | exact ⟨z0, z3⟩ | exact ⟨y0, y3⟩ | exact ⟨x0 _, x3 _⟩) (fun hHeld => ?_)
        clear hK K
        try simp only [Act.put, List.setIfInBounds_toArray, List.set_cons_zero, List.set_cons_succ]
        refine wpAnyH_ready (rs := [4]) (by kernel_rfl) (by simp) ?_
        refine AllReadyH.cons rfl (fun K hK => ?_) AllReadyH.nil
        go_simp
        go_wp2_with fail
        refine hK.out _ _ (by first | exact ⟨c0, c3⟩ | exact ⟨z0, z3⟩ | exact ⟨y0, y3⟩ | exact ⟨x0 _, x3 _⟩) (fun hHeld => ?_)
        clear hK K
        try simp only [Act.put, List.setIfInBounds_toArray, List.set_cons_zero, List.set_cons_succ]
        refine wpAnyH_ready (rs := [14]) (by kernel_rfl) (by simp) ?_
        refine AllReadyH.cons rfl (fun K hK => ?_) AllReadyH.nil
        refine wp_app53 (.tmp 109) (.tmp 118) rfl rfl rfl hrun ?_
        refine hK.out _ _ (by first | exact ⟨c0, c3⟩ | exact ⟨z0, z3⟩ | exact ⟨y0, y3⟩ | exact ⟨x0 _, x3 _⟩) (fun hHeld => ?_)
        clear hK K
        try simp only [Act.put, List.setIfInBounds_toArray, List.set_cons_zero, List.set_cons_succ]
        refine takeD (i := 15) (d := some 120) (v := ?_) rfl rfl (by kernel_rfl) (by kernel_rfl) (by kernel_rfl) (fun _ _ _ h => h) (Or.inl ⟨by rfl, ?_⟩) (by assumption) ?_
        rotate_left
        · intro w hSw
          go_simp
          try (with_reducible rfl)
        try simp only [Act.put, List.setIfInBounds_toArray, List.set_cons_zero, List.set_cons_succ]
        refine takeD (i := 16) (d := some 121) (v := ?_) rfl rfl (by kernel_rfl) (by kernel_rfl) (by kernel_rfl) (fun _ _ _ h => h) (Or.inl ⟨by rfl, ?_⟩) (by assumption) ?_
        rotate_left
        · intro w hSw
          go_simp
          try (with_reducible rfl)
        try simp only [Act.put, List.setIfInBounds_toArray, List.set_cons_zero, List.set_cons_succ]
        refine wpAnyH_ready (rs := [17]) (by kernel_rfl) (by simp) ?_
        refine AllReadyH.cons rfl (fun K hK => ?_) AllReadyH.nil
        go_simp
        go_wp2_with fail
        refine hK.out _ _ (by first | exact ⟨c0, c3⟩ | exact ⟨z0, z3⟩ | exact ⟨y0, y3⟩ | exact ⟨x0 _, x3 _⟩) (fun hHeld => ?_)
        clear hK K
        try simp only [Act.put, List.setIfInBounds_toArray, List.set_cons_zero, List.set_cons_succ]
        refine wpAnyH_done (by kernel_rfl) ?_ _
        refine NoPanic.normal ?_
        clear hHeld z0 z3 z2 y0 y3 y2 g2 c0 c1 c2 c3 c4 c5 c6 c7 cd2 x0 x3 hrun
        generalize wr.setCell ⟨pb, 2, none⟩ (.slice ar (nw + n3) cr) = W5 at HSET ⊢
        have n3c : W5.cell? ⟨pb, 3, none⟩ = some (.int .i64 (tm : Int)) := by rw [HTM.out]; exact HSET.out.cells.2.2.2.1
        have n3f : W5.frozen? ⟨pb, 3, none⟩ = false := HSET.out.cells.2.2.2.2.2.2.2.2 3 (by omega)
        have HN := hide (HSET.out.setNow (tm + 1))
        rw [HCA.out] at HN
        go_wp2
        go_ret
        refine ⟨rfl, ?_⟩
        have e : outA p = { p with a := outL p.a (tm : Int), way := (l ++ l3).map Fm.p, now := tm + 1 } := by unfold outA; rw [← HTM.out, HWL.out]
        rw [e]
        exact ⟨_, _, _, _, _, _, _, _, _, HN.out⟩
set_option linter.unusedSimpArgs false in
set_option maxRecDepth 100000 in
set_option maxHeartbeats 8000000 in
theorem turn_outB (w0 w : World) (pb ga gb : Nat) (p : Pr) (wy K : Int) (a : Option Addr) (n c : Nat) (x : List Nat) (h : PairM w0 w pb ga gb p) (hbd : Bd p) (hA : ArgT w0 w ⟨a, n, c, x⟩) (hK : I64 K) (hwy : wy = 3) :
    Calls Try.prog 24 #[.pointer (some ⟨pb, 0, none⟩), .agg #[.int .i64 wy, .int .i64 K, .slice a n c]] w fun e w' => e = .returned (.bool true) ∧ PairM w0 w' pb ga gb (outB p) := by
  obtain ⟨hl, hB, hcap, hnil, hr⟩ := hA.1
  simp only at hl hB hcap hnil hr
  have hbn := below_new w (.cells #[.int .i64 wy, .int .i64 K, .slice a n c] 68)
  have hbx := BoxL.new w [.int .i64 wy, .int .i64 K, .slice a n c] 68
  obtain ⟨V, hV⟩ : ∃ V, V = w.alloc (.cells #[.int .i64 wy, .int .i64 K, .slice a n c] 68) := ⟨_, rfl⟩
  have HBX := hide (show BoxL V w.heap.size [.int .i64 wy, .int .i64 K, .slice a n c] by rw [hV]; exact hbx)
  have HTB := hide (show V.heap[w.heap.size]? = some (.cells #[.int .i64 wy, .int .i64 K, .slice a n c] 68) by rw [hV]; show (w.heap.push _)[w.heap.size]? = _; simp)
  rw [← hV] at hbn
  have HBN := hide hbn
  have HV := hide hV
  obtain ⟨D1, D2, aw, cw, l, t0, t1, u0, u1, hS0⟩ := h
  have hpbw := hS0.box.1
  have hS := hS0.below hbn
  have HS := hide hS
  have HA := hide (hA.keep (w' := V) fun k hk => hbn.block k (by have := hS0.bel.size; omega))
  obtain ⟨b0, b1, b2⟩ := HBX.out.c3
  obtain ⟨c0, c1, c2, c3, c4, c5, c6, c7, hfz⟩ := hS.cells
  obtain ⟨kk, hkk⟩ : ∃ kk : Nat, kk = (if K < 0 then -(K + 1) else K).toNat := ⟨_, rfl⟩
  obtain ⟨nw, hnw⟩ : ∃ nw, nw = p.way.length := ⟨_, rfl⟩
  obtain ⟨tm, htm⟩ : ∃ tm, tm = p.now := ⟨_, rfl⟩
  have HNW := hide hnw
  have HTM := hide htm
  rw [← hnw] at c2
  rw [← htm] at c3
  obtain ⟨k2, hk2⟩ : ∃ k2 : Nat, k2 = if 0 < nw then kk % nw else kk := ⟨_, rfl⟩
  have HK2 := hide (show 0 < nw → k2 = kOf K nw from fun h0 => by rw [hk2, if_pos h0, hkk]; rfl)
  have HK2' := hide hk2
  have hnb : nw ≤ 400000 := by rw [hnw]; exact hbd.way
  have htb : tm ≤ 1000000 := by rw [htm]; exact hbd.now
  have HBD := hide hbd
  have HPB := hide hpbw
  have hkkb : kk ≤ 9223372036854775807 := by unfold I64 at hK; rw [hkk]; split <;> omega
  have HKK := hide hkk
  have hKn : K < 0 → -(K + 1) = (kk : Int) := fun h0 => by rw [hkk, if_pos h0]; omega
  have hKp : ¬ K < 0 → K = (kk : Int) := fun h0 => by rw [hkk, if_neg h0]; omega
  have HKn := hide hKn
  have HKp := hide hKp
  unfold I64 at hK
  obtain ⟨hK1, hK2⟩ := hK
  clear hbn hbx hV hS hS0 hkk hnw htm hk2 hr hA hl hB hnil hcap hbd hpbw hKn hKp
  have w0q : (wy == 0) = false := by rw [hwy]; rfl
  have w1q : (wy == 1) = false := by rw [hwy]; rfl
  have w2q : (wy == 2) = false := by rw [hwy]; rfl
  have w3q : (wy == 3) = true := by rw [hwy]; rfl
  have C15 := hide (out_any D2 gb p.b (tm : Int) V.drew (HS.out.lb.keep (Nat.le_refl _) (fun _ _ => rfl)) (by have := HBD.out.ub; omega) (by unfold I64; omega))
  unfold OutQ at C15
  have HGA := hide (HS.out.la.lt _ HS.out.la.dg)
  have HGBB := hide (HS.out.lb.lt _ HS.out.lb.dg)
  have HGP := hide HS.out.box.1
  have hcast : ((tm + 1 : Nat) : Int) = (tm : Int) + 1 := by omega
  have HCA := hide hcast
  have cd2 : V.drew.cell? ⟨pb, 2, none⟩ = some (.slice aw nw cw) := c2
  clear hwy hcast
  go_enter Try.func24, Try.ntmps24
  go_upto_region 1 with fail
  rw [← HV.out]
  go_upto_if 12 with fail
  go_cut [5] from 11 to 16 (fun v wc => V = wc ∧ v = .int .i64 (kk : Int))
  case first =>
    by_cases hneg : K < 0
    · have hq := HKn.out hneg
      go_wp2
      go_meet
      exact ⟨rfl, rfl⟩
    · have HQ := hide (HKp.out hneg)
      go_wp2
      go_meet
      exact ⟨rfl, by rw [← HQ.out]⟩
  case rest =>
    obtain ⟨rfl, rfl⟩ := hcut
    go_upto_if 21 with fail
    go_cut [5] from 16 to 29 (fun v wc => V = wc ∧ v = .int .i64 (k2 : Int))
    case first =>
      by_cases h0 : 0 < nw
      · have hm : (kk : Int).tmod (nw : Int) = (k2 : Int) := by
          have := HK2'.out
          rw [if_pos h0] at this
          rw [Int.tmod_eq_emod_of_nonneg (by omega), this]
          simp
        have hn0 : (nw : Int) ≠ 0 := by omega
        have h0i : (0 : Int) < (nw : Int) := by omega
        go_wp2
        go_meet
        exact ⟨rfl, rfl⟩
      · have h0i : ¬ (0 : Int) < (nw : Int) := by omega
        have hm : kk = k2 := by
          have := HK2'.out
          rw [if_neg h0] at this
          exact this.symm
        have HM := hide hm
        clear hm
        go_wp2
        go_meet
        exact ⟨rfl, by rw [HM.out]⟩
    case rest =>
      obtain ⟨rfl, rfl⟩ := hcut
      go_upto_region 17 with fail
      refine wp_region_noPanic ?_
      refine wp_region_held_drew (S := fun W => W.cell? ⟨pb, 1, none⟩ = some (.pointer (some ⟨gb, 0, none⟩)) ∧ W.cell? ⟨pb, 3, none⟩ = some (.int .i64 (tm : Int))) (by kernel_rfl) (by first | exact ⟨c1, c3⟩ | exact ⟨z0, z3⟩ | exact ⟨y0, y3⟩ | exact ⟨x0 _, x3 _⟩) (fun hHeld => ?_)
      refine takeD (i := 0) (d := some 133) (v := ?_) rfl rfl (by kernel_rfl) (by kernel_rfl) (by kernel_rfl) (fun _ _ _ h => h) (Or.inl ⟨by rfl, ?_⟩) (by assumption) ?_
      rotate_left
      · intro w hSw
        go_simp
        try (with_reducible rfl)
      try simp only [Act.put, List.setIfInBounds_toArray, List.set_cons_zero, List.set_cons_succ]
      refine takeD (i := 1) (d := some 134) (v := ?_) rfl rfl (by kernel_rfl) (by kernel_rfl) (by kernel_rfl) (fun _ _ _ h => h) (Or.inl ⟨by rfl, ?_⟩) (by assumption) ?_
      rotate_left
      · intro w hSw
        go_simp
        try (with_reducible rfl)
      try simp only [Act.put, List.setIfInBounds_toArray, List.set_cons_zero, List.set_cons_succ]
      refine takeD (i := 2) (d := some 135) (v := ?_) rfl rfl (by kernel_rfl) (by kernel_rfl) (by kernel_rfl) (fun _ _ _ h => h) (Or.inl ⟨by rfl, ?_⟩) (by assumption) ?_
      rotate_left
      · intro w hSw
        go_simp
        try (with_reducible rfl)
      try simp only [Act.put, List.setIfInBounds_toArray, List.set_cons_zero, List.set_cons_succ]
      refine takeD (i := 3) (d := some 136) (v := ?_) rfl rfl (by kernel_rfl) (by kernel_rfl) (by kernel_rfl) (fun _ _ _ h => h) (Or.inl ⟨by rfl, ?_⟩) (by assumption) ?_
      rotate_left
      · intro w hSw
        go_simp
        try (with_reducible rfl)
      try simp only [Act.put, List.setIfInBounds_toArray, List.set_cons_zero, List.set_cons_succ]
      refine takeD (i := 5) (d := some 138) (v := ?_) rfl rfl (by kernel_rfl) (by kernel_rfl) (by kernel_rfl) (fun _ _ _ h => h) (Or.inl ⟨by rfl, ?_⟩) (by assumption) ?_
      rotate_left
      · intro w hSw
        go_simp
        try (with_reducible rfl)
      try simp only [Act.put, List.setIfInBounds_toArray, List.set_cons_zero, List.set_cons_succ]
      refine takeD (i := 6) (d := some 139) (v := ?_) rfl rfl (by kernel_rfl) (by kernel_rfl) (by kernel_rfl) (fun _ _ _ h => h) (Or.inl ⟨by rfl, ?_⟩) (by assumption) ?_
      rotate_left
      · intro w hSw
        go_simp
        try (with_reducible rfl)
      try simp only [Act.put, List.setIfInBounds_toArray, List.set_cons_zero, List.set_cons_succ]
      refine takeD (i := 7) (d := some 140) (v := ?_) rfl rfl (by kernel_rfl) (by kernel_rfl) (by kernel_rfl) (fun _ _ _ h => h) (Or.inl ⟨by rfl, ?_⟩) (by assumption) ?_
      rotate_left
      · intro w hSw
        go_simp
        try (with_reducible rfl)
      try simp only [Act.put, List.setIfInBounds_toArray, List.set_cons_zero, List.set_cons_succ]
      refine takeD (i := 8) (d := some 141) (v := ?_) rfl rfl (by kernel_rfl) (by kernel_rfl) (by kernel_rfl) (fun _ _ _ h => h) (Or.inl ⟨by rfl, ?_⟩) (by assumption) ?_
      rotate_left
      · intro w hSw
        go_simp
        try (with_reducible rfl)
      try simp only [Act.put, List.setIfInBounds_toArray, List.set_cons_zero, List.set_cons_succ]
      refine takeD (i := 9) (d := some 142) (v := ?_) rfl rfl (by kernel_rfl) (by kernel_rfl) (by kernel_rfl) (fun _ _ _ h => h) (Or.inl ⟨by rfl, ?_⟩) (by assumption) ?_
      rotate_left
      · intro w hSw
        go_simp
        try (with_reducible rfl)
      try simp only [Act.put, List.setIfInBounds_toArray, List.set_cons_zero, List.set_cons_succ]
      refine takeD (i := 10) (d := some 143) (v := ?_) rfl rfl (by kernel_rfl) (by kernel_rfl) (by kernel_rfl) (fun _ _ _ h => h) (Or.inl ⟨by rfl, ?_⟩) (by assumption) ?_
      rotate_left
      · intro w hSw
        go_simp
        try (with_reducible rfl)
      try simp only [Act.put, List.setIfInBounds_toArray, List.set_cons_zero, List.set_cons_succ]
      refine takeD (i := 11) (d := some 144) (v := ?_) rfl rfl (by kernel_rfl) (by kernel_rfl) (by kernel_rfl) (fun _ _ _ h => h) (Or.inl ⟨by rfl, ?_⟩) (by assumption) ?_
      rotate_left
      · intro w hSw
        go_simp
        try (with_reducible rfl)
      try simp only [Act.put, List.setIfInBounds_toArray, List.set_cons_zero, List.set_cons_succ]
      refine takeD (i := 12) (d := some 145) (v := ?_) rfl rfl (by kernel_rfl) (by kernel_rfl) (by kernel_rfl) (fun _ _ _ h => h) (Or.inl ⟨by rfl, ?_⟩) (by assumption) ?_
      rotate_left
      · intro w hSw
        go_simp
        try (with_reducible rfl)
      try simp only [Act.put, List.setIfInBounds_toArray, List.set_cons_zero, List.set_cons_succ]
      refine wpAnyH_ready (rs := [4, 13]) (by kernel_rfl) (by simp) ?_
      refine AllReadyH.cons rfl (fun K hK => ?_) (AllReadyH.cons rfl (fun K hK => ?_) AllReadyH.nil)
      · skip
        go_simp
        go_wp2_with fail
        refine hK.out _ _ (by first | exact ⟨c1, c3⟩ | exact ⟨z0, z3⟩ | exact ⟨y0, y3⟩ | exact ⟨x0 _, x3 _⟩) (fun hHeld => ?_)
        clear hK K
        try simp only [Act.put, List.setIfInBounds_toArray, List.set_cons_zero, List.set_cons_succ]
        refine wpAnyH_ready (rs := [13]) (by kernel_rfl) (by simp) ?_
        refine AllReadyH.cons rfl (fun K hK => ?_) AllReadyH.nil
        go_simp
        (with_reducible refine C15.out.mono ?_)
        rintro e w3 ⟨a3, n3, v3, l3, rfl, hR3, hl3, hP3, hK3⟩
        have HS3 := hide (HS.out.linkB (s' := outL p.b (tm : Int)) (hP3.mono (fun k hk => .inl hk) (fun k hk => hk.elim (hP3.lt k) fun q => q.2)) hK3.undrew)
        have z0 := HS3.out.cells.2.1
        have z3 : w3.cell? ⟨pb, 3, none⟩ = some (.int .i64 (tm : Int)) := by rw [HTM.out]; exact HS3.out.cells.2.2.2.1
        have z2 : w3.cell? ⟨pb, 2, none⟩ = some (.slice aw nw cw) := by rw [HNW.out]; exact HS3.out.cells.2.2.1
        have hwo : w3.ownsRow w0.heap.size 34 6 (.slice aw nw cw) nw (fV l) := by rw [HNW.out]; exact HS3.out.wo
        have hl9 : l3.length ≤ 9 := by
          have h1 := congrArg List.length hl3
          rw [List.length_map] at h1
          have h2 := outP_len p.b (tm : Int)
          have h3 : p.b.op.length ≤ 8 := by obtain ⟨m, _, _, hr⟩ := HS.out.lb; exact hr.len
          unfold outF at h1
          rw [List.length_map] at h1
          omega
        obtain ⟨ar, cr, wr, hrun, hor, hgr, hwr⟩ := app34 w3 w0.heap.size aw nw cw l hwo a3 n3 v3 l3 (own_reads hR3.2.1).2 hR3.1 (own_reads hR3.2.1).1 (by have := hR3.1; omega) HS3.out.bel.size 53
        have hgr2 : w3.grownBy wr (Value.slice aw p.way.length cw).ownBlock := by rw [← HNW.out]; exact hgr
        have hTn : ∀ t : Fm, t ∈ l3 → TxO (Fb pb ga gb) w3 t.t := fun t ht => (hR3.2.2 t ht).mono fun k hk => ⟨by have := HGA.out; have h5 : V.heap.size ≤ k := hk.1; omega, by have := HGBB.out; have h5 : V.heap.size ≤ k := hk.1; omega, by have := HGP.out; have h5 : V.heap.size ≤ k := hk.1; omega⟩
        have HSET := hide (HS3.out.setWay (l' := l ++ l3) (n' := nw + n3) hgr2 (by rw [List.length_append, hR3.1]; have h1 := congrArg List.length HS3.out.wp; rw [List.length_map] at h1; rw [h1, HNW.out]) hor hwr (fun t ht => by
          have hk0 : ∀ q : Txt, TxO (Fb pb ga gb) w3 q → TxO (Fb pb ga gb) wr q := fun q hq => hq.keep fun ad e => grown_keep hgr (hq.lt ad e) (fun ad2 e2 => (own_apart hq.2.1 hwo (by decide) ad ad2 e e2).symm)
          rw [List.mem_append] at ht
          rcases ht with ht | ht
          · exact hk0 _ (HS3.out.wl t ht)
          · exact hk0 _ (hTn t ht)))
        have hpk : wr.heap[pb]? = w3.heap[pb]? := grown_keep hgr HS3.out.box.1 (fun ad e => (HS3.out.wn ad e).2.2)
        have y0 : wr.cell? ⟨pb, 1, none⟩ = some (.pointer (some ⟨gb, 0, none⟩)) := by rw [World.cell?_of_block (w := w3) (a := ⟨pb, 1, none⟩) hpk]; exact z0
        have y3 : wr.cell? ⟨pb, 3, none⟩ = some (.int .i64 (tm : Int)) := by rw [World.cell?_of_block (w := w3) (a := ⟨pb, 3, none⟩) hpk]; exact z3
        have y2 : wr.cell? ⟨pb, 2, none⟩ = some (.slice aw nw cw) := by rw [World.cell?_of_block (w := w3) (a := ⟨pb, 2, none⟩) hpk]; exact z2
        have g2 : wr.frozen? ⟨pb, 2, none⟩ = false := by rw [World.frozen?_of_block (w := w3) (a := ⟨pb, 2, none⟩) hpk]; exact HS3.out.cells.2.2.2.2.2.2.2.2 2 (by omega)
        have x0 : ∀ v, (wr.setCell ⟨pb, 2, none⟩ v).cell? ⟨pb, 1, none⟩ = some (.pointer (some ⟨gb, 0, none⟩)) := fun v => by rw [cset (by omega)]; exact y0
        have x3 : ∀ v, (wr.setCell ⟨pb, 2, none⟩ v).cell? ⟨pb, 3, none⟩ = some (.int .i64 (tm : Int)) := fun v => by rw [cset (by omega)]; exact y3
        have HWL := hide (show (l ++ l3).map Fm.p = p.way ++ outF p.b (tm : Int) from by rw [List.map_append, hl3]; congr 1; exact HS.out.wp)
        clear hR3 hl3 hP3 hK3 hwo hor hgr hgr2 hwr hTn hpk hl9
        go_wp2_with fail
        refine hK.out _ _ (by first | exact ⟨c1, c3⟩ | exact ⟨z0, z3⟩ | exact ⟨y0, y3⟩ | exact ⟨x0 _, x3 _⟩) (fun hHeld => ?_)
        clear hK K
        try simp only [Act.put, List.setIfInBounds_toArray, List.set_cons_zero, List.set_cons_succ]
        refine wpAnyH_ready (rs := [14]) (by kernel_rfl) (by simp) ?_
        refine AllReadyH.cons rfl (fun K hK => ?_) AllReadyH.nil
        refine wp_app53 (.tmp 137) (.tmp 146) rfl rfl rfl hrun ?_
        refine hK.out _ _ (by first | exact ⟨c1, c3⟩ | exact ⟨z0, z3⟩ | exact ⟨y0, y3⟩ | exact ⟨x0 _, x3 _⟩) (fun hHeld => ?_)
        clear hK K
        try simp only [Act.put, List.setIfInBounds_toArray, List.set_cons_zero, List.set_cons_succ]
        refine takeD (i := 15) (d := some 148) (v := ?_) rfl rfl (by kernel_rfl) (by kernel_rfl) (by kernel_rfl) (fun _ _ _ h => h) (Or.inl ⟨by rfl, ?_⟩) (by assumption) ?_
        rotate_left
        · intro w hSw
          go_simp
          try (with_reducible rfl)
        try simp only [Act.put, List.setIfInBounds_toArray, List.set_cons_zero, List.set_cons_succ]
        refine takeD (i := 16) (d := some 149) (v := ?_) rfl rfl (by kernel_rfl) (by kernel_rfl) (by kernel_rfl) (fun _ _ _ h => h) (Or.inl ⟨by rfl, ?_⟩) (by assumption) ?_
        rotate_left
        · intro w hSw
          go_simp
          try (with_reducible rfl)
        try simp only [Act.put, List.setIfInBounds_toArray, List.set_cons_zero, List.set_cons_succ]
        refine wpAnyH_ready (rs := [17]) (by kernel_rfl) (by simp) ?_
        refine AllReadyH.cons rfl (fun K hK => ?_) AllReadyH.nil
        go_simp
        go_wp2_with fail
        refine hK.out _ _ (by first | exact ⟨c1, c3⟩ | exact ⟨z0, z3⟩ | exact ⟨y0, y3⟩ | exact ⟨x0 _, x3 _⟩) (fun hHeld => ?_)
        clear hK K
        try simp only [Act.put, List.setIfInBounds_toArray, List.set_cons_zero, List.set_cons_succ]
        refine wpAnyH_done (by kernel_rfl) ?_ _
        refine NoPanic.normal ?_
        clear hHeld z0 z3 z2 y0 y3 y2 g2 c0 c1 c2 c3 c4 c5 c6 c7 cd2 x0 x3 hrun
        generalize wr.setCell ⟨pb, 2, none⟩ (.slice ar (nw + n3) cr) = W5 at HSET ⊢
        have n3c : W5.cell? ⟨pb, 3, none⟩ = some (.int .i64 (tm : Int)) := by rw [HTM.out]; exact HSET.out.cells.2.2.2.1
        have n3f : W5.frozen? ⟨pb, 3, none⟩ = false := HSET.out.cells.2.2.2.2.2.2.2.2 3 (by omega)
        have HN := hide (HSET.out.setNow (tm + 1))
        rw [HCA.out] at HN
        go_wp2
        go_ret
        refine ⟨rfl, ?_⟩
        have e : outB p = { p with b := outL p.b (tm : Int), way := (l ++ l3).map Fm.p, now := tm + 1 } := by unfold outB; rw [← HTM.out, HWL.out]
        rw [e]
        exact ⟨_, _, _, _, _, _, _, _, _, HN.out⟩
      · skip
        go_simp
        (with_reducible refine C15.out.mono ?_)
        rintro e w3 ⟨a3, n3, v3, l3, rfl, hR3, hl3, hP3, hK3⟩
        have HS3 := hide (HS.out.linkB (s' := outL p.b (tm : Int)) (hP3.mono (fun k hk => .inl hk) (fun k hk => hk.elim (hP3.lt k) fun q => q.2)) hK3.undrew)
        have z0 := HS3.out.cells.2.1
        have z3 : w3.cell? ⟨pb, 3, none⟩ = some (.int .i64 (tm : Int)) := by rw [HTM.out]; exact HS3.out.cells.2.2.2.1
        have z2 : w3.cell? ⟨pb, 2, none⟩ = some (.slice aw nw cw) := by rw [HNW.out]; exact HS3.out.cells.2.2.1
        have hwo : w3.ownsRow w0.heap.size 34 6 (.slice aw nw cw) nw (fV l) := by rw [HNW.out]; exact HS3.out.wo
        have hl9 : l3.length ≤ 9 := by
          have h1 := congrArg List.length hl3
          rw [List.length_map] at h1
          have h2 := outP_len p.b (tm : Int)
          have h3 : p.b.op.length ≤ 8 := by obtain ⟨m, _, _, hr⟩ := HS.out.lb; exact hr.len
          unfold outF at h1
          rw [List.length_map] at h1
          omega
        obtain ⟨ar, cr, wr, hrun, hor, hgr, hwr⟩ := app34 w3 w0.heap.size aw nw cw l hwo a3 n3 v3 l3 (own_reads hR3.2.1).2 hR3.1 (own_reads hR3.2.1).1 (by have := hR3.1; omega) HS3.out.bel.size 53
        have hgr2 : w3.grownBy wr (Value.slice aw p.way.length cw).ownBlock := by rw [← HNW.out]; exact hgr
        have hTn : ∀ t : Fm, t ∈ l3 → TxO (Fb pb ga gb) w3 t.t := fun t ht => (hR3.2.2 t ht).mono fun k hk => ⟨by have := HGA.out; have h5 : V.heap.size ≤ k := hk.1; omega, by have := HGBB.out; have h5 : V.heap.size ≤ k := hk.1; omega, by have := HGP.out; have h5 : V.heap.size ≤ k := hk.1; omega⟩
        have HSET := hide (HS3.out.setWay (l' := l ++ l3) (n' := nw + n3) hgr2 (by rw [List.length_append, hR3.1]; have h1 := congrArg List.length HS3.out.wp; rw [List.length_map] at h1; rw [h1, HNW.out]) hor hwr (fun t ht => by
          have hk0 : ∀ q : Txt, TxO (Fb pb ga gb) w3 q → TxO (Fb pb ga gb) wr q := fun q hq => hq.keep fun ad e => grown_keep hgr (hq.lt ad e) (fun ad2 e2 => (own_apart hq.2.1 hwo (by decide) ad ad2 e e2).symm)
          rw [List.mem_append] at ht
          rcases ht with ht | ht
          · exact hk0 _ (HS3.out.wl t ht)
          · exact hk0 _ (hTn t ht)))
        have hpk : wr.heap[pb]? = w3.heap[pb]? := grown_keep hgr HS3.out.box.1 (fun ad e => (HS3.out.wn ad e).2.2)
        have y0 : wr.cell? ⟨pb, 1, none⟩ = some (.pointer (some ⟨gb, 0, none⟩)) := by rw [World.cell?_of_block (w := w3) (a := ⟨pb, 1, none⟩) hpk]; exact z0
        have y3 : wr.cell? ⟨pb, 3, none⟩ = some (.int .i64 (tm : Int)) := by rw [World.cell?_of_block (w := w3) (a := ⟨pb, 3, none⟩) hpk]; exact z3
        have y2 : wr.cell? ⟨pb, 2, none⟩ = some (.slice aw nw cw) := by rw [World.cell?_of_block (w := w3) (a := ⟨pb, 2, none⟩) hpk]; exact z2
        have g2 : wr.frozen? ⟨pb, 2, none⟩ = false := by rw [World.frozen?_of_block (w := w3) (a := ⟨pb, 2, none⟩) hpk]; exact HS3.out.cells.2.2.2.2.2.2.2.2 2 (by omega)
        have x0 : ∀ v, (wr.setCell ⟨pb, 2, none⟩ v).cell? ⟨pb, 1, none⟩ = some (.pointer (some ⟨gb, 0, none⟩)) := fun v => by rw [cset (by omega)]; exact y0
        have x3 : ∀ v, (wr.setCell ⟨pb, 2, none⟩ v).cell? ⟨pb, 3, none⟩ = some (.int .i64 (tm : Int)) := fun v => by rw [cset (by omega)]; exact y3
        have HWL := hide (show (l ++ l3).map Fm.p = p.way ++ outF p.b (tm : Int) from by rw [List.map_append, hl3]; congr 1; exact HS.out.wp)
        clear hR3 hl3 hP3 hK3 hwo hor hgr hgr2 hwr hTn hpk hl9
        go_wp2_with fail
        refine hK.out _ _ (by first | exact ⟨c1, c3⟩ | exact ⟨z0, z3⟩ | exact ⟨y0, y3⟩ | exact ⟨x0 _, x3 _⟩) (fun hHeld => ?_)
        clear hK K
        try simp only [Act.put, List.setIfInBounds_toArray, List.set_cons_zero, List.set_cons_succ]
        refine wpAnyH_ready (rs := [4]) (by kernel_rfl) (by simp) ?_
        refine AllReadyH.cons rfl (fun K hK => ?_) AllReadyH.nil
        go_simp
        go_wp2_with fail
        refine hK.out _ _ (by first | exact ⟨c1, c3⟩ | exact ⟨z0, z3⟩ | exact ⟨y0, y3⟩ | exact ⟨x0 _, x3 _⟩) (fun hHeld => ?_)
        clear hK K
        try simp only [Act.put, List.setIfInBounds_toArray, List.set_cons_zero, List.set_cons_succ]
        refine wpAnyH_ready (rs := [14]) (by kernel_rfl) (by simp) ?_
        refine AllReadyH.cons rfl (fun K hK => ?_) AllReadyH.nil
        refine wp_app53 (.tmp 137) (.tmp 146) rfl rfl rfl hrun ?_
        refine hK.out _ _ (by first | exact ⟨c1, c3⟩ | exact ⟨z0, z3⟩ | exact ⟨y0, y3⟩ | exact ⟨x0 _, x3 _⟩) (fun hHeld => ?_)
        clear hK K
        try simp only [Act.put, List.setIfInBounds_toArray, List.set_cons_zero, List.set_cons_succ]
        refine takeD (i := 15) (d := some 148) (v := ?_) rfl rfl (by kernel_rfl) (by kernel_rfl) (by kernel_rfl) (fun _ _ _ h => h) (Or.inl ⟨by rfl, ?_⟩) (by assumption) ?_
        rotate_left
        · intro w hSw
          go_simp
          try (with_reducible rfl)
        try simp only [Act.put, List.setIfInBounds_toArray, List.set_cons_zero, List.set_cons_succ]
        refine takeD (i := 16) (d := some 149) (v := ?_) rfl rfl (by kernel_rfl) (by kernel_rfl) (by kernel_rfl) (fun _ _ _ h => h) (Or.inl ⟨by rfl, ?_⟩) (by assumption) ?_
        rotate_left
        · intro w hSw
          go_simp
          try (with_reducible rfl)
        try simp only [Act.put, List.setIfInBounds_toArray, List.set_cons_zero, List.set_cons_succ]
        refine wpAnyH_ready (rs := [17]) (by kernel_rfl) (by simp) ?_
        refine AllReadyH.cons rfl (fun K hK => ?_) AllReadyH.nil
        go_simp
        go_wp2_with fail
        refine hK.out _ _ (by first | exact ⟨c1, c3⟩ | exact ⟨z0, z3⟩ | exact ⟨y0, y3⟩ | exact ⟨x0 _, x3 _⟩) (fun hHeld => ?_)
        clear hK K
        try simp only [Act.put, List.setIfInBounds_toArray, List.set_cons_zero, List.set_cons_succ]
        refine wpAnyH_done (by kernel_rfl) ?_ _
        refine NoPanic.normal ?_
        clear hHeld z0 z3 z2 y0 y3 y2 g2 c0 c1 c2 c3 c4 c5 c6 c7 cd2 x0 x3 hrun
        generalize wr.setCell ⟨pb, 2, none⟩ (.slice ar (nw + n3) cr) = W5 at HSET ⊢
        have n3c : W5.cell? ⟨pb, 3, none⟩ = some (.int .i64 (tm : Int)) := by rw [HTM.out]; exact HSET.out.cells.2.2.2.1
        have n3f : W5.frozen? ⟨pb, 3, none⟩ = false := HSET.out.cells.2.2.2.2.2.2.2.2 3 (by omega)
        have HN := hide (HSET.out.setNow (tm + 1))
        rw [HCA.out] at HN
        go_wp2
        go_ret
        refine ⟨rfl, ?_⟩
        have e : outB p = { p with b := outL p.b (tm : Int), way := (l ++ l3).map Fm.p, now := tm + 1 } := by unfold outB; rw [← HTM.out, HWL.out]
        rw [e]
        exact ⟨_, _, _, _, _, _, _, _, _, HN.out⟩
end linkBrings
end Go.Proofs.Ytofigofaiadffaa
