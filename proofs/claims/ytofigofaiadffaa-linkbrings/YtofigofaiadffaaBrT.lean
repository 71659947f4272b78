/- LinkBrings: a turn of the net. -/
import Derived.Test.YtofigofaiadffaaBrI
namespace Go.Proofs.Ytofigofaiadffaa
namespace linkBrings
open Go.RowKit Go.ChangeShapes Go.WideShapes Go.ChangeAt Go.Deep

/-- How great all is. -/
structure Bd (p : Pr) : Prop where
  ua : p.a.used ≤ 100000
  ub : p.b.used ≤ 100000
  ca : p.a.came ≤ 100000
  cb : p.b.came ≤ 100000
  t0 : p.to0.length ≤ 100000
  t1 : p.to1.length ≤ 100000
  s0 : p.s0.length ≤ 100000
  s1 : p.s1.length ≤ 100000
  way : p.way.length ≤ 400000
  now : p.now ≤ 1000000
theorem own_at6 {w : World} {B b n c k : Nat} {l : List Fm} (h : w.ownsRow B 34 6 (.slice (some ⟨b, 0, none⟩) n c) n (fV l)) (hk : k < l.length) : w.cell? ⟨b, k * 6, none⟩ = some (.int .i64 l[k].fr) ∧ w.cell? ⟨b, k * 6 + 1, none⟩ = some (.int .i64 l[k].tt) ∧ w.cell? ⟨b, k * 6 + 2, none⟩ = some (.int .i64 l[k].lf) ∧ w.cell? ⟨b, k * 6 + 3, none⟩ = some (.int .i64 l[k].sq) ∧ w.cell? ⟨b, k * 6 + 4, none⟩ = some (.int .i64 l[k].ak) ∧ w.cell? ⟨b, k * 6 + 5, none⟩ = some (.slice l[k].t.a l[k].t.len l[k].t.cap) := by
  obtain ⟨h0, h1, h2, h3, h4, h5⟩ := fV_at l k hk
  have hc := fun j u hu => h.cells (g := b) rfl j u hu
  simp only [add_none, Nat.zero_add] at hc
  exact ⟨hc _ _ h0, hc _ _ h1, hc _ _ h2, hc _ _ h3, hc _ _ h4, hc _ _ h5⟩
theorem own_addr {w : World} {B T z n c : Nat} {a : Option Addr} {xs : List Value} (h : w.ownsRow B T z (.slice a n c) n xs) (h0 : 0 < n) : ∃ b, a = some ⟨b, 0, none⟩ ∧ n ≤ c := by
  rcases h.2 with ⟨_, h1⟩ | ⟨g, cap, cur, e, _, _, h3, _⟩
  · omega
  · simp only [Value.slice.injEq] at e
    exact ⟨g, e.1, by omega⟩
/-- A row of loads does not lie where a number lies. -/
theorem own_no3 {w : World} {B n c k : Nat} {a : Option Addr} {ad : Addr} {l : List Txt} (h : w.ownsRow B 32 1 (.slice a n c) n (sV l)) (e : a = some ad) (e2 : ad.block = k) (hk : ∃ cur z, w.heap[k]? = some (.cells cur 68 z)) : False := by
  subst e
  obtain ⟨cur, z, hk⟩ := hk
  rcases h.2 with ⟨h2, _⟩ | ⟨g, cap, cur2, e1, _, h2, _⟩
  · cases h2
  · simp only [Value.slice.injEq, Option.some.injEq] at e1
    rw [e1.1] at e2
    simp only at e2
    subst e2
    rw [hk] at h2
    simp only [Option.some.injEq, Obj.cells.injEq] at h2
    exact absurd h2.2.1 (by decide)
set_option linter.unusedSimpArgs false in
set_option maxRecDepth 100000 in
set_option maxHeartbeats 8000000 in
theorem turn_sendA_ok (w0 w : World) (pb ga gb : Nat) (p : Pr) (wy K : Int) (a : Option Addr) (n c : Nat) (x : List Nat) (h : PairM w0 w pb ga gb p) (hbd : Bd p) (hA : ArgT w0 w ⟨a, n, c, x⟩) (hK : I64 K) (hwy : wy = 0) (he : sendE p.a x = 0) :
    Calls Try.prog 24 #[.pointer (some ⟨pb, 0, none⟩), .agg #[.int .i64 wy, .int .i64 K, .slice a n c]] w fun e w' => e = .returned (.bool true) ∧ PairM w0 w' pb ga gb (sndA p x) := by
  obtain ⟨hl, hB, hcap, hnil, hr⟩ := hA.1
  simp only at hl hB hcap hnil hr
  have hbn := below_new w (.cells #[.int .i64 wy, .int .i64 K, .slice a n c] 68)
  have hbx := BoxL.new w [.int .i64 wy, .int .i64 K, .slice a n c] 68
  obtain ⟨V, hV⟩ : ∃ V, V = w.alloc (.cells #[.int .i64 wy, .int .i64 K, .slice a n c] 68) := ⟨_, rfl⟩
  have HBX := hide (show BoxL V w.heap.size [.int .i64 wy, .int .i64 K, .slice a n c] by rw [hV]; exact hbx)
  have HTB := hide (show V.heap[w.heap.size]? = some (.cells #[.int .i64 wy, .int .i64 K, .slice a n c] 68) by rw [hV]; show (w.heap.push _)[w.heap.size]? = _; simp)
  rw [← hV] at hbn
  have HBN := hide hbn
  have HV := hide hV
  obtain ⟨D1, D2, aw, cw, l, t0, t1, u0, u1, hS0⟩ := h
  have hpbw := hS0.box.1
  have HGL := hide (hS0.la.lt _ hS0.la.dg)
  have hS := hS0.below hbn
  have HS := hide hS
  have HA := hide (hA.keep (w' := V) fun k hk => hbn.block k (by have := hS0.bel.size; omega))
  obtain ⟨b0, b1, b2⟩ := HBX.out.c3
  obtain ⟨c0, c1, c2, c3, c4, c5, c6, c7, hfz⟩ := hS.cells
  obtain ⟨kk, hkk⟩ : ∃ kk : Nat, kk = (if K < 0 then -(K + 1) else K).toNat := ⟨_, rfl⟩
  obtain ⟨nw, hnw⟩ : ∃ nw, nw = p.way.length := ⟨_, rfl⟩
  obtain ⟨tm, htm⟩ : ∃ tm, tm = p.now := ⟨_, rfl⟩
  have HNW := hide hnw
  have HTM := hide htm
  rw [← hnw] at c2
  rw [← htm] at c3
  obtain ⟨k2, hk2⟩ : ∃ k2 : Nat, k2 = if 0 < nw then kk % nw else kk := ⟨_, rfl⟩
  have HK2 := hide (show 0 < nw → k2 = kOf K nw from fun h0 => by rw [hk2, if_pos h0, hkk]; rfl)
  have HK2' := hide hk2
  have hnb : nw ≤ 400000 := by rw [hnw]; exact hbd.way
  have htb : tm ≤ 1000000 := by rw [htm]; exact hbd.now
  have HBD := hide hbd
  have HPB := hide hpbw
  have hkkb : kk ≤ 9223372036854775807 := by unfold I64 at hK; rw [hkk]; split <;> omega
  have HKK := hide hkk
  have hKn : K < 0 → -(K + 1) = (kk : Int) := fun h0 => by rw [hkk, if_pos h0]; omega
  have hKp : ¬ K < 0 → K = (kk : Int) := fun h0 => by rw [hkk, if_neg h0]; omega
  have HKn := hide hKn
  have HKp := hide hKp
  unfold I64 at hK
  obtain ⟨hK1, hK2⟩ := hK
  clear hbn hbx hV hS hS0 hkk hnw htm hk2 hr hA hl hB hnil hcap hbd hpbw hKn hKp
  have HE := hide he
  have q0 : (sendE p.a x == 0) = true := by simpa using he
  have w0q : (wy == 0) = true := by rw [hwy]; rfl
  have HFIN := hide (show sndA p x = { p with a := sendL p.a x, s1 := p.s1 ++ [x] } from by unfold sndA; rw [if_pos he])
  rw [HFIN.out]
  have C12 := hide (send_any D1 ga p.a a n c x V.drew (HS.out.la.keep (Nat.le_refl _) (fun _ _ => rfl)) (by have := HBD.out.ua; omega) HA.out.1.1 HA.out.1.2.1 HA.out.1.2.2.2.2.drew HA.out.1.2.2.2.1 (fun ad e h0 => by have h1 := HA.out.2 ad e h0; have h2 := (HS.out.d1 _ HS.out.la.dg).1; have h3 : ad.block < w0.heap.size := h1; omega))
  unfold SendQ at C12
  have HGB := hide (HS.out.la.lt _ HS.out.la.dg)
  clear he hwy
  go_enter Try.func24, Try.ntmps24
  go_upto_region 1 with fail
  rw [← HV.out]
  go_upto_if 12 with fail
  go_cut [5] from 11 to 16 (fun v wc => V = wc ∧ v = .int .i64 (kk : Int))
  case first =>
    by_cases hneg : K < 0
    · have hq := HKn.out hneg
      go_wp2
      go_meet
      exact ⟨rfl, rfl⟩
    · have HQ := hide (HKp.out hneg)
      go_wp2
      go_meet
      exact ⟨rfl, by rw [← HQ.out]⟩
  case rest =>
    obtain ⟨rfl, rfl⟩ := hcut
    go_upto_if 21 with fail
    go_cut [5] from 16 to 29 (fun v wc => V = wc ∧ v = .int .i64 (k2 : Int))
    case first =>
      by_cases h0 : 0 < nw
      · have hm : (kk : Int).tmod (nw : Int) = (k2 : Int) := by
          have := HK2'.out
          rw [if_pos h0] at this
          rw [Int.tmod_eq_emod_of_nonneg (by omega), this]
          simp
        have hn0 : (nw : Int) ≠ 0 := by omega
        have h0i : (0 : Int) < (nw : Int) := by omega
        go_wp2
        go_meet
        exact ⟨rfl, rfl⟩
      · have h0i : ¬ (0 : Int) < (nw : Int) := by omega
        have hm : kk = k2 := by
          have := HK2'.out
          rw [if_neg h0] at this
          exact this.symm
        have HM := hide hm
        clear hm
        go_wp2
        go_meet
        exact ⟨rfl, by rw [HM.out]⟩
    case rest =>
      obtain ⟨rfl, rfl⟩ := hcut
      go_upto_region 8 with fail
      go_region_held3 (fun W => W.cell? ⟨pb, 0, none⟩ = some (.pointer (some ⟨ga, 0, none⟩)) ∧ W.cell? ⟨w.heap.size, 2, none⟩ = some (.slice a n c)) (first | exact ⟨c0, b2⟩ | exact ⟨z0, z2⟩ | go_keep) (first | (go_at_call 12; (with_reducible refine C12.out.mono ?_); rintro e w3 ⟨rfl, hP3, hK3⟩; have HS3 := hide (HS.out.linkA (s' := sendL p.a x) (hP3.mono (fun k hk => hk.elim .inl fun q => .inr q) (fun k hk => hP3.lt k hk)) hK3.undrew); have z0 := HS3.out.cells.1; have z2 := (HBX.out.kp hK3.undrew (g := ga) (by have := HGL.out; omega)).c3.2.2; have HK3 := hide hK3.undrew; clear hP3 hK3) | (go_at_call 13; (with_reducible refine (num_any _ w3).mono ?_); rintro e w4 ⟨rfl, hw⟩; have hw' : w3 = w4 := hw.symm; subst hw'))
      clear b0 b1 b2 c0 c1 c2 c3 c4 c5 c6 c7 hfz
      have HX3 := hide (HS3.out.below ((Below.refl _ w3).drew))
      have hbn4 := below_new w3.drew (.cells #[.slice a n c] 32)
      have HX4 := hide (HX3.out.below hbn4)
      obtain ⟨-, -, -, -, -, -, k6, k7, -⟩ := HX3.out.cells
      obtain ⟨-, -, -, -, -, -, j6, j7, hfz⟩ := HX4.out.cells
      have i6 : (w3.alloc (.cells #[.slice a n c] 32)).drew.cell? ⟨pb, 6, none⟩ = some (.slice u0.a u0.n u0.c) := j6
      have i7 : (w3.alloc (.cells #[.slice a n c] 32)).drew.cell? ⟨pb, 7, none⟩ = some (.slice u1.a u1.n u1.c) := j7
      have HA4 := hide ((HA.out.keep (w' := w3) fun k hk => HK3.out.block k (by have := HS.out.bel.size; omega) (by have := (HS.out.d1 _ HS.out.la.dg).1; omega)).keep (w' := w3.drew.alloc (.cells #[.slice a n c] 32)) fun k hk => hbn4.block k (by have := HX3.out.bel.size; omega))
      obtain ⟨ar, cr, wr, hrun, hor, hgr, hwr⟩ := app32 (w3.drew.alloc (.cells #[.slice a n c] 32)) w0.heap.size u1.a u1.n u1.c u1.ts HX4.out.q1.2.1 (some ⟨w3.heap.size, 0, none⟩) 1 1 [⟨a, n, c, x⟩] (fun e => by cases e) rfl (reads_new w3.drew [.slice a n c] 32) (by have h1 := HX4.out.q1.1; have h2 := congrArg List.length HX4.out.n1.1; rw [List.length_map] at h2; have h3 := HBD.out.s1; simp only at h2; omega) HX4.out.bel.size 56
      have hrun2 : (Builtin.append_ #[56, 56] 56 #[.slice u1.a u1.n u1.c, .slice (some ⟨w3.heap.size, 0, none⟩) 1 1]).run Try.prog (w3.alloc (.cells #[.slice a n c] 32)).drew = .ok (.slice ar (u1.n + 1) cr) wr := hrun
      have hset := HX4.out.set_u1 (ts' := u1.ts ++ [⟨a, n, c, x⟩]) hgr (by rw [List.length_append, HX4.out.q1.1]; rfl) hor hwr (fun t ht => by
        have hg0 : ∀ k, k < w0.heap.size → wr.heap[k]? = (w3.drew.alloc (.cells #[.slice a n c] 32)).heap[k]? := fun k hk => grown_keep hgr (by have := HX4.out.bel.size; omega) (fun ad e => by have := (own_lt HX4.out.q1.2.1 ad e).1; omega)
        rw [List.mem_append, List.mem_singleton] at ht
        rcases ht with ht | rfl
        · exact (HX4.out.n1.2 t ht).keep hg0
        · exact HA4.out.keep hg0)
      have HSET := hide hset
      have hk7r : wr.cell? ⟨pb, 7, none⟩ = some (.slice u1.a u1.n u1.c) := by
        rw [World.cell?_of_block (w := w3.drew.alloc (.cells #[.slice a n c] 32)) (a := ⟨pb, 7, none⟩) (grown_keep hgr HX4.out.box.1 (fun ad e => (HX4.out.q1.2.2 ad e).2.2))]; exact j7
      have hkf : wr.frozen? ⟨pb, 7, none⟩ = false := by
        rw [World.frozen?_of_block (w := w3.drew.alloc (.cells #[.slice a n c] 32)) (a := ⟨pb, 7, none⟩) (grown_keep hgr HX4.out.box.1 (fun ad e => (HX4.out.q1.2.2 ad e).2.2))]; exact hfz 7 (by omega)
      have HMB := hide (show (u1.ts ++ [(⟨a, n, c, x⟩ : Txt)]).map Txt.bs = p.s1 ++ [x] from by rw [List.map_append, HX4.out.n1.1]; rfl)
      have z2d : w3.drew.cell? ⟨w.heap.size, 2, none⟩ = some (.slice a n c) := z2
      have z2a : (w3.drew.alloc (.cells #[.slice a n c] 32)).cell? ⟨w.heap.size, 2, none⟩ = some (.slice a n c) := keep_cell z2d hbn4
      have z2r : wr.cell? ⟨w.heap.size, 2, none⟩ = some (.slice a n c) := by
        rw [World.cell?_of_block (w := w3.drew.alloc (.cells #[.slice a n c] 32)) (a := ⟨w.heap.size, 2, none⟩) (grown_keep hgr (cell_some_lt z2a) (fun ad e e2 => own_no3 HX4.out.q1.2.1 e e2 ⟨_, _, by rw [hbn4.block w.heap.size (cell_some_lt z2d)]; show w3.heap[w.heap.size]? = _; rw [HK3.out.block w.heap.size HBX.out.1 (by have := HGL.out; omega)]; exact HTB.out⟩))]; exact z2a
      have z2s : ∀ v, (wr.setCell ⟨pb, 7, none⟩ v).cell? ⟨w.heap.size, 2, none⟩ = some (.slice a n c) := fun v => by
        rw [World.cell?_of_block (w := wr) (a := ⟨w.heap.size, 2, none⟩) (setp_keep (by have := HPB.out; show w.heap.size ≠ pb; omega))]; exact z2r
      clear hset hfz hor hgr hwr hbn4 z0
      go_upto_region 9 with fail
      refine wp_region_noPanic ?_
      refine wp_region_held_drew (S := fun W => W.cell? ⟨w.heap.size, 2, none⟩ = some (.slice a n c)) (by kernel_rfl) (by first | exact z2d | exact z2a | exact z2r | exact z2s _) (fun hHeld => ?_)
      refine takeD (i := 0) (d := some 60) (v := ?_) rfl rfl (by kernel_rfl) (by kernel_rfl) (by kernel_rfl) (fun _ _ _ h => h) (Or.inl ⟨by rfl, ?_⟩) (by assumption) ?_
      rotate_left
      · intro w hSw
        go_simp
        try (with_reducible rfl)
      try simp only [Act.put, List.setIfInBounds_toArray, List.set_cons_zero, List.set_cons_succ]
      refine takeD (i := 1) (d := some 61) (v := ?_) rfl rfl (by kernel_rfl) (by kernel_rfl) (by kernel_rfl) (fun _ _ _ h => h) (Or.inl ⟨by rfl, ?_⟩) (by assumption) ?_
      rotate_left
      · intro w hSw
        go_simp
        try (with_reducible rfl)
      try simp only [Act.put, List.setIfInBounds_toArray, List.set_cons_zero, List.set_cons_succ]
      refine takeD (i := 2) (d := some 62) (v := ?_) rfl rfl (by kernel_rfl) (by kernel_rfl) (by kernel_rfl) (fun _ _ _ h => h) (Or.inl ⟨by rfl, ?_⟩) (by assumption) ?_
      rotate_left
      · intro w hSw
        go_simp
        try (with_reducible rfl)
      try simp only [Act.put, List.setIfInBounds_toArray, List.set_cons_zero, List.set_cons_succ]
      refine takeD (i := 3) (d := some 63) (v := ?_) rfl rfl (by kernel_rfl) (by kernel_rfl) (by kernel_rfl) (fun _ _ _ h => h) (Or.inl ⟨by rfl, ?_⟩) (by assumption) ?_
      rotate_left
      · intro w hSw
        go_simp
        try (with_reducible rfl)
      try simp only [Act.put, List.setIfInBounds_toArray, List.set_cons_zero, List.set_cons_succ]
      refine takeD (i := 4) (d := some 64) (v := ?_) rfl rfl (by kernel_rfl) (by kernel_rfl) (by kernel_rfl) (fun _ _ _ h => h) (Or.inl ⟨by rfl, ?_⟩) (by assumption) ?_
      rotate_left
      · intro w hSw
        go_simp
        try (with_reducible rfl)
      try simp only [Act.put, List.setIfInBounds_toArray, List.set_cons_zero, List.set_cons_succ]
      refine takeD (i := 6) (d := some 66) (v := ?_) rfl rfl (by kernel_rfl) (by kernel_rfl) (by kernel_rfl) (fun _ _ _ h => h) (Or.inl ⟨by rfl, ?_⟩) (by assumption) ?_
      rotate_left
      · intro w hSw
        go_simp
        try (with_reducible rfl)
      try simp only [Act.put, List.setIfInBounds_toArray, List.set_cons_zero, List.set_cons_succ]
      refine takeD (i := 7) (d := some 67) (v := ?_) rfl rfl (by kernel_rfl) (by kernel_rfl) (by kernel_rfl) (fun _ _ _ h => h) (Or.inl ⟨by rfl, ?_⟩) (by assumption) ?_
      rotate_left
      · intro w hSw
        go_simp
        try (with_reducible rfl)
      try simp only [Act.put, List.setIfInBounds_toArray, List.set_cons_zero, List.set_cons_succ]
      refine takeD (i := 10) (d := some 70) (v := ?_) rfl rfl (by kernel_rfl) (by kernel_rfl) (by kernel_rfl) (fun _ _ _ h => h) (Or.inl ⟨by rfl, ?_⟩) (by assumption) ?_
      rotate_left
      · intro w hSw
        go_simp
        try (with_reducible rfl)
      try simp only [Act.put, List.setIfInBounds_toArray, List.set_cons_zero, List.set_cons_succ]
      refine takeD (i := 11) (d := some 71) (v := ?_) rfl rfl (by kernel_rfl) (by kernel_rfl) (by kernel_rfl) (fun _ _ _ h => h) (Or.inl ⟨by rfl, ?_⟩) (by assumption) ?_
      rotate_left
      · intro w hSw
        go_simp
        try (with_reducible rfl)
      try simp only [Act.put, List.setIfInBounds_toArray, List.set_cons_zero, List.set_cons_succ]
      refine wpAnyH_ready (rs := [5, 8]) (by kernel_rfl) (by simp) ?_
      refine AllReadyH.cons rfl (fun K hK => ?_) (AllReadyH.cons rfl (fun K hK => ?_) AllReadyH.nil)
      · skip
        go_simp
        go_wp2_with fail
        refine hK.out _ _ (by first | exact z2d | exact z2a | exact z2r | exact z2s _) (fun hHeld => ?_)
        clear hK K
        try simp only [Act.put, List.setIfInBounds_toArray, List.set_cons_zero, List.set_cons_succ]
        refine wpAnyH_ready (rs := [8]) (by kernel_rfl) (by simp) ?_
        refine AllReadyH.cons rfl (fun K hK => ?_) AllReadyH.nil
        go_simp
        go_wp2_with fail
        refine hK.out _ _ (by first | exact z2d | exact z2a | exact z2r | exact z2s _) (fun hHeld => ?_)
        clear hK K
        try simp only [Act.put, List.setIfInBounds_toArray, List.set_cons_zero, List.set_cons_succ]
        refine wpAnyH_ready (rs := [9]) (by kernel_rfl) (by simp) ?_
        refine AllReadyH.cons rfl (fun K hK => ?_) AllReadyH.nil
        first | refine wp_app56 (.tmp 65) (.tmp 68) rfl rfl rfl hrun ?_ | refine wp_app56 (.tmp 65) (.tmp 68) rfl rfl rfl hrun2 ?_
        refine hK.out _ _ (by first | exact z2d | exact z2a | exact z2r | exact z2s _) (fun hHeld => ?_)
        clear hK K
        try simp only [Act.put, List.setIfInBounds_toArray, List.set_cons_zero, List.set_cons_succ]
        refine takeD (i := 12) (d := some 72) (v := ?_) rfl rfl (by kernel_rfl) (by kernel_rfl) (by kernel_rfl) (fun _ _ _ h => h) (Or.inl ⟨by rfl, ?_⟩) (by assumption) ?_
        rotate_left
        · intro w hSw
          go_simp
          try (with_reducible rfl)
        try simp only [Act.put, List.setIfInBounds_toArray, List.set_cons_zero, List.set_cons_succ]
        refine wpAnyH_ready (rs := [13]) (by kernel_rfl) (by simp) ?_
        refine AllReadyH.cons rfl (fun K hK => ?_) AllReadyH.nil
        go_simp
        go_wp2_with fail
        refine hK.out _ _ (by first | exact z2d | exact z2a | exact z2r | exact z2s _) (fun hHeld => ?_)
        clear hK K
        try simp only [Act.put, List.setIfInBounds_toArray, List.set_cons_zero, List.set_cons_succ]
        refine wpAnyH_done (by kernel_rfl) ?_ _
        refine NoPanic.normal ?_
        generalize wr.setCell ⟨pb, 7, none⟩ (.slice ar (u1.n + 1) cr) = w9 at HSET ⊢
        clear k6 k7 j6 j7 i6 i7 hk7r hkf z2 z2d z2a z2r z2s hHeld
        go_wp2
        go_ret
        refine ⟨rfl, ?_⟩
        rw [HMB.out] at HSET
        exact ⟨_, _, _, _, _, _, _, _, _, HSET.out⟩
      · skip
        go_simp
        go_wp2_with fail
        refine hK.out _ _ (by first | exact z2d | exact z2a | exact z2r | exact z2s _) (fun hHeld => ?_)
        clear hK K
        try simp only [Act.put, List.setIfInBounds_toArray, List.set_cons_zero, List.set_cons_succ]
        refine wpAnyH_ready (rs := [5]) (by kernel_rfl) (by simp) ?_
        refine AllReadyH.cons rfl (fun K hK => ?_) AllReadyH.nil
        go_simp
        go_wp2_with fail
        refine hK.out _ _ (by first | exact z2d | exact z2a | exact z2r | exact z2s _) (fun hHeld => ?_)
        clear hK K
        try simp only [Act.put, List.setIfInBounds_toArray, List.set_cons_zero, List.set_cons_succ]
        refine wpAnyH_ready (rs := [9]) (by kernel_rfl) (by simp) ?_
        refine AllReadyH.cons rfl (fun K hK => ?_) AllReadyH.nil
        first | refine wp_app56 (.tmp 65) (.tmp 68) rfl rfl rfl hrun ?_ | refine wp_app56 (.tmp 65) (.tmp 68) rfl rfl rfl hrun2 ?_
        refine hK.out _ _ (by first | exact z2d | exact z2a | exact z2r | exact z2s _) (fun hHeld => ?_)
        clear hK K
        try simp only [Act.put, List.setIfInBounds_toArray, List.set_cons_zero, List.set_cons_succ]
        refine takeD (i := 12) (d := some 72) (v := ?_) rfl rfl (by kernel_rfl) (by kernel_rfl) (by kernel_rfl) (fun _ _ _ h => h) (Or.inl ⟨by rfl, ?_⟩) (by assumption) ?_
        rotate_left
        · intro w hSw
          go_simp
          try (with_reducible rfl)
        try simp only [Act.put, List.setIfInBounds_toArray, List.set_cons_zero, List.set_cons_succ]
        refine wpAnyH_ready (rs := [13]) (by kernel_rfl) (by simp) ?_
        refine AllReadyH.cons rfl (fun K hK => ?_) AllReadyH.nil
        go_simp
        go_wp2_with fail
        refine hK.out _ _ (by first | exact z2d | exact z2a | exact z2r | exact z2s _) (fun hHeld => ?_)
        clear hK K
        try simp only [Act.put, List.setIfInBounds_toArray, List.set_cons_zero, List.set_cons_succ]
        refine wpAnyH_done (by kernel_rfl) ?_ _
        refine NoPanic.normal ?_
        generalize wr.setCell ⟨pb, 7, none⟩ (.slice ar (u1.n + 1) cr) = w9 at HSET ⊢
        clear k6 k7 j6 j7 i6 i7 hk7r hkf z2 z2d z2a z2r z2s hHeld
        go_wp2
        go_ret
        refine ⟨rfl, ?_⟩
        rw [HMB.out] at HSET
        exact ⟨_, _, _, _, _, _, _, _, _, HSET.out⟩
set_option linter.unusedSimpArgs false in
set_option maxRecDepth 100000 in
set_option maxHeartbeats 8000000 in
theorem turn_sendA_no (w0 w : World) (pb ga gb : Nat) (p : Pr) (wy K : Int) (a : Option Addr) (n c : Nat) (x : List Nat) (h : PairM w0 w pb ga gb p) (hbd : Bd p) (hA : ArgT w0 w ⟨a, n, c, x⟩) (hK : I64 K) (hwy : wy = 0) (he : sendE p.a x ≠ 0) :
    Calls Try.prog 24 #[.pointer (some ⟨pb, 0, none⟩), .agg #[.int .i64 wy, .int .i64 K, .slice a n c]] w fun e w' => e = .returned (.bool true) ∧ PairM w0 w' pb ga gb (sndA p x) := by
  obtain ⟨hl, hB, hcap, hnil, hr⟩ := hA.1
  simp only at hl hB hcap hnil hr
  have hbn := below_new w (.cells #[.int .i64 wy, .int .i64 K, .slice a n c] 68)
  have hbx := BoxL.new w [.int .i64 wy, .int .i64 K, .slice a n c] 68
  obtain ⟨V, hV⟩ : ∃ V, V = w.alloc (.cells #[.int .i64 wy, .int .i64 K, .slice a n c] 68) := ⟨_, rfl⟩
  have HBX := hide (show BoxL V w.heap.size [.int .i64 wy, .int .i64 K, .slice a n c] by rw [hV]; exact hbx)
  have HTB := hide (show V.heap[w.heap.size]? = some (.cells #[.int .i64 wy, .int .i64 K, .slice a n c] 68) by rw [hV]; show (w.heap.push _)[w.heap.size]? = _; simp)
  rw [← hV] at hbn
  have HBN := hide hbn
  have HV := hide hV
  obtain ⟨D1, D2, aw, cw, l, t0, t1, u0, u1, hS0⟩ := h
  have hpbw := hS0.box.1
  have HGL := hide (hS0.la.lt _ hS0.la.dg)
  have hS := hS0.below hbn
  have HS := hide hS
  have HA := hide (hA.keep (w' := V) fun k hk => hbn.block k (by have := hS0.bel.size; omega))
  obtain ⟨b0, b1, b2⟩ := HBX.out.c3
  obtain ⟨c0, c1, c2, c3, c4, c5, c6, c7, hfz⟩ := hS.cells
  obtain ⟨kk, hkk⟩ : ∃ kk : Nat, kk = (if K < 0 then -(K + 1) else K).toNat := ⟨_, rfl⟩
  obtain ⟨nw, hnw⟩ : ∃ nw, nw = p.way.length := ⟨_, rfl⟩
  obtain ⟨tm, htm⟩ : ∃ tm, tm = p.now := ⟨_, rfl⟩
  have HNW := hide hnw
  have HTM := hide htm
  rw [← hnw] at c2
  rw [← htm] at c3
  obtain ⟨k2, hk2⟩ : ∃ k2 : Nat, k2 = if 0 < nw then kk % nw else kk := ⟨_, rfl⟩
  have HK2 := hide (show 0 < nw → k2 = kOf K nw from fun h0 => by rw [hk2, if_pos h0, hkk]; rfl)
  have HK2' := hide hk2
  have hnb : nw ≤ 400000 := by rw [hnw]; exact hbd.way
  have htb : tm ≤ 1000000 := by rw [htm]; exact hbd.now
  have HBD := hide hbd
  have HPB := hide hpbw
  have hkkb : kk ≤ 9223372036854775807 := by unfold I64 at hK; rw [hkk]; split <;> omega
  have HKK := hide hkk
  have hKn : K < 0 → -(K + 1) = (kk : Int) := fun h0 => by rw [hkk, if_pos h0]; omega
  have hKp : ¬ K < 0 → K = (kk : Int) := fun h0 => by rw [hkk, if_neg h0]; omega
  have HKn := hide hKn
  have HKp := hide hKp
  unfold I64 at hK
  obtain ⟨hK1, hK2⟩ := hK
  clear hbn hbx hV hS hS0 hkk hnw htm hk2 hr hA hl hB hnil hcap hbd hpbw hKn hKp
  have HE := hide he
  have q0 : (sendE p.a x == 0) = false := by simpa using he
  have w0q : (wy == 0) = true := by rw [hwy]; rfl
  have HFIN := hide (show sndA p x = { p with a := sendL p.a x } from by unfold sndA; rw [if_neg he])
  rw [HFIN.out]
  have C12 := hide (send_any D1 ga p.a a n c x V.drew (HS.out.la.keep (Nat.le_refl _) (fun _ _ => rfl)) (by have := HBD.out.ua; omega) HA.out.1.1 HA.out.1.2.1 HA.out.1.2.2.2.2.drew HA.out.1.2.2.2.1 (fun ad e h0 => by have h1 := HA.out.2 ad e h0; have h2 := (HS.out.d1 _ HS.out.la.dg).1; have h3 : ad.block < w0.heap.size := h1; omega))
  unfold SendQ at C12
  have HGB := hide (HS.out.la.lt _ HS.out.la.dg)
  clear he hwy
  go_enter Try.func24, Try.ntmps24
  go_upto_region 1 with fail
  rw [← HV.out]
  go_upto_if 12 with fail
  go_cut [5] from 11 to 16 (fun v wc => V = wc ∧ v = .int .i64 (kk : Int))
  case first =>
    by_cases hneg : K < 0
    · have hq := HKn.out hneg
      go_wp2
      go_meet
      exact ⟨rfl, rfl⟩
    · have HQ := hide (HKp.out hneg)
      go_wp2
      go_meet
      exact ⟨rfl, by rw [← HQ.out]⟩
  case rest =>
    obtain ⟨rfl, rfl⟩ := hcut
    go_upto_if 21 with fail
    go_cut [5] from 16 to 29 (fun v wc => V = wc ∧ v = .int .i64 (k2 : Int))
    case first =>
      by_cases h0 : 0 < nw
      · have hm : (kk : Int).tmod (nw : Int) = (k2 : Int) := by
          have := HK2'.out
          rw [if_pos h0] at this
          rw [Int.tmod_eq_emod_of_nonneg (by omega), this]
          simp
        have hn0 : (nw : Int) ≠ 0 := by omega
        have h0i : (0 : Int) < (nw : Int) := by omega
        go_wp2
        go_meet
        exact ⟨rfl, rfl⟩
      · have h0i : ¬ (0 : Int) < (nw : Int) := by omega
        have hm : kk = k2 := by
          have := HK2'.out
          rw [if_neg h0] at this
          exact this.symm
        have HM := hide hm
        clear hm
        go_wp2
        go_meet
        exact ⟨rfl, by rw [HM.out]⟩
    case rest =>
      obtain ⟨rfl, rfl⟩ := hcut
      go_upto_region 8 with fail
      go_region_held3 (fun W => W.cell? ⟨pb, 0, none⟩ = some (.pointer (some ⟨ga, 0, none⟩)) ∧ W.cell? ⟨w.heap.size, 2, none⟩ = some (.slice a n c)) (first | exact ⟨c0, b2⟩ | exact ⟨z0, z2⟩ | go_keep) (first | (go_at_call 12; (with_reducible refine C12.out.mono ?_); rintro e w3 ⟨rfl, hP3, hK3⟩; have HS3 := hide (HS.out.linkA (s' := sendL p.a x) (hP3.mono (fun k hk => hk.elim .inl fun q => .inr q) (fun k hk => hP3.lt k hk)) hK3.undrew); have z0 := HS3.out.cells.1; have z2 := (HBX.out.kp hK3.undrew (g := ga) (by have := HGL.out; omega)).c3.2.2; have HK3 := hide hK3.undrew; clear hP3 hK3) | (go_at_call 13; (with_reducible refine (num_any _ w3).mono ?_); rintro e w4 ⟨rfl, hw⟩; have hw' : w3 = w4 := hw.symm; subst hw'))
      go_wp2
      go_ret
      exact ⟨rfl, _, _, _, _, _, _, _, _, _, HS3.out⟩
set_option linter.unusedSimpArgs false in
set_option maxRecDepth 100000 in
set_option maxHeartbeats 8000000 in
theorem turn_sendB_ok (w0 w : World) (pb ga gb : Nat) (p : Pr) (wy K : Int) (a : Option Addr) (n c : Nat) (x : List Nat) (h : PairM w0 w pb ga gb p) (hbd : Bd p) (hA : ArgT w0 w ⟨a, n, c, x⟩) (hK : I64 K) (hwy : wy = 1) (he : sendE p.b x = 0) :
    Calls Try.prog 24 #[.pointer (some ⟨pb, 0, none⟩), .agg #[.int .i64 wy, .int .i64 K, .slice a n c]] w fun e w' => e = .returned (.bool true) ∧ PairM w0 w' pb ga gb (sndB p x) := by
  obtain ⟨hl, hB, hcap, hnil, hr⟩ := hA.1
  simp only at hl hB hcap hnil hr
  have hbn := below_new w (.cells #[.int .i64 wy, .int .i64 K, .slice a n c] 68)
  have hbx := BoxL.new w [.int .i64 wy, .int .i64 K, .slice a n c] 68
  obtain ⟨V, hV⟩ : ∃ V, V = w.alloc (.cells #[.int .i64 wy, .int .i64 K, .slice a n c] 68) := ⟨_, rfl⟩
  have HBX := hide (show BoxL V w.heap.size [.int .i64 wy, .int .i64 K, .slice a n c] by rw [hV]; exact hbx)
  have HTB := hide (show V.heap[w.heap.size]? = some (.cells #[.int .i64 wy, .int .i64 K, .slice a n c] 68) by rw [hV]; show (w.heap.push _)[w.heap.size]? = _; simp)
  rw [← hV] at hbn
  have HBN := hide hbn
  have HV := hide hV
  obtain ⟨D1, D2, aw, cw, l, t0, t1, u0, u1, hS0⟩ := h
  have hpbw := hS0.box.1
  have HGL := hide (hS0.lb.lt _ hS0.lb.dg)
  have hS := hS0.below hbn
  have HS := hide hS
  have HA := hide (hA.keep (w' := V) fun k hk => hbn.block k (by have := hS0.bel.size; omega))
  obtain ⟨b0, b1, b2⟩ := HBX.out.c3
  obtain ⟨c0, c1, c2, c3, c4, c5, c6, c7, hfz⟩ := hS.cells
  obtain ⟨kk, hkk⟩ : ∃ kk : Nat, kk = (if K < 0 then -(K + 1) else K).toNat := ⟨_, rfl⟩
  obtain ⟨nw, hnw⟩ : ∃ nw, nw = p.way.length := ⟨_, rfl⟩
  obtain ⟨tm, htm⟩ : ∃ tm, tm = p.now := ⟨_, rfl⟩
  have HNW := hide hnw
  have HTM := hide htm
  rw [← hnw] at c2
  rw [← htm] at c3
  obtain ⟨k2, hk2⟩ : ∃ k2 : Nat, k2 = if 0 < nw then kk % nw else kk := ⟨_, rfl⟩
  have HK2 := hide (show 0 < nw → k2 = kOf K nw from fun h0 => by rw [hk2, if_pos h0, hkk]; rfl)
  have HK2' := hide hk2
  have hnb : nw ≤ 400000 := by rw [hnw]; exact hbd.way
  have htb : tm ≤ 1000000 := by rw [htm]; exact hbd.now
  have HBD := hide hbd
  have HPB := hide hpbw
  have hkkb : kk ≤ 9223372036854775807 := by unfold I64 at hK; rw [hkk]; split <;> omega
  have HKK := hide hkk
  have hKn : K < 0 → -(K + 1) = (kk : Int) := fun h0 => by rw [hkk, if_pos h0]; omega
  have hKp : ¬ K < 0 → K = (kk : Int) := fun h0 => by rw [hkk, if_neg h0]; omega
  have HKn := hide hKn
  have HKp := hide hKp
  unfold I64 at hK
  obtain ⟨hK1, hK2⟩ := hK
  clear hbn hbx hV hS hS0 hkk hnw htm hk2 hr hA hl hB hnil hcap hbd hpbw hKn hKp
  have HE := hide he
  have q0 : (sendE p.b x == 0) = true := by simpa using he
  have w0q : (wy == 0) = false := by rw [hwy]; rfl
  have w1q : (wy == 1) = true := by rw [hwy]; rfl
  have HFIN := hide (show sndB p x = { p with b := sendL p.b x, s0 := p.s0 ++ [x] } from by unfold sndB; rw [if_pos he])
  rw [HFIN.out]
  have C12 := hide (send_any D2 gb p.b a n c x V.drew (HS.out.lb.keep (Nat.le_refl _) (fun _ _ => rfl)) (by have := HBD.out.ub; omega) HA.out.1.1 HA.out.1.2.1 HA.out.1.2.2.2.2.drew HA.out.1.2.2.2.1 (fun ad e h0 => by have h1 := HA.out.2 ad e h0; have h2 := (HS.out.d2 _ HS.out.lb.dg).1; have h3 : ad.block < w0.heap.size := h1; omega))
  unfold SendQ at C12
  have HGB := hide (HS.out.lb.lt _ HS.out.lb.dg)
  clear he hwy
  go_enter Try.func24, Try.ntmps24
  go_upto_region 1 with fail
  rw [← HV.out]
  go_upto_if 12 with fail
  go_cut [5] from 11 to 16 (fun v wc => V = wc ∧ v = .int .i64 (kk : Int))
  case first =>
    by_cases hneg : K < 0
    · have hq := HKn.out hneg
      go_wp2
      go_meet
      exact ⟨rfl, rfl⟩
    · have HQ := hide (HKp.out hneg)
      go_wp2
      go_meet
      exact ⟨rfl, by rw [← HQ.out]⟩
  case rest =>
    obtain ⟨rfl, rfl⟩ := hcut
    go_upto_if 21 with fail
    go_cut [5] from 16 to 29 (fun v wc => V = wc ∧ v = .int .i64 (k2 : Int))
    case first =>
      by_cases h0 : 0 < nw
      · have hm : (kk : Int).tmod (nw : Int) = (k2 : Int) := by
          have := HK2'.out
          rw [if_pos h0] at this
          rw [Int.tmod_eq_emod_of_nonneg (by omega), this]
          simp
        have hn0 : (nw : Int) ≠ 0 := by omega
        have h0i : (0 : Int) < (nw : Int) := by omega
        go_wp2
        go_meet
        exact ⟨rfl, rfl⟩
      · have h0i : ¬ (0 : Int) < (nw : Int) := by omega
        have hm : kk = k2 := by
          have := HK2'.out
          rw [if_neg h0] at this
          exact this.symm
        have HM := hide hm
        clear hm
        go_wp2
        go_meet
        exact ⟨rfl, by rw [HM.out]⟩
    case rest =>
      obtain ⟨rfl, rfl⟩ := hcut
      go_upto_region 11 with fail
      go_region_held3 (fun W => W.cell? ⟨pb, 1, none⟩ = some (.pointer (some ⟨gb, 0, none⟩)) ∧ W.cell? ⟨w.heap.size, 2, none⟩ = some (.slice a n c)) (first | exact ⟨c1, b2⟩ | exact ⟨z0, z2⟩ | go_keep) (first | (go_at_call 12; (with_reducible refine C12.out.mono ?_); rintro e w3 ⟨rfl, hP3, hK3⟩; have HS3 := hide (HS.out.linkB (s' := sendL p.b x) (hP3.mono (fun k hk => hk.elim .inl fun q => .inr q) (fun k hk => hP3.lt k hk)) hK3.undrew); have z0 := HS3.out.cells.2.1; have z2 := (HBX.out.kp hK3.undrew (g := gb) (by have := HGL.out; omega)).c3.2.2; have HK3 := hide hK3.undrew; clear hP3 hK3) | (go_at_call 13; (with_reducible refine (num_any _ w3).mono ?_); rintro e w4 ⟨rfl, hw⟩; have hw' : w3 = w4 := hw.symm; subst hw'))
      clear b0 b1 b2 c0 c1 c2 c3 c4 c5 c6 c7 hfz
      have HX3 := hide (HS3.out.below ((Below.refl _ w3).drew))
      have hbn4 := below_new w3.drew (.cells #[.slice a n c] 32)
      have HX4 := hide (HX3.out.below hbn4)
      obtain ⟨-, -, -, -, -, -, k6, k7, -⟩ := HX3.out.cells
      obtain ⟨-, -, -, -, -, -, j6, j7, hfz⟩ := HX4.out.cells
      have i6 : (w3.alloc (.cells #[.slice a n c] 32)).drew.cell? ⟨pb, 6, none⟩ = some (.slice u0.a u0.n u0.c) := j6
      have i7 : (w3.alloc (.cells #[.slice a n c] 32)).drew.cell? ⟨pb, 7, none⟩ = some (.slice u1.a u1.n u1.c) := j7
      have HA4 := hide ((HA.out.keep (w' := w3) fun k hk => HK3.out.block k (by have := HS.out.bel.size; omega) (by have := (HS.out.d2 _ HS.out.lb.dg).1; omega)).keep (w' := w3.drew.alloc (.cells #[.slice a n c] 32)) fun k hk => hbn4.block k (by have := HX3.out.bel.size; omega))
      obtain ⟨ar, cr, wr, hrun, hor, hgr, hwr⟩ := app32 (w3.drew.alloc (.cells #[.slice a n c] 32)) w0.heap.size u0.a u0.n u0.c u0.ts HX4.out.q0.2.1 (some ⟨w3.heap.size, 0, none⟩) 1 1 [⟨a, n, c, x⟩] (fun e => by cases e) rfl (reads_new w3.drew [.slice a n c] 32) (by have h1 := HX4.out.q0.1; have h2 := congrArg List.length HX4.out.n0.1; rw [List.length_map] at h2; have h3 := HBD.out.s0; simp only at h2; omega) HX4.out.bel.size 56
      have hrun2 : (Builtin.append_ #[56, 56] 56 #[.slice u0.a u0.n u0.c, .slice (some ⟨w3.heap.size, 0, none⟩) 1 1]).run Try.prog (w3.alloc (.cells #[.slice a n c] 32)).drew = .ok (.slice ar (u0.n + 1) cr) wr := hrun
      have hset := HX4.out.set_u0 (ts' := u0.ts ++ [⟨a, n, c, x⟩]) hgr (by rw [List.length_append, HX4.out.q0.1]; rfl) hor hwr (fun t ht => by
        have hg0 : ∀ k, k < w0.heap.size → wr.heap[k]? = (w3.drew.alloc (.cells #[.slice a n c] 32)).heap[k]? := fun k hk => grown_keep hgr (by have := HX4.out.bel.size; omega) (fun ad e => by have := (own_lt HX4.out.q0.2.1 ad e).1; omega)
        rw [List.mem_append, List.mem_singleton] at ht
        rcases ht with ht | rfl
        · exact (HX4.out.n0.2 t ht).keep hg0
        · exact HA4.out.keep hg0)
      have HSET := hide hset
      have hk6r : wr.cell? ⟨pb, 6, none⟩ = some (.slice u0.a u0.n u0.c) := by
        rw [World.cell?_of_block (w := w3.drew.alloc (.cells #[.slice a n c] 32)) (a := ⟨pb, 6, none⟩) (grown_keep hgr HX4.out.box.1 (fun ad e => (HX4.out.q0.2.2 ad e).2.2))]; exact j6
      have hkf : wr.frozen? ⟨pb, 6, none⟩ = false := by
        rw [World.frozen?_of_block (w := w3.drew.alloc (.cells #[.slice a n c] 32)) (a := ⟨pb, 6, none⟩) (grown_keep hgr HX4.out.box.1 (fun ad e => (HX4.out.q0.2.2 ad e).2.2))]; exact hfz 6 (by omega)
      have HMB := hide (show (u0.ts ++ [(⟨a, n, c, x⟩ : Txt)]).map Txt.bs = p.s0 ++ [x] from by rw [List.map_append, HX4.out.n0.1]; rfl)
      have z2d : w3.drew.cell? ⟨w.heap.size, 2, none⟩ = some (.slice a n c) := z2
      have z2a : (w3.drew.alloc (.cells #[.slice a n c] 32)).cell? ⟨w.heap.size, 2, none⟩ = some (.slice a n c) := keep_cell z2d hbn4
      have z2r : wr.cell? ⟨w.heap.size, 2, none⟩ = some (.slice a n c) := by
        rw [World.cell?_of_block (w := w3.drew.alloc (.cells #[.slice a n c] 32)) (a := ⟨w.heap.size, 2, none⟩) (grown_keep hgr (cell_some_lt z2a) (fun ad e e2 => own_no3 HX4.out.q0.2.1 e e2 ⟨_, _, by rw [hbn4.block w.heap.size (cell_some_lt z2d)]; show w3.heap[w.heap.size]? = _; rw [HK3.out.block w.heap.size HBX.out.1 (by have := HGL.out; omega)]; exact HTB.out⟩))]; exact z2a
      have z2s : ∀ v, (wr.setCell ⟨pb, 6, none⟩ v).cell? ⟨w.heap.size, 2, none⟩ = some (.slice a n c) := fun v => by
        rw [World.cell?_of_block (w := wr) (a := ⟨w.heap.size, 2, none⟩) (setp_keep (by have := HPB.out; show w.heap.size ≠ pb; omega))]; exact z2r
      clear hset hfz hor hgr hwr hbn4 z0
      go_upto_region 12 with fail
      refine wp_region_noPanic ?_
      refine wp_region_held_drew (S := fun W => W.cell? ⟨w.heap.size, 2, none⟩ = some (.slice a n c)) (by kernel_rfl) (by first | exact z2d | exact z2a | exact z2r | exact z2s _) (fun hHeld => ?_)
      refine takeD (i := 0) (d := some 88) (v := ?_) rfl rfl (by kernel_rfl) (by kernel_rfl) (by kernel_rfl) (fun _ _ _ h => h) (Or.inl ⟨by rfl, ?_⟩) (by assumption) ?_
      rotate_left
      · intro w hSw
        go_simp
        try (with_reducible rfl)
      try simp only [Act.put, List.setIfInBounds_toArray, List.set_cons_zero, List.set_cons_succ]
      refine takeD (i := 1) (d := some 89) (v := ?_) rfl rfl (by kernel_rfl) (by kernel_rfl) (by kernel_rfl) (fun _ _ _ h => h) (Or.inl ⟨by rfl, ?_⟩) (by assumption) ?_
      rotate_left
      · intro w hSw
        go_simp
        try (with_reducible rfl)
      try simp only [Act.put, List.setIfInBounds_toArray, List.set_cons_zero, List.set_cons_succ]
      refine takeD (i := 2) (d := some 90) (v := ?_) rfl rfl (by kernel_rfl) (by kernel_rfl) (by kernel_rfl) (fun _ _ _ h => h) (Or.inl ⟨by rfl, ?_⟩) (by assumption) ?_
      rotate_left
      · intro w hSw
        go_simp
        try (with_reducible rfl)
      try simp only [Act.put, List.setIfInBounds_toArray, List.set_cons_zero, List.set_cons_succ]
      refine takeD (i := 3) (d := some 91) (v := ?_) rfl rfl (by kernel_rfl) (by kernel_rfl) (by kernel_rfl) (fun _ _ _ h => h) (Or.inl ⟨by rfl, ?_⟩) (by assumption) ?_
      rotate_left
      · intro w hSw
        go_simp
        try (with_reducible rfl)
      try simp only [Act.put, List.setIfInBounds_toArray, List.set_cons_zero, List.set_cons_succ]
      refine takeD (i := 4) (d := some 92) (v := ?_) rfl rfl (by kernel_rfl) (by kernel_rfl) (by kernel_rfl) (fun _ _ _ h => h) (Or.inl ⟨by rfl, ?_⟩) (by assumption) ?_
      rotate_left
      · intro w hSw
        go_simp
        try (with_reducible rfl)
      try simp only [Act.put, List.setIfInBounds_toArray, List.set_cons_zero, List.set_cons_succ]
      refine takeD (i := 6) (d := some 94) (v := ?_) rfl rfl (by kernel_rfl) (by kernel_rfl) (by kernel_rfl) (fun _ _ _ h => h) (Or.inl ⟨by rfl, ?_⟩) (by assumption) ?_
      rotate_left
      · intro w hSw
        go_simp
        try (with_reducible rfl)
      try simp only [Act.put, List.setIfInBounds_toArray, List.set_cons_zero, List.set_cons_succ]
      refine takeD (i := 7) (d := some 95) (v := ?_) rfl rfl (by kernel_rfl) (by kernel_rfl) (by kernel_rfl) (fun _ _ _ h => h) (Or.inl ⟨by rfl, ?_⟩) (by assumption) ?_
      rotate_left
      · intro w hSw
        go_simp
        try (with_reducible rfl)
      try simp only [Act.put, List.setIfInBounds_toArray, List.set_cons_zero, List.set_cons_succ]
      refine takeD (i := 10) (d := some 98) (v := ?_) rfl rfl (by kernel_rfl) (by kernel_rfl) (by kernel_rfl) (fun _ _ _ h => h) (Or.inl ⟨by rfl, ?_⟩) (by assumption) ?_
      rotate_left
      · intro w hSw
        go_simp
        try (with_reducible rfl)
      try simp only [Act.put, List.setIfInBounds_toArray, List.set_cons_zero, List.set_cons_succ]
      refine takeD (i := 11) (d := some 99) (v := ?_) rfl rfl (by kernel_rfl) (by kernel_rfl) (by kernel_rfl) (fun _ _ _ h => h) (Or.inl ⟨by rfl, ?_⟩) (by assumption) ?_
      rotate_left
      · intro w hSw
        go_simp
        try (with_reducible rfl)
      try simp only [Act.put, List.setIfInBounds_toArray, List.set_cons_zero, List.set_cons_succ]
      refine wpAnyH_ready (rs := [5, 8]) (by kernel_rfl) (by simp) ?_
      refine AllReadyH.cons rfl (fun K hK => ?_) (AllReadyH.cons rfl (fun K hK => ?_) AllReadyH.nil)
      · skip
        go_simp
        go_wp2_with fail
        refine hK.out _ _ (by first | exact z2d | exact z2a | exact z2r | exact z2s _) (fun hHeld => ?_)
        clear hK K
        try simp only [Act.put, List.setIfInBounds_toArray, List.set_cons_zero, List.set_cons_succ]
        refine wpAnyH_ready (rs := [8]) (by kernel_rfl) (by simp) ?_
        refine AllReadyH.cons rfl (fun K hK => ?_) AllReadyH.nil
        go_simp
        go_wp2_with fail
        refine hK.out _ _ (by first | exact z2d | exact z2a | exact z2r | exact z2s _) (fun hHeld => ?_)
        clear hK K
        try simp only [Act.put, List.setIfInBounds_toArray, List.set_cons_zero, List.set_cons_succ]
        refine wpAnyH_ready (rs := [9]) (by kernel_rfl) (by simp) ?_
        refine AllReadyH.cons rfl (fun K hK => ?_) AllReadyH.nil
        first | refine wp_app56 (.tmp 93) (.tmp 96) rfl rfl rfl hrun ?_ | refine wp_app56 (.tmp 93) (.tmp 96) rfl rfl rfl hrun2 ?_
        refine hK.out _ _ (by first | exact z2d | exact z2a | exact z2r | exact z2s _) (fun hHeld => ?_)
        clear hK K
        try simp only [Act.put, List.setIfInBounds_toArray, List.set_cons_zero, List.set_cons_succ]
        refine takeD (i := 12) (d := some 100) (v := ?_) rfl rfl (by kernel_rfl) (by kernel_rfl) (by kernel_rfl) (fun _ _ _ h => h) (Or.inl ⟨by rfl, ?_⟩) (by assumption) ?_
        rotate_left
        · intro w hSw
          go_simp
          try (with_reducible rfl)
        try simp only [Act.put, List.setIfInBounds_toArray, List.set_cons_zero, List.set_cons_succ]
        refine wpAnyH_ready (rs := [13]) (by kernel_rfl) (by simp) ?_
        refine AllReadyH.cons rfl (fun K hK => ?_) AllReadyH.nil
        go_simp
        go_wp2_with fail
        refine hK.out _ _ (by first | exact z2d | exact z2a | exact z2r | exact z2s _) (fun hHeld => ?_)
        clear hK K
        try simp only [Act.put, List.setIfInBounds_toArray, List.set_cons_zero, List.set_cons_succ]
        refine wpAnyH_done (by kernel_rfl) ?_ _
        refine NoPanic.normal ?_
        generalize wr.setCell ⟨pb, 6, none⟩ (.slice ar (u0.n + 1) cr) = w9 at HSET ⊢
        clear k6 k7 j6 j7 i6 i7 hk6r hkf z2 z2d z2a z2r z2s hHeld
        go_wp2
        go_ret
        refine ⟨rfl, ?_⟩
        rw [HMB.out] at HSET
        exact ⟨_, _, _, _, _, _, _, _, _, HSET.out⟩
      · skip
        go_simp
        go_wp2_with fail
        refine hK.out _ _ (by first | exact z2d | exact z2a | exact z2r | exact z2s _) (fun hHeld => ?_)
        clear hK K
        try simp only [Act.put, List.setIfInBounds_toArray, List.set_cons_zero, List.set_cons_succ]
        refine wpAnyH_ready (rs := [5]) (by kernel_rfl) (by simp) ?_
        refine AllReadyH.cons rfl (fun K hK => ?_) AllReadyH.nil
        go_simp
        go_wp2_with fail
        refine hK.out _ _ (by first | exact z2d | exact z2a | exact z2r | exact z2s _) (fun hHeld => ?_)
        clear hK K
        try simp only [Act.put, List.setIfInBounds_toArray, List.set_cons_zero, List.set_cons_succ]
        refine wpAnyH_ready (rs := [9]) (by kernel_rfl) (by simp) ?_
        refine AllReadyH.cons rfl (fun K hK => ?_) AllReadyH.nil
        first | refine wp_app56 (.tmp 93) (.tmp 96) rfl rfl rfl hrun ?_ | refine wp_app56 (.tmp 93) (.tmp 96) rfl rfl rfl hrun2 ?_
        refine hK.out _ _ (by first | exact z2d | exact z2a | exact z2r | exact z2s _) (fun hHeld => ?_)
        clear hK K
        try simp only [Act.put, List.setIfInBounds_toArray, List.set_cons_zero, List.set_cons_succ]
        refine takeD (i := 12) (d := some 100) (v := ?_) rfl rfl (by kernel_rfl) (by kernel_rfl) (by kernel_rfl) (fun _ _ _ h => h) (Or.inl ⟨by rfl, ?_⟩) (by assumption) ?_
        rotate_left
        · intro w hSw
          go_simp
          try (with_reducible rfl)
        try simp only [Act.put, List.setIfInBounds_toArray, List.set_cons_zero, List.set_cons_succ]
        refine wpAnyH_ready (rs := [13]) (by kernel_rfl) (by simp) ?_
        refine AllReadyH.cons rfl (fun K hK => ?_) AllReadyH.nil
        go_simp
        go_wp2_with fail
        refine hK.out _ _ (by first | exact z2d | exact z2a | exact z2r | exact z2s _) (fun hHeld => ?_)
        clear hK K
        try simp only [Act.put, List.setIfInBounds_toArray, List.set_cons_zero, List.set_cons_succ]
        refine wpAnyH_done (by kernel_rfl) ?_ _
        refine NoPanic.normal ?_
        generalize wr.setCell ⟨pb, 6, none⟩ (.slice ar (u0.n + 1) cr) = w9 at HSET ⊢
        clear k6 k7 j6 j7 i6 i7 hk6r hkf z2 z2d z2a z2r z2s hHeld
        go_wp2
        go_ret
        refine ⟨rfl, ?_⟩
        rw [HMB.out] at HSET
        exact ⟨_, _, _, _, _, _, _, _, _, HSET.out⟩
set_option linter.unusedSimpArgs false in
set_option maxRecDepth 100000 in
set_option maxHeartbeats 8000000 in
theorem turn_sendB_no (w0 w : World) (pb ga gb : Nat) (p : Pr) (wy K : Int) (a : Option Addr) (n c : Nat) (x : List Nat) (h : PairM w0 w pb ga gb p) (hbd : Bd p) (hA : ArgT w0 w ⟨a, n, c, x⟩) (hK : I64 K) (hwy : wy = 1) (he : sendE p.b x ≠ 0) :
    Calls Try.prog 24 #[.pointer (some ⟨pb, 0, none⟩), .agg #[.int .i64 wy, .int .i64 K, .slice a n c]] w fun e w' => e = .returned (.bool true) ∧ PairM w0 w' pb ga gb (sndB p x) := by
  obtain ⟨hl, hB, hcap, hnil, hr⟩ := hA.1
  simp only at hl hB hcap hnil hr
  have hbn := below_new w (.cells #[.int .i64 wy, .int .i64 K, .slice a n c] 68)
  have hbx := BoxL.new w [.int .i64 wy, .int .i64 K, .slice a n c] 68
  obtain ⟨V, hV⟩ : ∃ V, V = w.alloc (.cells #[.int .i64 wy, .int .i64 K, .slice a n c] 68) := ⟨_, rfl⟩
  have HBX := hide (show BoxL V w.heap.size [.int .i64 wy, .int .i64 K, .slice a n c] by rw [hV]; exact hbx)
  have HTB := hide (show V.heap[w.heap.size]? = some (.cells #[.int .i64 wy, .int .i64 K, .slice a n c] 68) by rw [hV]; show (w.heap.push _)[w.heap.size]? = _; simp)
  rw [← hV] at hbn
  have HBN := hide hbn
  have HV := hide hV
  obtain ⟨D1, D2, aw, cw, l, t0, t1, u0, u1, hS0⟩ := h
  have hpbw := hS0.box.1
  have HGL := hide (hS0.lb.lt _ hS0.lb.dg)
  have hS := hS0.below hbn
  have HS := hide hS
  have HA := hide (hA.keep (w' := V) fun k hk => hbn.block k (by have := hS0.bel.size; omega))
  obtain ⟨b0, b1, b2⟩ := HBX.out.c3
  obtain ⟨c0, c1, c2, c3, c4, c5, c6, c7, hfz⟩ := hS.cells
  obtain ⟨kk, hkk⟩ : ∃ kk : Nat, kk = (if K < 0 then -(K + 1) else K).toNat := ⟨_, rfl⟩
  obtain ⟨nw, hnw⟩ : ∃ nw, nw = p.way.length := ⟨_, rfl⟩
  obtain ⟨tm, htm⟩ : ∃ tm, tm = p.now := ⟨_, rfl⟩
  have HNW := hide hnw
  have HTM := hide htm
  rw [← hnw] at c2
  rw [← htm] at c3
  obtain ⟨k2, hk2⟩ : ∃ k2 : Nat, k2 = if 0 < nw then kk % nw else kk := ⟨_, rfl⟩
  have HK2 := hide (show 0 < nw → k2 = kOf K nw from fun h0 => by rw [hk2, if_pos h0, hkk]; rfl)
  have HK2' := hide hk2
  have hnb : nw ≤ 400000 := by rw [hnw]; exact hbd.way
  have htb : tm ≤ 1000000 := by rw [htm]; exact hbd.now
  have HBD := hide hbd
  have HPB := hide hpbw
  have hkkb : kk ≤ 9223372036854775807 := by unfold I64 at hK; rw [hkk]; split <;> omega
  have HKK := hide hkk
  have hKn : K < 0 → -(K + 1) = (kk : Int) := fun h0 => by rw [hkk, if_pos h0]; omega
  have hKp : ¬ K < 0 → K = (kk : Int) := fun h0 => by rw [hkk, if_neg h0]; omega
  have HKn := hide hKn
  have HKp := hide hKp
  unfold I64 at hK
  obtain ⟨hK1, hK2⟩ := hK
  clear hbn hbx hV hS hS0 hkk hnw htm hk2 hr hA hl hB hnil hcap hbd hpbw hKn hKp
  have HE := hide he
  have q0 : (sendE p.b x == 0) = false := by simpa using he
  have w0q : (wy == 0) = false := by rw [hwy]; rfl
  have w1q : (wy == 1) = true := by rw [hwy]; rfl
  have HFIN := hide (show sndB p x = { p with b := sendL p.b x } from by unfold sndB; rw [if_neg he])
  rw [HFIN.out]
  have C12 := hide (send_any D2 gb p.b a n c x V.drew (HS.out.lb.keep (Nat.le_refl _) (fun _ _ => rfl)) (by have := HBD.out.ub; omega) HA.out.1.1 HA.out.1.2.1 HA.out.1.2.2.2.2.drew HA.out.1.2.2.2.1 (fun ad e h0 => by have h1 := HA.out.2 ad e h0; have h2 := (HS.out.d2 _ HS.out.lb.dg).1; have h3 : ad.block < w0.heap.size := h1; omega))
  unfold SendQ at C12
  have HGB := hide (HS.out.lb.lt _ HS.out.lb.dg)
  clear he hwy
  go_enter Try.func24, Try.ntmps24
  go_upto_region 1 with fail
  rw [← HV.out]
  go_upto_if 12 with fail
  go_cut [5] from 11 to 16 (fun v wc => V = wc ∧ v = .int .i64 (kk : Int))
  case first =>
    by_cases hneg : K < 0
    · have hq := HKn.out hneg
      go_wp2
      go_meet
      exact ⟨rfl, rfl⟩
    · have HQ := hide (HKp.out hneg)
      go_wp2
      go_meet
      exact ⟨rfl, by rw [← HQ.out]⟩
  case rest =>
    obtain ⟨rfl, rfl⟩ := hcut
    go_upto_if 21 with fail
    go_cut [5] from 16 to 29 (fun v wc => V = wc ∧ v = .int .i64 (k2 : Int))
    case first =>
      by_cases h0 : 0 < nw
      · have hm : (kk : Int).tmod (nw : Int) = (k2 : Int) := by
          have := HK2'.out
          rw [if_pos h0] at this
          rw [Int.tmod_eq_emod_of_nonneg (by omega), this]
          simp
        have hn0 : (nw : Int) ≠ 0 := by omega
        have h0i : (0 : Int) < (nw : Int) := by omega
        go_wp2
        go_meet
        exact ⟨rfl, rfl⟩
      · have h0i : ¬ (0 : Int) < (nw : Int) := by omega
        have hm : kk = k2 := by
          have := HK2'.out
          rw [if_neg h0] at this
          exact this.symm
        have HM := hide hm
        clear hm
        go_wp2
        go_meet
        exact ⟨rfl, by rw [HM.out]⟩
    case rest =>
      obtain ⟨rfl, rfl⟩ := hcut
      go_upto_region 11 with fail
      go_region_held3 (fun W => W.cell? ⟨pb, 1, none⟩ = some (.pointer (some ⟨gb, 0, none⟩)) ∧ W.cell? ⟨w.heap.size, 2, none⟩ = some (.slice a n c)) (first | exact ⟨c1, b2⟩ | exact ⟨z0, z2⟩ | go_keep) (first | (go_at_call 12; (with_reducible refine C12.out.mono ?_); rintro e w3 ⟨rfl, hP3, hK3⟩; have HS3 := hide (HS.out.linkB (s' := sendL p.b x) (hP3.mono (fun k hk => hk.elim .inl fun q => .inr q) (fun k hk => hP3.lt k hk)) hK3.undrew); have z0 := HS3.out.cells.2.1; have z2 := (HBX.out.kp hK3.undrew (g := gb) (by have := HGL.out; omega)).c3.2.2; have HK3 := hide hK3.undrew; clear hP3 hK3) | (go_at_call 13; (with_reducible refine (num_any _ w3).mono ?_); rintro e w4 ⟨rfl, hw⟩; have hw' : w3 = w4 := hw.symm; subst hw'))
      go_wp2
      go_ret
      exact ⟨rfl, _, _, _, _, _, _, _, _, _, HS3.out⟩
end linkBrings
end Go.Proofs.Ytofigofaiadffaa
