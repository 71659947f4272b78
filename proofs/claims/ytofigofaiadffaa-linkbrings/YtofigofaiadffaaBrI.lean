/- LinkBrings: a frame comes in. -/
import Derived.Test.YtofigofaiadffaaBrM
namespace Go.Proofs.Ytofigofaiadffaa
namespace linkBrings
open Go.RowKit Go.ChangeShapes Go.WideShapes Go.ChangeAt Go.Deep

theorem inF_len8 (s : Lk) (f : Fr) : (inF s f).length ≤ 8 := by
  unfold inF
  split
  · split
    · simp
    · unfold accF
      split
      · simp
      · exact ordF_len _ _ _
  · simp
/-- What a link answered lies in none of the three blocks that are written. -/
theorem in_fbA {w0 w w' W : World} {pb ga gb k : Nat} {D1 D2 : Nat → Prop} {p : Pr} {aw : Option Addr} {cw : Nat} {l : List Fm} {t0 t1 u0 u1 : Rw} (h : PairS w0 w pb ga gb D1 D2 p aw cw l t0 t1 u0 u1) (hW : w.heap.size ≤ W.heap.size) (hk : Ex D1 W w' k) (hne : k ≠ ga) : Fb pb ga gb k := by
  refine ⟨hne, fun e => ?_, fun e => ?_⟩
  · rcases hk with hk | hk
    · exact h.dis k hk (e ▸ h.lb.dg)
    · have := h.lb.lt _ h.lb.dg; omega
  · rcases hk with hk | hk
    · exact (h.d1 k hk).2 e
    · have := h.box.1; omega
theorem in_fbB {w0 w w' W : World} {pb ga gb k : Nat} {D1 D2 : Nat → Prop} {p : Pr} {aw : Option Addr} {cw : Nat} {l : List Fm} {t0 t1 u0 u1 : Rw} (h : PairS w0 w pb ga gb D1 D2 p aw cw l t0 t1 u0 u1) (hW : w.heap.size ≤ W.heap.size) (hk : Ex D2 W w' k) (hne : k ≠ gb) : Fb pb ga gb k := by
  refine ⟨fun e => ?_, hne, fun e => ?_⟩
  · rcases hk with hk | hk
    · exact h.dis k (e ▸ h.la.dg) hk
    · have := h.la.lt _ h.la.dg; omega
  · rcases hk with hk | hk
    · exact (h.d2 k hk).2 e
    · have := h.box.1; omega

set_option linter.unusedSimpArgs false in
set_option maxRecDepth 100000 in
set_option maxHeartbeats 8000000 in
theorem pin_any (w0 w : World) (pb ga gb : Nat) (p : Pr) (f : Fr) (a : Option Addr) (n c : Nat) (h : PairM w0 w pb ga gb p) (hua : p.a.used ≤ 1000000) (hub : p.b.used ≤ 1000000) (hca : p.a.came ≤ 1000000) (hcb : p.b.came ≤ 1000000) (ht0 : p.to0.length ≤ 100000) (ht1 : p.to1.length ≤ 100000)
    (hl : f.x.length = n) (hB : Byt f.x) (hr : Reads w a (bV f.x)) (hnil : a = none → n = 0 ∧ c = 0) (hne : ∀ ad, a = some ad → 0 < n → Fb pb ga gb ad.block) :
    Calls Try.prog 36 #[.pointer (some ⟨pb, 0, none⟩), .agg #[.int .i64 f.fr, .int .i64 f.tt, .int .i64 f.lf, .int .i64 f.sq, .int .i64 f.ak, .slice a n c]] w fun e w' => e = .returned (.bool (inOk p f)) ∧ PairM w0 w' pb ga gb (inP p f) := by
  have hbn := below_new w (.cells #[.int .i64 f.fr, .int .i64 f.tt, .int .i64 f.lf, .int .i64 f.sq, .int .i64 f.ak, .slice a n c] 34)
  have hbx := BoxL.new w [.int .i64 f.fr, .int .i64 f.tt, .int .i64 f.lf, .int .i64 f.sq, .int .i64 f.ak, .slice a n c] 34
  obtain ⟨V, hV⟩ : ∃ V, V = w.alloc (.cells #[.int .i64 f.fr, .int .i64 f.tt, .int .i64 f.lf, .int .i64 f.sq, .int .i64 f.ak, .slice a n c] 34) := ⟨_, rfl⟩
  have HBX := hide (show BoxL V w.heap.size [.int .i64 f.fr, .int .i64 f.tt, .int .i64 f.lf, .int .i64 f.sq, .int .i64 f.ak, .slice a n c] by rw [hV]; exact hbx)
  rw [← hV] at hbn
  have HBN := hide hbn
  have HV := hide hV
  have HL := hide hl
  have HB := hide hB
  have HR := hide hr
  have HNL := hide hnil
  have HNE := hide hne
  have HTL := hide (show p.to0.length ≤ 100000 ∧ p.to1.length ≤ 100000 from ⟨ht0, ht1⟩)
  clear hbn hbx hV hl hB hr hnil hne ht0 ht1
  obtain ⟨y0, y1, y2, y3, y4, y5⟩ := HBX.out.c6
  by_cases ht : f.tt = 0
  · skip
    have hF0 : (f.tt == 0) = true := by simpa using ht
    obtain ⟨D1, D2, aw, cw, l, t0, t1, u0, u1, hS⟩ := h
    have hS1 := hS.below HBN.out
    obtain ⟨c0, c1, -, -, -, -, -, -, -⟩ := hS1.cells
    have HS1 := hide hS1
    have hgg := hS.la.lt _ hS.la.dg
    have C18 := hide (in_any D1 ga p.a f a n c V.drew (hS1.la.keep (Nat.le_refl _) (fun _ _ => rfl)) hua hca HL.out HB.out (HR.out.below HBN.out).drew HNL.out (fun ad e h0 => (HNE.out ad e h0).1))
    clear hS1 hS
    unfold InQ at C18
    have HIO := hide (show inOk p f = forB p.a f from by unfold inOk; rw [if_pos ht])
    have HIP := hide (show inP p f = { p with a := inL p.a f, to0 := p.to0 ++ inF p.a f } from by unfold inP; rw [if_pos ht])
    rw [HIO.out, HIP.out]
    clear ht
    go_enter Try.func36, Try.ntmps36
    go_upto_region 1 with fail
    rw [← HV.out]
    go_upto_region 2 with fail
    go_region_held3 (fun W => W.cell? ⟨pb, 0, none⟩ = some (.pointer (some ⟨ga, 0, none⟩)) ∧ W.cell? ⟨w.heap.size, 0, none⟩ = some (.int .i64 f.fr) ∧ W.cell? ⟨w.heap.size, 1, none⟩ = some (.int .i64 f.tt) ∧ W.cell? ⟨w.heap.size, 2, none⟩ = some (.int .i64 f.lf) ∧ W.cell? ⟨w.heap.size, 3, none⟩ = some (.int .i64 f.sq) ∧ W.cell? ⟨w.heap.size, 4, none⟩ = some (.int .i64 f.ak) ∧ W.cell? ⟨w.heap.size, 5, none⟩ = some (.slice a n c)) (first | exact ⟨c0, y0, y1, y2, y3, y4, y5⟩ | exact ⟨z0, hz.1, hz.2.1, hz.2.2.1, hz.2.2.2.1, hz.2.2.2.2.1, hz.2.2.2.2.2⟩ | go_keep) (first | (go_at_call 18; (with_reducible refine C18.out.mono ?_); rintro e w3 ⟨b3, m3, d3, l3, rfl, hR3, hl3, hP3, hK3⟩; have HS3 := hide (HS1.out.linkA (s' := inL p.a f) (hP3.mono (fun k hk => hk.elim .inl fun q => .inr q) (fun k hk => hP3.lt k hk)) hK3.undrew); have z0 := HS3.out.cells.1; have hz := (HBX.out.kp hK3.undrew (g := ga) (by omega)).c6; have HR3 := hide hR3; have HL3 := hide hl3; have HK3 := hide hK3.undrew; clear hR3 hl3 hP3 hK3))
    clear y0 y1 y2 y3 y4 y5 c0 c1
    have HX3 := hide (HS3.out.below ((Below.refl _ w3).drew))
    obtain ⟨-, -, -, -, k4, k5, -, -, hfz⟩ := HX3.out.cells
    have hRT := HR3.out
    obtain ⟨ar, cr, wr, hrun, hor, hgr, hwr⟩ := app32 w3.drew w0.heap.size t0.a t0.n t0.c t0.ts HX3.out.r0.2.1 b3 m3 d3 l3 (own_reads hRT.2.1).2 hRT.1 (own_reads hRT.2.1).1.drew (by have h1 := HTL.out; have h2 := HX3.out.r0.1; have h3 := HX3.out.m0.1; have h4 := congrArg List.length h3; rw [List.length_map] at h4; have h5 := hRT.1; have h6 := congrArg List.length HL3.out; rw [List.length_map] at h6; have h7 := inF_len8 p.a f; simp only at h4; omega) HX3.out.bel.size 56
    have hset := HX3.out.set_t0 (ts' := t0.ts ++ l3) hgr (by rw [List.length_append, HX3.out.r0.1, hRT.1]) hor hwr (fun t ht => by
      rw [List.mem_append] at ht
      rcases ht with ht | ht
      · exact (HX3.out.m0.2 t ht).keep fun ad e => grown_keep hgr (by exact (HX3.out.m0.2 t ht).lt ad e) (fun ad2 e2 => (own_apart (HX3.out.m0.2 t ht).2.1 HX3.out.r0.2.1 (by decide) ad ad2 e e2).symm)
      · have hT : TxO (Fb pb ga gb) w3.drew t := (hRT.2.2 t ht).mono fun k hk => in_fbA HS1.out (Nat.le_refl _) hk.1 hk.2
        exact hT.keep fun ad e => grown_keep hgr (hT.lt ad e) (fun ad2 e2 => (own_apart hT.2.1 HX3.out.r0.2.1 (by decide) ad ad2 e e2).symm))
    have HSET := hide hset
    have hk4r : wr.cell? ⟨pb, 4, none⟩ = some (.slice t0.a t0.n t0.c) := by
      rw [World.cell?_of_block (w := w3.drew) (a := ⟨pb, 4, none⟩) (grown_keep hgr HX3.out.box.1 (fun ad e => (HX3.out.r0.2.2 ad e).2.2))]; exact k4
    have hkf : wr.frozen? ⟨pb, 4, none⟩ = false := by
      rw [World.frozen?_of_block (w := w3.drew) (a := ⟨pb, 4, none⟩) (grown_keep hgr HX3.out.box.1 (fun ad e => (HX3.out.r0.2.2 ad e).2.2))]; exact hfz 4 (by omega)
    have HMB := hide (show (t0.ts ++ l3).map Txt.bs = p.to0 ++ inF p.a f from by rw [List.map_append, HX3.out.m0.1, HL3.out])
    clear hset hfz hor hgr hwr hRT
    go_upto_region 3 with fail
    refine wp_region_noPanic ?_
    refine wp_region_held_drew (S := fun _ => True) (by kernel_rfl) trivial (fun _ => ?_)
    refine takeD (i := 0) (d := some 21) (v := ?_) rfl rfl (by kernel_rfl) (by kernel_rfl) (by kernel_rfl) (fun _ _ _ h => h) (Or.inl ⟨by rfl, ?_⟩) trivial ?_
    rotate_left
    · intro w hSw
      go_simp
      try (with_reducible rfl)
    try simp only [Act.put, List.setIfInBounds_toArray, List.set_cons_zero, List.set_cons_succ]
    refine takeD (i := 1) (d := some 22) (v := ?_) rfl rfl (by kernel_rfl) (by kernel_rfl) (by kernel_rfl) (fun _ _ _ h => h) (Or.inl ⟨by rfl, ?_⟩) trivial ?_
    rotate_left
    · intro w hSw
      go_simp
      try (with_reducible rfl)
    try simp only [Act.put, List.setIfInBounds_toArray, List.set_cons_zero, List.set_cons_succ]
    refine takeD (i := 2) (d := some 23) (v := ?_) rfl rfl (by kernel_rfl) (by kernel_rfl) (by kernel_rfl) (fun _ _ _ h => h) (Or.inl ⟨by rfl, ?_⟩) trivial ?_
    rotate_left
    · intro w hSw
      go_simp
      try (with_reducible rfl)
    try simp only [Act.put, List.setIfInBounds_toArray, List.set_cons_zero, List.set_cons_succ]
    refine takeD (i := 3) (d := some 24) (v := ?_) rfl rfl (by kernel_rfl) (by kernel_rfl) (by kernel_rfl) (fun _ _ _ h => h) (Or.inl ⟨by rfl, ?_⟩) trivial ?_
    rotate_left
    · intro w hSw
      go_simp
      try (with_reducible rfl)
    try simp only [Act.put, List.setIfInBounds_toArray, List.set_cons_zero, List.set_cons_succ]
    refine takeD (i := 4) (d := some 25) (v := ?_) rfl rfl (by kernel_rfl) (by kernel_rfl) (by kernel_rfl) (fun _ _ _ h => h) (Or.inl ⟨by rfl, ?_⟩) trivial ?_
    rotate_left
    · intro w hSw
      go_simp
      try (with_reducible rfl)
    try simp only [Act.put, List.setIfInBounds_toArray, List.set_cons_zero, List.set_cons_succ]
    refine takeD (i := 6) (d := some 27) (v := ?_) rfl rfl (by kernel_rfl) (by kernel_rfl) (by kernel_rfl) (fun _ _ _ h => h) (Or.inl ⟨by rfl, ?_⟩) trivial ?_
    rotate_left
    · intro w hSw
      go_simp
      try (with_reducible rfl)
    try simp only [Act.put, List.setIfInBounds_toArray, List.set_cons_zero, List.set_cons_succ]
    refine takeD (i := 8) (d := some 29) (v := ?_) rfl rfl (by kernel_rfl) (by kernel_rfl) (by kernel_rfl) (fun _ _ _ h => h) (Or.inl ⟨by rfl, ?_⟩) trivial ?_
    rotate_left
    · intro w hSw
      go_simp
      try (with_reducible rfl)
    try simp only [Act.put, List.setIfInBounds_toArray, List.set_cons_zero, List.set_cons_succ]
    refine takeD (i := 9) (d := some 30) (v := ?_) rfl rfl (by kernel_rfl) (by kernel_rfl) (by kernel_rfl) (fun _ _ _ h => h) (Or.inl ⟨by rfl, ?_⟩) trivial ?_
    rotate_left
    · intro w hSw
      go_simp
      try (with_reducible rfl)
    try simp only [Act.put, List.setIfInBounds_toArray, List.set_cons_zero, List.set_cons_succ]
    refine wpAnyH_ready (rs := [5]) (by kernel_rfl) (by simp) ?_
    refine AllReadyH.cons rfl (fun K hK => ?_) AllReadyH.nil
    go_simp
    go_wp2_with fail
    refine hK.out _ _ trivial (fun _ => ?_)
    clear hK K
    try simp only [Act.put, List.setIfInBounds_toArray, List.set_cons_zero, List.set_cons_succ]
    refine wpAnyH_ready (rs := [7]) (by kernel_rfl) (by simp) ?_
    refine AllReadyH.cons rfl (fun K hK => ?_) AllReadyH.nil
    refine wp_app56 (.tmp 26) (.tmp 27) rfl rfl rfl hrun ?_
    refine hK.out _ _ trivial (fun _ => ?_)
    clear hK K
    try simp only [Act.put, List.setIfInBounds_toArray, List.set_cons_zero, List.set_cons_succ]
    refine takeD (i := 10) (d := some 31) (v := ?_) rfl rfl (by kernel_rfl) (by kernel_rfl) (by kernel_rfl) (fun _ _ _ h => h) (Or.inl ⟨by rfl, ?_⟩) trivial ?_
    rotate_left
    · intro w hSw
      go_simp
      try (with_reducible rfl)
    try simp only [Act.put, List.setIfInBounds_toArray, List.set_cons_zero, List.set_cons_succ]
    refine wpAnyH_ready (rs := [11]) (by kernel_rfl) (by simp) ?_
    refine AllReadyH.cons rfl (fun K hK => ?_) AllReadyH.nil
    go_simp
    go_wp2_with fail
    refine hK.out _ _ trivial (fun _ => ?_)
    clear hK K
    try simp only [Act.put, List.setIfInBounds_toArray, List.set_cons_zero, List.set_cons_succ]
    refine wpAnyH_done (by kernel_rfl) ?_ _
    refine NoPanic.normal ?_
    generalize wr.setCell ⟨pb, 4, none⟩ (.slice ar (t0.n + m3) cr) = w9 at HSET ⊢
    go_wp2
    go_ret
    refine ⟨rfl, ?_⟩
    rw [HMB.out] at HSET
    exact ⟨_, _, _, _, _, _, _, _, _, HSET.out⟩
  · skip
    have hF0 : (f.tt == 0) = false := by simpa using ht
    obtain ⟨D1, D2, aw, cw, l, t0, t1, u0, u1, hS⟩ := h
    have hS1 := hS.below HBN.out
    obtain ⟨c0, c1, -, -, -, -, -, -, -⟩ := hS1.cells
    have HS1 := hide hS1
    have hgg := hS.lb.lt _ hS.lb.dg
    have C18 := hide (in_any D2 gb p.b f a n c V.drew (hS1.lb.keep (Nat.le_refl _) (fun _ _ => rfl)) hub hcb HL.out HB.out (HR.out.below HBN.out).drew HNL.out (fun ad e h0 => (HNE.out ad e h0).2.1))
    clear hS1 hS
    unfold InQ at C18
    have HIO := hide (show inOk p f = forB p.b f from by unfold inOk; rw [if_neg ht])
    have HIP := hide (show inP p f = { p with b := inL p.b f, to1 := p.to1 ++ inF p.b f } from by unfold inP; rw [if_neg ht])
    rw [HIO.out, HIP.out]
    clear ht
    go_enter Try.func36, Try.ntmps36
    go_upto_region 1 with fail
    rw [← HV.out]
    go_upto_region 5 with fail
    go_region_held3 (fun W => W.cell? ⟨pb, 1, none⟩ = some (.pointer (some ⟨gb, 0, none⟩)) ∧ W.cell? ⟨w.heap.size, 0, none⟩ = some (.int .i64 f.fr) ∧ W.cell? ⟨w.heap.size, 1, none⟩ = some (.int .i64 f.tt) ∧ W.cell? ⟨w.heap.size, 2, none⟩ = some (.int .i64 f.lf) ∧ W.cell? ⟨w.heap.size, 3, none⟩ = some (.int .i64 f.sq) ∧ W.cell? ⟨w.heap.size, 4, none⟩ = some (.int .i64 f.ak) ∧ W.cell? ⟨w.heap.size, 5, none⟩ = some (.slice a n c)) (first | exact ⟨c1, y0, y1, y2, y3, y4, y5⟩ | exact ⟨z0, hz.1, hz.2.1, hz.2.2.1, hz.2.2.2.1, hz.2.2.2.2.1, hz.2.2.2.2.2⟩ | go_keep) (first | (go_at_call 18; (with_reducible refine C18.out.mono ?_); rintro e w3 ⟨b3, m3, d3, l3, rfl, hR3, hl3, hP3, hK3⟩; have HS3 := hide (HS1.out.linkB (s' := inL p.b f) (hP3.mono (fun k hk => hk.elim .inl fun q => .inr q) (fun k hk => hP3.lt k hk)) hK3.undrew); have z0 := HS3.out.cells.2.1; have hz := (HBX.out.kp hK3.undrew (g := gb) (by omega)).c6; have HR3 := hide hR3; have HL3 := hide hl3; have HK3 := hide hK3.undrew; clear hR3 hl3 hP3 hK3))
    clear y0 y1 y2 y3 y4 y5 c0 c1
    have HX3 := hide (HS3.out.below ((Below.refl _ w3).drew))
    obtain ⟨-, -, -, -, k4, k5, -, -, hfz⟩ := HX3.out.cells
    have hRT := HR3.out
    obtain ⟨ar, cr, wr, hrun, hor, hgr, hwr⟩ := app32 w3.drew w0.heap.size t1.a t1.n t1.c t1.ts HX3.out.r1.2.1 b3 m3 d3 l3 (own_reads hRT.2.1).2 hRT.1 (own_reads hRT.2.1).1.drew (by have h1 := HTL.out; have h2 := HX3.out.r1.1; have h3 := HX3.out.m1.1; have h4 := congrArg List.length h3; rw [List.length_map] at h4; have h5 := hRT.1; have h6 := congrArg List.length HL3.out; rw [List.length_map] at h6; have h7 := inF_len8 p.b f; simp only at h4; omega) HX3.out.bel.size 56
    have hset := HX3.out.set_t1 (ts' := t1.ts ++ l3) hgr (by rw [List.length_append, HX3.out.r1.1, hRT.1]) hor hwr (fun t ht => by
      rw [List.mem_append] at ht
      rcases ht with ht | ht
      · exact (HX3.out.m1.2 t ht).keep fun ad e => grown_keep hgr (by exact (HX3.out.m1.2 t ht).lt ad e) (fun ad2 e2 => (own_apart (HX3.out.m1.2 t ht).2.1 HX3.out.r1.2.1 (by decide) ad ad2 e e2).symm)
      · have hT : TxO (Fb pb ga gb) w3.drew t := (hRT.2.2 t ht).mono fun k hk => in_fbB HS1.out (Nat.le_refl _) hk.1 hk.2
        exact hT.keep fun ad e => grown_keep hgr (hT.lt ad e) (fun ad2 e2 => (own_apart hT.2.1 HX3.out.r1.2.1 (by decide) ad ad2 e e2).symm))
    have HSET := hide hset
    have hk5r : wr.cell? ⟨pb, 5, none⟩ = some (.slice t1.a t1.n t1.c) := by
      rw [World.cell?_of_block (w := w3.drew) (a := ⟨pb, 5, none⟩) (grown_keep hgr HX3.out.box.1 (fun ad e => (HX3.out.r1.2.2 ad e).2.2))]; exact k5
    have hkf : wr.frozen? ⟨pb, 5, none⟩ = false := by
      rw [World.frozen?_of_block (w := w3.drew) (a := ⟨pb, 5, none⟩) (grown_keep hgr HX3.out.box.1 (fun ad e => (HX3.out.r1.2.2 ad e).2.2))]; exact hfz 5 (by omega)
    have HMB := hide (show (t1.ts ++ l3).map Txt.bs = p.to1 ++ inF p.b f from by rw [List.map_append, HX3.out.m1.1, HL3.out])
    clear hset hfz hor hgr hwr hRT
    go_upto_region 6 with fail
    refine wp_region_noPanic ?_
    refine wp_region_held_drew (S := fun _ => True) (by kernel_rfl) trivial (fun _ => ?_)
    refine takeD (i := 0) (d := some 42) (v := ?_) rfl rfl (by kernel_rfl) (by kernel_rfl) (by kernel_rfl) (fun _ _ _ h => h) (Or.inl ⟨by rfl, ?_⟩) trivial ?_
    rotate_left
    · intro w hSw
      go_simp
      try (with_reducible rfl)
    try simp only [Act.put, List.setIfInBounds_toArray, List.set_cons_zero, List.set_cons_succ]
    refine takeD (i := 1) (d := some 43) (v := ?_) rfl rfl (by kernel_rfl) (by kernel_rfl) (by kernel_rfl) (fun _ _ _ h => h) (Or.inl ⟨by rfl, ?_⟩) trivial ?_
    rotate_left
    · intro w hSw
      go_simp
      try (with_reducible rfl)
    try simp only [Act.put, List.setIfInBounds_toArray, List.set_cons_zero, List.set_cons_succ]
    refine takeD (i := 2) (d := some 44) (v := ?_) rfl rfl (by kernel_rfl) (by kernel_rfl) (by kernel_rfl) (fun _ _ _ h => h) (Or.inl ⟨by rfl, ?_⟩) trivial ?_
    rotate_left
    · intro w hSw
      go_simp
      try (with_reducible rfl)
    try simp only [Act.put, List.setIfInBounds_toArray, List.set_cons_zero, List.set_cons_succ]
    refine takeD (i := 3) (d := some 45) (v := ?_) rfl rfl (by kernel_rfl) (by kernel_rfl) (by kernel_rfl) (fun _ _ _ h => h) (Or.inl ⟨by rfl, ?_⟩) trivial ?_
    rotate_left
    · intro w hSw
      go_simp
      try (with_reducible rfl)
    try simp only [Act.put, List.setIfInBounds_toArray, List.set_cons_zero, List.set_cons_succ]
    refine takeD (i := 4) (d := some 46) (v := ?_) rfl rfl (by kernel_rfl) (by kernel_rfl) (by kernel_rfl) (fun _ _ _ h => h) (Or.inl ⟨by rfl, ?_⟩) trivial ?_
    rotate_left
    · intro w hSw
      go_simp
      try (with_reducible rfl)
    try simp only [Act.put, List.setIfInBounds_toArray, List.set_cons_zero, List.set_cons_succ]
    refine takeD (i := 6) (d := some 48) (v := ?_) rfl rfl (by kernel_rfl) (by kernel_rfl) (by kernel_rfl) (fun _ _ _ h => h) (Or.inl ⟨by rfl, ?_⟩) trivial ?_
    rotate_left
    · intro w hSw
      go_simp
      try (with_reducible rfl)
    try simp only [Act.put, List.setIfInBounds_toArray, List.set_cons_zero, List.set_cons_succ]
    refine takeD (i := 8) (d := some 50) (v := ?_) rfl rfl (by kernel_rfl) (by kernel_rfl) (by kernel_rfl) (fun _ _ _ h => h) (Or.inl ⟨by rfl, ?_⟩) trivial ?_
    rotate_left
    · intro w hSw
      go_simp
      try (with_reducible rfl)
    try simp only [Act.put, List.setIfInBounds_toArray, List.set_cons_zero, List.set_cons_succ]
    refine takeD (i := 9) (d := some 51) (v := ?_) rfl rfl (by kernel_rfl) (by kernel_rfl) (by kernel_rfl) (fun _ _ _ h => h) (Or.inl ⟨by rfl, ?_⟩) trivial ?_
    rotate_left
    · intro w hSw
      go_simp
      try (with_reducible rfl)
    try simp only [Act.put, List.setIfInBounds_toArray, List.set_cons_zero, List.set_cons_succ]
    refine wpAnyH_ready (rs := [5]) (by kernel_rfl) (by simp) ?_
    refine AllReadyH.cons rfl (fun K hK => ?_) AllReadyH.nil
    go_simp
    go_wp2_with fail
    refine hK.out _ _ trivial (fun _ => ?_)
    clear hK K
    try simp only [Act.put, List.setIfInBounds_toArray, List.set_cons_zero, List.set_cons_succ]
    refine wpAnyH_ready (rs := [7]) (by kernel_rfl) (by simp) ?_
    refine AllReadyH.cons rfl (fun K hK => ?_) AllReadyH.nil
    refine wp_app56 (.tmp 47) (.tmp 48) rfl rfl rfl hrun ?_
    refine hK.out _ _ trivial (fun _ => ?_)
    clear hK K
    try simp only [Act.put, List.setIfInBounds_toArray, List.set_cons_zero, List.set_cons_succ]
    refine takeD (i := 10) (d := some 52) (v := ?_) rfl rfl (by kernel_rfl) (by kernel_rfl) (by kernel_rfl) (fun _ _ _ h => h) (Or.inl ⟨by rfl, ?_⟩) trivial ?_
    rotate_left
    · intro w hSw
      go_simp
      try (with_reducible rfl)
    try simp only [Act.put, List.setIfInBounds_toArray, List.set_cons_zero, List.set_cons_succ]
    refine wpAnyH_ready (rs := [11]) (by kernel_rfl) (by simp) ?_
    refine AllReadyH.cons rfl (fun K hK => ?_) AllReadyH.nil
    go_simp
    go_wp2_with fail
    refine hK.out _ _ trivial (fun _ => ?_)
    clear hK K
    try simp only [Act.put, List.setIfInBounds_toArray, List.set_cons_zero, List.set_cons_succ]
    refine wpAnyH_done (by kernel_rfl) ?_ _
    refine NoPanic.normal ?_
    generalize wr.setCell ⟨pb, 5, none⟩ (.slice ar (t1.n + m3) cr) = w9 at HSET ⊢
    go_wp2
    go_ret
    refine ⟨rfl, ?_⟩
    rw [HMB.out] at HSET
    exact ⟨_, _, _, _, _, _, _, _, _, HSET.out⟩
end linkBrings
end Go.Proofs.Ytofigofaiadffaa
