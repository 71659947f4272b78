/- The document's push, step 2, growing. -/
import Derived.Test.YtaooglcjcnkgnaaRqm
namespace Go.Proofs.Ytaooglcjcnkgnaa
open Go.RowKit Go.ChangeShapes Go.WideShapes Go.ChangeAt Go.Deep

set_option linter.unusedSimpArgs false in
set_option maxRecDepth 100000 in
set_option maxHeartbeats 1000000 in
theorem rpu_c (w : World) (cb rb g : Nat) (d : Dq) (p : Nat) (hp : p < 16) (h : RQ w cb rb g d) (hs : Sml 1000000 d) (hs2 : (d.c p).s = 2) (hg : (d.n : Int) - 1 ≤ (d.c p).b - d.top) : Calls Try.prog 28 #[.pointer (some ⟨cb, 0, none⟩), .pointer (some ⟨cb, 3 + p * 7, none⟩)] w (PuPost cb rb g (pushD d p) w) := by
  have hc1 := h.call p 1 hp (by omega)
  have hc2 := h.call p 2 hp (by omega)
  have hc3 := h.call p 3 hp (by omega)
  have hc4 := h.call p 4 hp (by omega)
  have hc5 := h.call p 5 hp (by omega)
  have hc6 := h.call p 6 hp (by omega)
  simp only [rcl, Nat.add_zero] at hc1 hc2 hc3 hc4 hc5 hc6
  obtain ⟨c1, f1⟩ := hc1
  obtain ⟨c2, f2⟩ := hc2
  obtain ⟨c3, f3⟩ := hc3
  obtain ⟨c4, f4⟩ := hc4
  obtain ⟨c5, f5⟩ := hc5
  obtain ⟨c6, f6⟩ := hc6
  obtain ⟨ct, ft⟩ := h.top
  obtain ⟨cbt, fbt⟩ := h.bot
  obtain ⟨cr, fr⟩ := h.rp
  obtain ⟨hb1, hb2⟩ := hs.b p
  obtain ⟨htt1, htt2⟩ := hs.t p
  obtain ⟨ht1, ht2⟩ := hs.top
  obtain ⟨hbo1, hbo2⟩ := hs.bot
  generalize hc : d.c p = c at *
  obtain ⟨b, t, v, won, k, i, s⟩ := c
  dsimp only at *
  obtain rfl : s = 2 := hs2
  have h1' : ((2 : Int) == 1) = false := by decide
  have HD := hide (h.setCall p 4 hp (by omega) (.int .i64 d.top) { b := b, t := d.top, v := v, won := won, k := k, i := i, s := 2 } (by intro j hj; rw [hc]; rcases j with _ | _ | _ | _ | _ | _ | _ | j <;> simp [rcl, wn] <;> omega))
  have HW := hide (Wr.set cb g (3 + p * 7 + 4) (.int .i64 d.top) w)
  have HZ := hide (show (w.setCell ⟨cb, 3 + p * 7 + 4, none⟩ (.int .i64 d.top)).heap.size = w.heap.size by simp [World.setCell])
  have HE := hide (show pushD d p = (0, { d.put p { b := b, t := d.top, v := v, won := won, k := k, i := i, s := 2 } with n := gsz d.n, L := growK d.n (gsz d.n) d.L d.top (cnt d.n d.top b) }) by unfold pushD; rw [hc]; simp [hg])
  have hn := h.ring.pow.pos
  obtain ⟨hn1, hn2⟩ := hn
  have hw1 : IntKind.i64.wrap (b - d.top) = b - d.top := by rw [IntKind.wrap_i64]; omega
  have hw2 : IntKind.i64.wrap ((d.n : Int) - 1) = (d.n : Int) - 1 := by rw [IntKind.wrap_i64]; omega
  have hg' : decide ((d.n : Int) - 1 ≤ b - d.top) = true := by simpa using hg
  have HT := hide (show I64 d.top ∧ I64 b by unfold I64; omega)
  generalize pushD d p = R at *
  have HLT := hide h.lt
  clear h hs hc
  go_enter Try.func28, Try.ntmps28
  go_upto_region 8 with fail
  generalize w.setCell ⟨cb, 3 + p * 7 + 4, none⟩ (.int .i64 d.top) = w1 at *
  have hd3 := (HD.out.call p 3 hp (by omega))
  have hd4 := (HD.out.call p 4 hp (by omega))
  rw [Dq.put_same] at hd3 hd4
  simp only [rcl, Nat.add_zero] at hd3 hd4
  obtain ⟨e3, g3⟩ := hd3
  obtain ⟨e4, g4⟩ := hd4
  obtain ⟨er, gr⟩ := HD.out.rp
  have ebx : w1.cell? ⟨rb, 0, none⟩ = some (.slice (some ⟨g, 0, none⟩) d.n d.n) := HD.out.ring.box
  clear c1 c2 c3 c4 c5 c6 ct cbt cr f1 f2 f3 f4 f5 f6 ft fbt fr
  go_big_quiet (fail)
  go_upto_region 9 with fail
  generalize hq : w1.drewN _ = w2
  have HB2 := hide (show Below w1.heap.size w1 w2 by rw [← hq]; exact below_drewN (Below.refl _ _) _)
  have HD2 := hide (HD.out.below HB2.out)
  have HS2 := hide (show w2.heap.size = w1.heap.size by rw [← hq]; rfl)
  replace e3 := keep_cell e3 HB2.out
  replace e4 := keep_cell e4 HB2.out
  replace er := keep_cell er HB2.out
  have fr2 : w2.frozen? ⟨cb, 2, none⟩ = false := (HD2.out.bx 2 (by omega)).2
  clear hq g3 g4 gr ebx
  have C40 := hide (rgrown_any w2.drew rb 0 g d.n d.L d.top b (HD2.out.ring.drewN 1) HT.out.1 HT.out.2)
  have HKC := hide (fun (W : World) (hB : Below w2.drew.heap.size w2.drew W) (j : Nat) (v : Value) (hv : w2.cell? ⟨cb, j, none⟩ = some v) => show W.cell? ⟨cb, j, none⟩ = some v from keep_cell hv (below_undrew hB))
  have HKF := hide (fun (W : World) (hB : Below w2.drew.heap.size w2.drew W) => show W.frozen? ⟨cb, 2, none⟩ = false by rw [keep_frozen er (below_undrew hB)]; exact fr2)
  refine wp_region_noPanic ?_
  refine wp_region_held_drew (S := fun W => W.cell? ⟨cb, 3 + p * 7 + 3, none⟩ = some (.int .i64 b) ∧ W.cell? ⟨cb, 3 + p * 7 + 4, none⟩ = some (.int .i64 d.top)) (by kernel_rfl) (⟨e3, e4⟩) (fun hHeld => ?_)
  refine takeD (i := 0) (d := some 54) (v := ?_) rfl rfl (by kernel_rfl) (by kernel_rfl) (by kernel_rfl) (fun _ _ _ h => h) (Or.inl ⟨by rfl, ?_⟩) (by assumption) ?_
  rotate_left
  · intro w hSw
    go_simp
    try (with_reducible rfl)
  try simp only [Act.put, List.setIfInBounds_toArray, List.set_cons_zero, List.set_cons_succ]
  refine takeD (i := 1) (d := some 55) (v := ?_) rfl rfl (by kernel_rfl) (by kernel_rfl) (by kernel_rfl) (fun _ _ _ h => h) (Or.inl ⟨by rfl, ?_⟩) (by assumption) ?_
  rotate_left
  · intro w hSw
    go_simp
    try (with_reducible rfl)
  try simp only [Act.put, List.setIfInBounds_toArray, List.set_cons_zero, List.set_cons_succ]
  refine takeD (i := 2) (d := some 56) (v := ?_) rfl rfl (by kernel_rfl) (by kernel_rfl) (by kernel_rfl) (fun _ _ _ h => h) (Or.inl ⟨by rfl, ?_⟩) (by assumption) ?_
  rotate_left
  · intro w hSw
    go_simp
    try (with_reducible rfl)
  try simp only [Act.put, List.setIfInBounds_toArray, List.set_cons_zero, List.set_cons_succ]
  refine takeD (i := 3) (d := some 57) (v := ?_) rfl rfl (by kernel_rfl) (by kernel_rfl) (by kernel_rfl) (fun _ _ _ h => h) (Or.inl ⟨by rfl, ?_⟩) (by assumption) ?_
  rotate_left
  · intro w hSw
    go_simp
    try (with_reducible rfl)
  try simp only [Act.put, List.setIfInBounds_toArray, List.set_cons_zero, List.set_cons_succ]
  refine takeD (i := 5) (d := some 59) (v := ?_) rfl rfl (by kernel_rfl) (by kernel_rfl) (by kernel_rfl) (fun _ _ _ h => h) (Or.inl ⟨by rfl, ?_⟩) (by assumption) ?_
  rotate_left
  · intro w hSw
    go_simp
    try (with_reducible rfl)
  try simp only [Act.put, List.setIfInBounds_toArray, List.set_cons_zero, List.set_cons_succ]
  refine takeD (i := 6) (d := some 60) (v := ?_) rfl rfl (by kernel_rfl) (by kernel_rfl) (by kernel_rfl) (fun _ _ _ h => h) (Or.inl ⟨by rfl, ?_⟩) (by assumption) ?_
  rotate_left
  · intro w hSw
    go_simp
    try (with_reducible rfl)
  try simp only [Act.put, List.setIfInBounds_toArray, List.set_cons_zero, List.set_cons_succ]
  refine takeD (i := 7) (d := some 61) (v := ?_) rfl rfl (by kernel_rfl) (by kernel_rfl) (by kernel_rfl) (fun _ _ _ h => h) (Or.inl ⟨by rfl, ?_⟩) (by assumption) ?_
  rotate_left
  · intro w hSw
    go_simp
    try (with_reducible rfl)
  try simp only [Act.put, List.setIfInBounds_toArray, List.set_cons_zero, List.set_cons_succ]
  refine takeD (i := 8) (d := some 62) (v := ?_) rfl rfl (by kernel_rfl) (by kernel_rfl) (by kernel_rfl) (fun _ _ _ h => h) (Or.inl ⟨by rfl, ?_⟩) (by assumption) ?_
  rotate_left
  · intro w hSw
    go_simp
    try (with_reducible rfl)
  try simp only [Act.put, List.setIfInBounds_toArray, List.set_cons_zero, List.set_cons_succ]
  refine takeD (i := 9) (d := some 63) (v := ?_) rfl rfl (by kernel_rfl) (by kernel_rfl) (by kernel_rfl) (fun _ _ _ h => h) (Or.inl ⟨by rfl, ?_⟩) (by assumption) ?_
  rotate_left
  · intro w hSw
    go_simp
    try (with_reducible rfl)
  try simp only [Act.put, List.setIfInBounds_toArray, List.set_cons_zero, List.set_cons_succ]
  refine takeD (i := 10) (d := some 64) (v := ?_) rfl rfl (by kernel_rfl) (by kernel_rfl) (by kernel_rfl) (fun _ _ _ h => h) (Or.inl ⟨by rfl, ?_⟩) (by assumption) ?_
  rotate_left
  · intro w hSw
    go_simp
    try (with_reducible rfl)
  try simp only [Act.put, List.setIfInBounds_toArray, List.set_cons_zero, List.set_cons_succ]
  refine takeD (i := 11) (d := some 65) (v := ?_) rfl rfl (by kernel_rfl) (by kernel_rfl) (by kernel_rfl) (fun _ _ _ h => h) (Or.inl ⟨by rfl, ?_⟩) (by assumption) ?_
  rotate_left
  · intro w hSw
    go_simp
    try (with_reducible rfl)
  try simp only [Act.put, List.setIfInBounds_toArray, List.set_cons_zero, List.set_cons_succ]
  refine takeD (i := 12) (d := some 66) (v := ?_) rfl rfl (by kernel_rfl) (by kernel_rfl) (by kernel_rfl) (fun _ _ _ h => h) (Or.inl ⟨by rfl, ?_⟩) (by assumption) ?_
  rotate_left
  · intro w hSw
    go_simp
    try (with_reducible rfl)
  try simp only [Act.put, List.setIfInBounds_toArray, List.set_cons_zero, List.set_cons_succ]
  refine wpAnyH_ready (rs := [4]) (by kernel_rfl) (by simp) ?_
  refine AllReadyH.cons rfl (fun K hK => ?_) AllReadyH.nil
  go_simp
  go_wp2_with fail
  refine hK.out _ _ (⟨e3, e4⟩) (fun hHeld => ?_)
  clear hK K
  try simp only [Act.put, List.setIfInBounds_toArray, List.set_cons_zero, List.set_cons_succ]
  refine wpAnyH_ready (rs := [13]) (by kernel_rfl) (by simp) ?_
  refine AllReadyH.cons rfl (fun K hK => ?_) AllReadyH.nil
  go_simp
  go_wp2_with (go_at_call 40; go_must ((with_reducible refine C40.out.mono ?_); rintro e w3 ⟨rb', g', rfl, hR, hl1, hl2, hB⟩))
  have HR := hide hR
  have HB := hide hB
  have e3' := HKC.out w3 hB _ _ e3
  have e4' := HKC.out w3 hB _ _ e4
  have er' := HKC.out w3 hB _ _ er
  have fr' := HKF.out w3 hB
  have HL12 := hide (And.intro hl1 hl2)
  clear hR hl1 hl2 hB
  refine hK.out _ _ (⟨e3', e4'⟩) (fun hHeld => ?_)
  clear hK K
  try simp only [Act.put, List.setIfInBounds_toArray, List.set_cons_zero, List.set_cons_succ]
  refine takeD (i := 14) (d := some 68) (v := ?_) rfl rfl (by kernel_rfl) (by kernel_rfl) (by kernel_rfl) (fun _ _ _ h => h) (Or.inl ⟨by rfl, ?_⟩) (by assumption) ?_
  rotate_left
  · intro w hSw
    go_simp
    try (with_reducible rfl)
  try simp only [Act.put, List.setIfInBounds_toArray, List.set_cons_zero, List.set_cons_succ]
  refine takeD (i := 15) (d := some 69) (v := ?_) rfl rfl (by kernel_rfl) (by kernel_rfl) (by kernel_rfl) (fun _ _ _ h => h) (Or.inl ⟨by rfl, ?_⟩) (by assumption) ?_
  rotate_left
  · intro w hSw
    go_simp
    try (with_reducible rfl)
  try simp only [Act.put, List.setIfInBounds_toArray, List.set_cons_zero, List.set_cons_succ]
  refine wpAnyH_ready (rs := [16]) (by kernel_rfl) (by simp) ?_
  refine AllReadyH.cons rfl (fun K hK => ?_) AllReadyH.nil
  go_simp
  go_wp2_with fail
  refine hK.out _ _ (⟨by rw [World.cell?_setCell_other (h := by simp)]; exact e3', by rw [World.cell?_setCell_other (h := by simp)]; exact e4'⟩) (fun hHeld => ?_)
  clear hK K
  try simp only [Act.put, List.setIfInBounds_toArray, List.set_cons_zero, List.set_cons_succ]
  refine wpAnyH_done (by kernel_rfl) ?_ _
  refine NoPanic.normal ?_
  go_wp2
  go_ret
  refine ⟨by rw [HE.out]; rfl, rb', g', ?_, ?_, ?_⟩
  · rw [HE.out]
    exact (HD2.out.below (below_undrew HB.out)).setRing rb' g' _ _ HR.out (ne_sizes HL12.out.1 HLT.out.1 HZ.out HS2.out) (ne_sizes HL12.out.2 HLT.out.1 HZ.out HS2.out)
  · exact (HW.out.trans (Wr.ofB HB2.out)).trans ((Wr.ofB (below_undrew HB.out)).trans (Wr.set _ _ _ _ _))
  · exact .inr ⟨le_sizes HL12.out.1 HZ.out HS2.out, le_sizes HL12.out.2 HZ.out HS2.out⟩

end Go.Proofs.Ytaooglcjcnkgnaa
