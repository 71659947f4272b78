/- push, a part. -/
import Derived.Test.YtaooglcjcnkgnaaPshA
namespace Go.Proofs.Ytaooglcjcnkgnaa
open Go.RowKit Go.ChangeShapes Go.WideShapes Go.ChangeAt Go.Deep

set_option maxRecDepth 100000 in
set_option maxHeartbeats 1000000 in
theorem push_b (w : World) (cb g : Nat) (d : Dq) (p : Nat) (hp : p < 16) (h : DqM w cb g d) (hs : Sml 1000000 d) (hs2 : (d.c p).s = 2) (hg : (d.n : Int) - 1 ≤ (d.c p).b - d.top) : Calls Try.prog 37 #[.pointer (some ⟨cb, 0, none⟩), .pointer (some ⟨cb, 3 + p * 7, none⟩)] w (GoPost cb g (pushD d p) w) := by
  have hc0 := h.call p 0 hp (by omega)
  have hc1 := h.call p 1 hp (by omega)
  have hc5 := h.call p 5 hp (by omega)
  have hc6 := h.call p 6 hp (by omega)
  simp only [clv, Nat.add_zero] at hc0 hc1 hc5 hc6
  obtain ⟨c0, f0⟩ := hc0
  obtain ⟨c1, f1⟩ := hc1
  obtain ⟨c5, f5⟩ := hc5
  obtain ⟨c6, f6⟩ := hc6
  obtain ⟨ct, ft⟩ := h.top
  obtain ⟨cbt, fbt⟩ := h.bot
  have hb0 := hs.b p
  have ht0 := hs.top
  obtain ⟨hb1, hb2⟩ := hb0
  obtain ⟨ht1, ht2⟩ := ht0
  generalize hc : d.c p = c at *
  obtain ⟨b, t, v, won, k, i, s⟩ := c
  dsimp only at *
  have h2 : s = 2 := hs2
  have h1 : True := trivial
  clear hs2
  subst h2
  have h1' : ((2 : Int) == 1) = false := by decide
  have HD := hide (h.setCall p 1 hp (by omega) (.int .i64 d.top) { b := b, t := d.top, v := v, won := won, k := k, i := i, s := 2 } (by intro j hj; rw [hc]; rcases j with _ | _ | _ | _ | _ | _ | _ | j <;> simp [clv] <;> omega))
  have HW := hide (Wr.set cb g (3 + p * 7 + 1) (.int .i64 d.top) w)
  have HE := hide (show pushD d p = (0, { d.put p { b := b, t := d.top, v := v, won := won, k := k, i := i, s := 2 } with n := gsz d.n, L := growK d.n (gsz d.n) d.L d.top (cnt d.n d.top b) }) by
    unfold pushD; rw [hc]; simp [hg])
  clear h1 hs
  have hn := h.pow.pos
  obtain ⟨hn1, hn2⟩ := hn
  have hw1 : IntKind.i64.wrap (b - d.top) = b - d.top := by rw [IntKind.wrap_i64]; omega
  have hw2 : IntKind.i64.wrap ((d.n : Int) - 1) = (d.n : Int) - 1 := by rw [IntKind.wrap_i64]; omega
  have hg' : decide ((d.n : Int) - 1 ≤ b - d.top) = true := by simpa using hg
  have HT := hide (show I64 d.top ∧ I64 b by unfold I64; omega)
  generalize pushD d p = R at *
  have HL := hide h.lt
  clear h hc
  go_enter Try.func37, Try.ntmps37
  go_upto_region 8 with fail
  have HS := hide (show (w.setCell ⟨cb, 3 + p * 7 + 1, none⟩ (.int .i64 d.top)).heap.size = w.heap.size by simp [World.setCell])
  generalize w.setCell ⟨cb, 3 + p * 7 + 1, none⟩ (.int .i64 d.top) = w1 at *
  have hd0 := (HD.out.call p 0 hp (by omega))
  have hd1 := (HD.out.call p 1 hp (by omega))
  rw [Dq.put_same] at hd0 hd1
  simp only [clv, Nat.add_zero] at hd0 hd1
  obtain ⟨e0, g0⟩ := hd0
  obtain ⟨e1, g1⟩ := hd1
  clear c0 c1 c5 c6 ct cbt f0 f1 f5 f6 ft fbt
  have C44 := hide (fun q => size_any (w1.drewN q) cb 2 g d.n d.L (HD.out.ring.drewN q))
  go_big_quiet (first | (go_at_call 44; with_reducible exact Calls.quiet_of_same (C44.out _)))
  go_upto_region 9 with fail
  generalize hq : w1.drewN _ = w2
  have HB2 := hide (show Below w1.heap.size w1 w2 by rw [← hq]; exact below_drewN (Below.refl _ _) _)
  have HD2 := hide (HD.out.below HB2.out)
  have HS2 := hide (show w2.heap.size = w1.heap.size by rw [← hq]; rfl)
  replace e0 := keep_cell e0 HB2.out
  replace e1 := keep_cell e1 HB2.out
  have HS := HS
  have c2 : w2.cell? ⟨cb, 2, none⟩ = some (.slice (some ⟨g, 0, none⟩) d.n d.n) := HD2.out.ring.box
  have f2 : w2.frozen? ⟨cb, 2, none⟩ = false := (HD2.out.bx 2 (by omega)).2
  clear hq g0 g1
  have C45 := hide (grown_any w2.drew cb 2 g d.n d.L d.top b (HD2.out.ring.drewN 1) HT.out.1 HT.out.2)
  have HKC := hide (fun (W : World) (hB : Below w2.drew.heap.size w2.drew W) (j : Nat) (v : Value) (hv : w2.cell? ⟨cb, j, none⟩ = some v) => show W.cell? ⟨cb, j, none⟩ = some v from keep_cell hv (below_undrew hB))
  have HKF := hide (fun (W : World) (hB : Below w2.drew.heap.size w2.drew W) => show W.frozen? ⟨cb, 2, none⟩ = false by rw [keep_frozen c2 (below_undrew hB)]; exact f2)
  refine wp_region_noPanic ?_
  refine wp_region_held_drew (S := fun W => W.cell? ⟨cb, 3 + p * 7, none⟩ = some (.int .i64 b) ∧ W.cell? ⟨cb, 3 + p * 7 + 1, none⟩ = some (.int .i64 d.top)) (by kernel_rfl) (⟨e0, e1⟩) (fun hHeld => ?_)
  refine takeD (i := 0) (d := some 55) (v := ?_) rfl rfl (by kernel_rfl) (by kernel_rfl) (by kernel_rfl) (fun _ _ _ h => h) (Or.inl ⟨by rfl, ?_⟩) (by assumption) ?_
  rotate_left
  · intro w hSw
    go_simp
    try (with_reducible rfl)
  try simp only [Act.put, List.setIfInBounds_toArray, List.set_cons_zero, List.set_cons_succ]
  refine takeD (i := 1) (d := some 56) (v := ?_) rfl rfl (by kernel_rfl) (by kernel_rfl) (by kernel_rfl) (fun _ _ _ h => h) (Or.inl ⟨by rfl, ?_⟩) (by assumption) ?_
  rotate_left
  · intro w hSw
    go_simp
    try (with_reducible rfl)
  try simp only [Act.put, List.setIfInBounds_toArray, List.set_cons_zero, List.set_cons_succ]
  refine takeD (i := 2) (d := some 57) (v := ?_) rfl rfl (by kernel_rfl) (by kernel_rfl) (by kernel_rfl) (fun _ _ _ h => h) (Or.inl ⟨by rfl, ?_⟩) (by assumption) ?_
  rotate_left
  · intro w hSw
    go_simp
    try (with_reducible rfl)
  try simp only [Act.put, List.setIfInBounds_toArray, List.set_cons_zero, List.set_cons_succ]
  refine takeD (i := 3) (d := some 58) (v := ?_) rfl rfl (by kernel_rfl) (by kernel_rfl) (by kernel_rfl) (fun _ _ _ h => h) (Or.inl ⟨by rfl, ?_⟩) (by assumption) ?_
  rotate_left
  · intro w hSw
    go_simp
    try (with_reducible rfl)
  try simp only [Act.put, List.setIfInBounds_toArray, List.set_cons_zero, List.set_cons_succ]
  refine takeD (i := 4) (d := some 59) (v := ?_) rfl rfl (by kernel_rfl) (by kernel_rfl) (by kernel_rfl) (fun _ _ _ h => h) (Or.inl ⟨by rfl, ?_⟩) (by assumption) ?_
  rotate_left
  · intro w hSw
    go_simp
    try (with_reducible rfl)
  try simp only [Act.put, List.setIfInBounds_toArray, List.set_cons_zero, List.set_cons_succ]
  refine takeD (i := 5) (d := some 60) (v := ?_) rfl rfl (by kernel_rfl) (by kernel_rfl) (by kernel_rfl) (fun _ _ _ h => h) (Or.inl ⟨by rfl, ?_⟩) (by assumption) ?_
  rotate_left
  · intro w hSw
    go_simp
    try (with_reducible rfl)
  try simp only [Act.put, List.setIfInBounds_toArray, List.set_cons_zero, List.set_cons_succ]
  refine takeD (i := 6) (d := some 61) (v := ?_) rfl rfl (by kernel_rfl) (by kernel_rfl) (by kernel_rfl) (fun _ _ _ h => h) (Or.inl ⟨by rfl, ?_⟩) (by assumption) ?_
  rotate_left
  · intro w hSw
    go_simp
    try (with_reducible rfl)
  try simp only [Act.put, List.setIfInBounds_toArray, List.set_cons_zero, List.set_cons_succ]
  refine takeD (i := 7) (d := some 62) (v := ?_) rfl rfl (by kernel_rfl) (by kernel_rfl) (by kernel_rfl) (fun _ _ _ h => h) (Or.inl ⟨by rfl, ?_⟩) (by assumption) ?_
  rotate_left
  · intro w hSw
    go_simp
    try (with_reducible rfl)
  try simp only [Act.put, List.setIfInBounds_toArray, List.set_cons_zero, List.set_cons_succ]
  refine takeD (i := 8) (d := some 63) (v := ?_) rfl rfl (by kernel_rfl) (by kernel_rfl) (by kernel_rfl) (fun _ _ _ h => h) (Or.inl ⟨by rfl, ?_⟩) (by assumption) ?_
  rotate_left
  · intro w hSw
    go_simp
    try (with_reducible rfl)
  try simp only [Act.put, List.setIfInBounds_toArray, List.set_cons_zero, List.set_cons_succ]
  refine takeD (i := 9) (d := some 64) (v := ?_) rfl rfl (by kernel_rfl) (by kernel_rfl) (by kernel_rfl) (fun _ _ _ h => h) (Or.inl ⟨by rfl, ?_⟩) (by assumption) ?_
  rotate_left
  · intro w hSw
    go_simp
    try (with_reducible rfl)
  try simp only [Act.put, List.setIfInBounds_toArray, List.set_cons_zero, List.set_cons_succ]
  refine takeD (i := 10) (d := some 65) (v := ?_) rfl rfl (by kernel_rfl) (by kernel_rfl) (by kernel_rfl) (fun _ _ _ h => h) (Or.inl ⟨by rfl, ?_⟩) (by assumption) ?_
  rotate_left
  · intro w hSw
    go_simp
    try (with_reducible rfl)
  try simp only [Act.put, List.setIfInBounds_toArray, List.set_cons_zero, List.set_cons_succ]
  refine takeD (i := 11) (d := some 66) (v := ?_) rfl rfl (by kernel_rfl) (by kernel_rfl) (by kernel_rfl) (fun _ _ _ h => h) (Or.inl ⟨by rfl, ?_⟩) (by assumption) ?_
  rotate_left
  · intro w hSw
    go_simp
    try (with_reducible rfl)
  try simp only [Act.put, List.setIfInBounds_toArray, List.set_cons_zero, List.set_cons_succ]
  refine takeD (i := 12) (d := some 67) (v := ?_) rfl rfl (by kernel_rfl) (by kernel_rfl) (by kernel_rfl) (fun _ _ _ h => h) (Or.inl ⟨by rfl, ?_⟩) (by assumption) ?_
  rotate_left
  · intro w hSw
    go_simp
    try (with_reducible rfl)
  try simp only [Act.put, List.setIfInBounds_toArray, List.set_cons_zero, List.set_cons_succ]
  refine takeD (i := 13) (d := some 68) (v := ?_) rfl rfl (by kernel_rfl) (by kernel_rfl) (by kernel_rfl) (fun _ _ _ h => h) (Or.inl ⟨by rfl, ?_⟩) (by assumption) ?_
  rotate_left
  · intro w hSw
    go_simp
    try (with_reducible rfl)
  try simp only [Act.put, List.setIfInBounds_toArray, List.set_cons_zero, List.set_cons_succ]
  refine wpAnyH_ready (rs := [14]) (by kernel_rfl) (by simp) ?_
  refine AllReadyH.cons rfl (fun K hK => ?_) AllReadyH.nil
  go_simp
  go_wp2_with (go_at_call 45; go_must ((with_reducible refine C45.out.mono ?_); rintro e w3 ⟨cb', g', rfl, hR, hl1, hl2, hB⟩))
  have HR := hide hR
  have hbx := hR.box
  have HB := hide hB
  have c2' := HKC.out w3 hB 2 _ c2
  have f2' := HKF.out w3 hB
  have e0' := HKC.out w3 hB _ _ e0
  have e1' := HKC.out w3 hB _ _ e1
  have HL12 := hide (And.intro hl1 hl2)
  clear hR hl1 hl2 hB
  refine hK.out _ _ (⟨e0', e1'⟩) (fun hHeld => ?_)
  clear hK K
  try simp only [Act.put, List.setIfInBounds_toArray, List.set_cons_zero, List.set_cons_succ]
  refine takeD (i := 15) (d := some 70) (v := ?_) rfl rfl (by kernel_rfl) (by kernel_rfl) (by kernel_rfl) (fun _ _ _ h => h) (Or.inl ⟨by rfl, ?_⟩) (by assumption) ?_
  rotate_left
  · intro w hSw
    go_simp
    try (with_reducible rfl)
  try simp only [Act.put, List.setIfInBounds_toArray, List.set_cons_zero, List.set_cons_succ]
  refine wpAnyH_ready (rs := [16]) (by kernel_rfl) (by simp) ?_
  refine AllReadyH.cons rfl (fun K hK => ?_) AllReadyH.nil
  go_simp
  go_wp2_with fail
  refine hK.out _ _ (⟨e0', e1'⟩) (fun hHeld => ?_)
  clear hK K
  try simp only [Act.put, List.setIfInBounds_toArray, List.set_cons_zero, List.set_cons_succ]
  refine takeD (i := 17) (d := some 72) (v := ?_) rfl rfl (by kernel_rfl) (by kernel_rfl) (by kernel_rfl) (fun _ _ _ h => h) (Or.inl ⟨by rfl, ?_⟩) (by assumption) ?_
  rotate_left
  · intro w hSw
    go_simp
    try (with_reducible rfl)
  try simp only [Act.put, List.setIfInBounds_toArray, List.set_cons_zero, List.set_cons_succ]
  refine takeD (i := 18) (d := some 73) (v := ?_) rfl rfl (by kernel_rfl) (by kernel_rfl) (by kernel_rfl) (fun _ _ _ h => h) (Or.inl ⟨by rfl, ?_⟩) (by assumption) ?_
  rotate_left
  · intro w hSw
    go_simp
    try (with_reducible rfl)
  try simp only [Act.put, List.setIfInBounds_toArray, List.set_cons_zero, List.set_cons_succ]
  refine wpAnyH_ready (rs := [19]) (by kernel_rfl) (by simp) ?_
  refine AllReadyH.cons rfl (fun K hK => ?_) AllReadyH.nil
  go_simp
  go_wp2_with fail
  refine hK.out _ _ ⟨by rw [World.cell?_setCell_other (h := by simp)]; exact e0', by rw [World.cell?_setCell_other (h := by simp)]; exact e1'⟩ (fun hHeld => ?_)
  clear hK K
  try simp only [Act.put, List.setIfInBounds_toArray, List.set_cons_zero, List.set_cons_succ]
  refine wpAnyH_done (by kernel_rfl) ?_ _
  refine NoPanic.normal ?_
  go_wp2
  go_ret
  refine ⟨by rw [HE.out]; rfl, g', ?_, ?_, ?_⟩
  · rw [HE.out]
    exact (HD2.out.below (below_undrew HB.out)).setRing cb' g' _ _ HR.out (ne_sizes HL12.out.2 HL.out.1 HS.out HS2.out)
  · exact (HW.out.trans (Wr.ofB HB2.out)).trans ((Wr.ofB (below_undrew HB.out)).trans (Wr.set _ _ _ _ _))
  · right
    exact le_sizes HL12.out.2 HS.out HS2.out
end Go.Proofs.Ytaooglcjcnkgnaa
