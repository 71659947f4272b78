/- push, a part. -/
import Derived.Test.YtaooglcjcnkgnaaPshA
namespace Go.Proofs.Ytaooglcjcnkgnaa
open Go.RowKit Go.ChangeShapes Go.WideShapes Go.ChangeAt Go.Deep

set_option maxRecDepth 100000 in
set_option maxHeartbeats 1000000 in
theorem push_d (w : World) (cb g : Nat) (d : Dq) (p : Nat) (hp : p < 16) (h : DqM w cb g d) (hs : Sml 1000000 d) (hs3 : (d.c p).s = 3) : Calls Try.prog 37 #[.pointer (some ⟨cb, 0, none⟩), .pointer (some ⟨cb, 3 + p * 7, none⟩)] w (GoPost cb g (pushD d p) w) := by
  have hc0 := h.call p 0 hp (by omega)
  have hc1 := h.call p 1 hp (by omega)
  have hc5 := h.call p 5 hp (by omega)
  have hc6 := h.call p 6 hp (by omega)
  simp only [clv, Nat.add_zero] at hc0 hc1 hc5 hc6
  obtain ⟨c0, f0⟩ := hc0
  obtain ⟨c1, f1⟩ := hc1
  obtain ⟨c5, f5⟩ := hc5
  obtain ⟨c6, f6⟩ := hc6
  obtain ⟨ct, ft⟩ := h.top
  obtain ⟨cbt, fbt⟩ := h.bot
  have hb0 := hs.b p
  have ht0 := hs.top
  obtain ⟨hb1, hb2⟩ := hb0
  obtain ⟨ht1, ht2⟩ := ht0
  generalize hc : d.c p = c at *
  obtain ⟨b, t, v, won, k, i, s⟩ := c
  dsimp only at *
  have h3 : s = 3 := hs3
  clear hs3
  subst h3
  have h1' : ((3 : Int) == 1) = false := by decide
  have h2' : ((3 : Int) == 2) = false := by decide
  have HE := hide (show pushD d p = (0, { d with L := d.L.set (plc d.n b) i }) by unfold pushD; rw [hc]; simp)
  have C35 := hide (put_any w.drew cb 2 g d.n d.L b i (h.ring.drewN 1))
  have HD := hide h
  clear hs hc h
  generalize pushD d p = R at *
  go_enter Try.func37, Try.ntmps37
  go_upto_region 11 with fail
  refine wp_region_noPanic ?_
  refine wp_region_held_drew (S := fun W => W.cell? ⟨cb, 3 + p * 7, none⟩ = some (.int .i64 b) ∧ W.cell? ⟨cb, 3 + p * 7 + 5, none⟩ = some (.int .i64 i)) (by kernel_rfl) (⟨c0, c5⟩) (fun hHeld => ?_)
  refine takeD (i := 0) (d := some 76) (v := ?_) rfl rfl (by kernel_rfl) (by kernel_rfl) (by kernel_rfl) (fun _ _ _ h => h) (Or.inl ⟨by rfl, ?_⟩) (by assumption) ?_
  rotate_left
  · intro w hSw
    go_simp
    try (with_reducible rfl)
  try simp only [Act.put, List.setIfInBounds_toArray, List.set_cons_zero, List.set_cons_succ]
  refine takeD (i := 1) (d := some 77) (v := ?_) rfl rfl (by kernel_rfl) (by kernel_rfl) (by kernel_rfl) (fun _ _ _ h => h) (Or.inl ⟨by rfl, ?_⟩) (by assumption) ?_
  rotate_left
  · intro w hSw
    go_simp
    try (with_reducible rfl)
  try simp only [Act.put, List.setIfInBounds_toArray, List.set_cons_zero, List.set_cons_succ]
  refine takeD (i := 2) (d := some 78) (v := ?_) rfl rfl (by kernel_rfl) (by kernel_rfl) (by kernel_rfl) (fun _ _ _ h => h) (Or.inl ⟨by rfl, ?_⟩) (by assumption) ?_
  rotate_left
  · intro w hSw
    go_simp
    try (with_reducible rfl)
  try simp only [Act.put, List.setIfInBounds_toArray, List.set_cons_zero, List.set_cons_succ]
  refine takeD (i := 3) (d := some 79) (v := ?_) rfl rfl (by kernel_rfl) (by kernel_rfl) (by kernel_rfl) (fun _ _ _ h => h) (Or.inl ⟨by rfl, ?_⟩) (by assumption) ?_
  rotate_left
  · intro w hSw
    go_simp
    try (with_reducible rfl)
  try simp only [Act.put, List.setIfInBounds_toArray, List.set_cons_zero, List.set_cons_succ]
  refine takeD (i := 4) (d := some 80) (v := ?_) rfl rfl (by kernel_rfl) (by kernel_rfl) (by kernel_rfl) (fun _ _ _ h => h) (Or.inl ⟨by rfl, ?_⟩) (by assumption) ?_
  rotate_left
  · intro w hSw
    go_simp
    try (with_reducible rfl)
  try simp only [Act.put, List.setIfInBounds_toArray, List.set_cons_zero, List.set_cons_succ]
  refine takeD (i := 5) (d := some 81) (v := ?_) rfl rfl (by kernel_rfl) (by kernel_rfl) (by kernel_rfl) (fun _ _ _ h => h) (Or.inl ⟨by rfl, ?_⟩) (by assumption) ?_
  rotate_left
  · intro w hSw
    go_simp
    try (with_reducible rfl)
  try simp only [Act.put, List.setIfInBounds_toArray, List.set_cons_zero, List.set_cons_succ]
  refine takeD (i := 6) (d := some 82) (v := ?_) rfl rfl (by kernel_rfl) (by kernel_rfl) (by kernel_rfl) (fun _ _ _ h => h) (Or.inl ⟨by rfl, ?_⟩) (by assumption) ?_
  rotate_left
  · intro w hSw
    go_simp
    try (with_reducible rfl)
  try simp only [Act.put, List.setIfInBounds_toArray, List.set_cons_zero, List.set_cons_succ]
  refine takeD (i := 7) (d := some 83) (v := ?_) rfl rfl (by kernel_rfl) (by kernel_rfl) (by kernel_rfl) (fun _ _ _ h => h) (Or.inl ⟨by rfl, ?_⟩) (by assumption) ?_
  rotate_left
  · intro w hSw
    go_simp
    try (with_reducible rfl)
  try simp only [Act.put, List.setIfInBounds_toArray, List.set_cons_zero, List.set_cons_succ]
  refine takeD (i := 8) (d := some 84) (v := ?_) rfl rfl (by kernel_rfl) (by kernel_rfl) (by kernel_rfl) (fun _ _ _ h => h) (Or.inl ⟨by rfl, ?_⟩) (by assumption) ?_
  rotate_left
  · intro w hSw
    go_simp
    try (with_reducible rfl)
  try simp only [Act.put, List.setIfInBounds_toArray, List.set_cons_zero, List.set_cons_succ]
  refine takeD (i := 9) (d := some 85) (v := ?_) rfl rfl (by kernel_rfl) (by kernel_rfl) (by kernel_rfl) (fun _ _ _ h => h) (Or.inl ⟨by rfl, ?_⟩) (by assumption) ?_
  rotate_left
  · intro w hSw
    go_simp
    try (with_reducible rfl)
  try simp only [Act.put, List.setIfInBounds_toArray, List.set_cons_zero, List.set_cons_succ]
  refine takeD (i := 10) (d := some 86) (v := ?_) rfl rfl (by kernel_rfl) (by kernel_rfl) (by kernel_rfl) (fun _ _ _ h => h) (Or.inl ⟨by rfl, ?_⟩) (by assumption) ?_
  rotate_left
  · intro w hSw
    go_simp
    try (with_reducible rfl)
  try simp only [Act.put, List.setIfInBounds_toArray, List.set_cons_zero, List.set_cons_succ]
  refine takeD (i := 11) (d := some 87) (v := ?_) rfl rfl (by kernel_rfl) (by kernel_rfl) (by kernel_rfl) (fun _ _ _ h => h) (Or.inl ⟨by rfl, ?_⟩) (by assumption) ?_
  rotate_left
  · intro w hSw
    go_simp
    try (with_reducible rfl)
  try simp only [Act.put, List.setIfInBounds_toArray, List.set_cons_zero, List.set_cons_succ]
  refine wpAnyH_ready (rs := [12]) (by kernel_rfl) (by simp) ?_
  refine AllReadyH.cons rfl (fun K hK => ?_) AllReadyH.nil
  go_wp2_with (go_at_call 35; go_must ((with_reducible refine C35.out.mono ?_); rintro e w3 ⟨rfl, hR, hG⟩))
  have HR := hide hR
  have HG := hide hG
  have e0 := grown_cell c0 (undrew hG) HD.out.ne
  have e5 := grown_cell c5 (undrew hG) HD.out.ne
  clear hR hG
  refine hK.out _ _ (⟨e0, e5⟩) (fun hHeld => ?_)
  clear hK K
  try simp only [Act.put, List.setIfInBounds_toArray, List.set_cons_zero, List.set_cons_succ]
  refine wpAnyH_done (by kernel_rfl) ?_ _
  refine NoPanic.normal ?_
  go_wp2
  go_ret
  exact ⟨by rw [HE.out]; rfl, g, by rw [HE.out]; exact HD.out.setL HR.out (undrew HG.out), Wr.ofG (undrew HG.out), .inl rfl⟩
end Go.Proofs.Ytaooglcjcnkgnaa
