/- gleanerref1.Open: what stands ahead of the sum, and whether it is right. -/
import Derived.Test.YtpieagcijfkpnaaDoorFrC
namespace Go.Proofs.YtpieagcijfkpnaaDoor
open Go.RowKit Go.ChangeShapes Go.WideShapes Go.ChangeAt Go.Deep
attribute [local go_sem ↓] Go.wp_at_zero Go.wp_at_succ
set_option linter.unusedSimpArgs false

theorem reads_some {w : World} {a : Option Addr} {xs : List Nat} (h : Reads w a (bV xs)) (h0 : 0 < xs.length) : ∃ b off, a = some ⟨b, off, none⟩ := by
  rcases h with h | ⟨b, off, e, _⟩
  · have : xs = [] := by simpa [bV] using h
    subst this; simp at h0
  · exact ⟨b, off, e⟩

set_option maxRecDepth 100000 in
set_option maxHeartbeats 1000000 in
theorem open_any (a : Option Addr) (len cap : Nat) (bs : List Nat) (w : World) (hl : bs.length = len) (h5 : 5 ≤ len) (hlen : len ≤ 1000000) (hlc : len ≤ cap) (hcm : cap ≤ maxLen) (hB : Byt bs) (hr : Reads w a (bV bs)) :
    Calls Tryd.prog 28 #[.slice a len cap] w fun e w' => e = .returned (.tuple #[.slice a (len - 4) cap, .bool (decide (sealL (bs.take (len - 4)) = bs))]) ∧ Below w.heap.size w w' := by
  obtain ⟨b, off, rfl⟩ := reads_some hr (by omega)
  have hcm' : cap ≤ 9223372036854775807 := by unfold maxLen at hcm; omega
  clear hcm
  obtain ⟨k, rfl⟩ : ∃ k, len = k + 4 := ⟨len - 4, by omega⟩
  have hk4 : k + 4 - 4 = k := by omega
  rw [hk4]
  have HC := hide (sealed_any (some ⟨b, off, none⟩) k cap (bs.take k) w.drew (by simp; omega) (by omega) (fun h => by cases h) (hB.take k) (hr.take k).drew)
  have HSB := hide (fun (w' : World) (h : Below w.heap.size w w') => run_str (S := bstr bs) rfl hl (hr.below h) cap)
  have HQ := hide (bstr_eq (seal_byt (hB.take k)) hB)
  generalize decide (sealL (bs.take k) = bs) = D at HQ ⊢
  generalize bstr bs = Sb at HSB HQ
  generalize sealL (bs.take k) = Z at HC HQ
  have hi1 : ((k + 4 : Nat) : Int) - 4 = (k : Int) := by omega
  clear hr hl hB hk4
  go_enter Tryd.func28, Tryd.ntmps28
  go_wp2_with fail
  refine wp_region_noPanic ?_
  refine wp_region_held_drew (S := fun w' => Below w.heap.size w w') (by kernel_rfl) ((Below.refl _ _).drew) (fun hHeld => ?_)
  refine takeD (i := 0) (d := some 10) (v := ?_) rfl rfl (by kernel_rfl) (by kernel_rfl) (by kernel_rfl) (fun _ _ _ h => h) (Or.inl ⟨by rfl, ?_⟩) (by assumption) ?_
  rotate_left
  · intro w hSw
    go_simp
    try (with_reducible rfl)
  try simp only [Act.put, List.setIfInBounds_toArray, List.set_cons_zero, List.set_cons_succ]
  refine takeD (i := 1) (d := some 11) (v := ?_) rfl rfl (by kernel_rfl) (by kernel_rfl) (by kernel_rfl) (fun _ _ _ h => h) (Or.inl ⟨by rfl, ?_⟩) (by assumption) ?_
  rotate_left
  · intro w hSw
    go_simp
    try (with_reducible rfl)
  try simp only [Act.put, List.setIfInBounds_toArray, List.set_cons_zero, List.set_cons_succ]
  refine takeD (i := 4) (d := some 14) (v := ?_) rfl rfl (by kernel_rfl) (by kernel_rfl) (by kernel_rfl) (fun _ _ _ h => h) (Or.inl ⟨by rfl, ?_⟩) (by assumption) ?_
  rotate_left
  · intro w hSw
    go_simp
    try (with_reducible rfl)
  try simp only [Act.put, List.setIfInBounds_toArray, List.set_cons_zero, List.set_cons_succ]
  refine takeD (i := 5) (d := some 15) (v := ?_) rfl rfl (by kernel_rfl) (by kernel_rfl) (by kernel_rfl) (fun _ _ _ h => h) (Or.inl ⟨by rfl, ?_⟩) (by assumption) ?_
  rotate_left
  · intro w hSw
    have hcv := HSB.out _ hSw
    go_simp
    try (with_reducible rfl)
  try simp only [Act.put, List.setIfInBounds_toArray, List.set_cons_zero, List.set_cons_succ]
  refine wpAnyH_ready (rs := [2]) (by kernel_rfl) (by simp) ?_
  refine AllReadyH.cons rfl (fun K hK => ?_) AllReadyH.nil
  go_simp
  refine HC.out.mono ?_
  rintro e w2 ⟨v2, rfl, hv2, ho2, hb2⟩
  go_wp2_with fail
  clear hHeld
  have hB2 : Below w.heap.size w w2 := ((Below.refl _ _).drew).trans hb2
  refine hK.out _ _ hB2 (fun hHeld => ?_)
  clear hK K
  try simp only [Act.put, List.setIfInBounds_toArray, List.set_cons_zero, List.set_cons_succ]
  refine takeD (i := 7) (d := some 2) (v := ?_) rfl rfl (by kernel_rfl) (by kernel_rfl) (by kernel_rfl) (fun _ _ _ h => h) (Or.inl ⟨by rfl, ?_⟩) (by assumption) ?_
  rotate_left
  · intro w hSw
    go_simp
    try (with_reducible rfl)
  try simp only [Act.put, List.setIfInBounds_toArray, List.set_cons_zero, List.set_cons_succ]
  refine wpAnyH_ready (rs := [3]) (by kernel_rfl) (by simp) ?_
  refine AllReadyH.cons rfl (fun K hK => ?_) AllReadyH.nil
  obtain ⟨g2, cap2, m2, rfl, hm2, _, _, _, hr2⟩ := reads_own' ho2 hv2
  have hcv := run_str (S := bstr Z) rfl hm2.out hr2 cap2
  go_simp
  clear hHeld
  refine hK.out _ _ hB2 (fun hHeld => ?_)
  clear hK K
  try simp only [Act.put, List.setIfInBounds_toArray, List.set_cons_zero, List.set_cons_succ]
  refine takeD (i := 6) (d := some 16) (v := ?_) rfl rfl (by kernel_rfl) (by kernel_rfl) (by kernel_rfl) (fun _ _ _ h => h) (Or.inl ⟨by rfl, ?_⟩) (by assumption) ?_
  rotate_left
  · intro w hSw
    go_simp
    try (with_reducible rfl)
  try simp only [Act.put, List.setIfInBounds_toArray, List.set_cons_zero, List.set_cons_succ]
  refine takeD (i := 8) (d := some 3) (v := ?_) rfl rfl (by kernel_rfl) (by kernel_rfl) (by kernel_rfl) (fun _ _ _ h => h) (Or.inl ⟨by rfl, ?_⟩) (by assumption) ?_
  rotate_left
  · intro w hSw
    go_simp
    try (with_reducible rfl)
  try simp only [Act.put, List.setIfInBounds_toArray, List.set_cons_zero, List.set_cons_succ]
  refine wpAnyH_done (by kernel_rfl) ?_ _
  refine NoPanic.normal ?_
  go_wp2
  go_ret2
  exact ⟨by rw [← HQ.out]; rfl, hB2⟩
end Go.Proofs.YtpieagcijfkpnaaDoor
