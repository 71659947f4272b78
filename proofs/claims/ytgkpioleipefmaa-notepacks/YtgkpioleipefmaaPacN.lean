/- NotePacks' walk. -/
import Derived.Test.YtgkpioleipefmaaCutN
namespace Go.Proofs.Ytgkpioleipefmaa
namespace notePacks
open Go.RowKit Go.ChangeShapes Go.WideShapes Go.ChangeAt Go.Deep
open noteFields noteCuts
attribute [local go_sem ↓] Go.wp_at_zero Go.wp_at_succ
set_option linter.unusedSimpArgs false

set_option maxRecDepth 100000 in
set_option maxHeartbeats 16000000 in
theorem skip (n : No) (s : ByteArray) (aa ma : Option Addr) (al ac ml mc : Nat) (w : World) (hs : s.size ≤ maxLen) (hb : 500 < s.size ∨ 200 < al ∨ 200 < ml) : Calls Try.prog 3 #[.agg #[.int .i64 n.kind, .int .i64 n.node, .int .i64 n.life, .int .i64 n.epoch, .string s, .int .i64 n.func, .slice aa al ac, .int .i64 n.err, .int .i64 n.val, .int .i64 n.vep, .slice ma ml mc]] w fun e w' => e = .returned (.bool true) ∧ Below w.heap.size w w' := by
  have CB := hide (fun W => big_yes n.kind n.node n.life n.epoch s n.func aa al ac n.err n.val n.vep ma ml mc W hs hb)
  clear hs hb
  obtain ⟨V, hV⟩ : ∃ V, V = w.alloc (.cells #[.int .i64 n.kind, .int .i64 n.node, .int .i64 n.life, .int .i64 n.epoch, .string s, .int .i64 n.func, .slice aa al ac, .int .i64 n.err, .int .i64 n.val, .int .i64 n.vep, .slice ma ml mc] 31) := ⟨_, rfl⟩
  have HX := hide (show BoxL V w.heap.size [.int .i64 n.kind, .int .i64 n.node, .int .i64 n.life, .int .i64 n.epoch, .string s, .int .i64 n.func, .slice aa al ac, .int .i64 n.err, .int .i64 n.val, .int .i64 n.vep, .slice ma ml mc] by rw [hV]; exact BoxL.new w _ 31)
  have HB := hide (show Below w.heap.size w V by rw [hV]; exact below_new w _)
  have HV := hide hV
  clear hV
  go_enter Try.func3, Try.ntmps3
  go_wp2_with (first
    | (go_at_call 9; go_must (rw [← HV.out]; (with_reducible refine (alive_any V).mono ?_); rintro e w1 ⟨rfl, hb1⟩; have HX1 := hide (HX.out.below hb1); have HB1 := hide (HB.out.trans (hb1.mono HB.out.size)); obtain ⟨k0, k1, k2, k3, k4, k5, k6, k7, k8, k9, k10⟩ := HX1.out.c11; clear hb1))
    | (go_at_call 10; go_must ((with_reducible refine (CB.out w1).mono ?_); rintro e w2 ⟨rfl, hb2⟩; have HX2 := hide (HX1.out.below hb2); have HB2 := hide (HB1.out.trans (hb2.mono HB1.out.size)); clear k0 k1 k2 k3 k4 k5 k6 k7 k8 k9 k10; obtain ⟨g0, g1, g2, g3, g4, g5, g6, g7, g8, g9, g10⟩ := HX2.out.c11; clear hb2)))
  go_ret
  exact ⟨rfl, HB2.out⟩

set_option maxRecDepth 100000 in
set_option maxHeartbeats 16000000 in
theorem no (n : No) (s : ByteArray) (aa ma : Option Addr) (al ac ml mc : Nat) (w : World) (q : Small s al ml) (o : ArgN w n s aa al ac ma ml mc) (hm : mayN (clearN n) = false) : Calls Try.prog 3 #[.agg #[.int .i64 n.kind, .int .i64 n.node, .int .i64 n.life, .int .i64 n.epoch, .string s, .int .i64 n.func, .slice aa al ac, .int .i64 n.err, .int .i64 n.val, .int .i64 n.vep, .slice ma ml mc]] w fun e w' => e = .returned (.bool true) ∧ Below w.heap.size w w' := by
  have CB := hide (fun W => big_no n.kind n.node n.life n.epoch s n.func aa al ac n.err n.val n.vep ma ml mc W q.1 q.2.1 q.2.2)
  have CP := hide (fun W (hb : Below w.heap.size w W) => packN n s (.slice aa al ac) (.slice ma ml mc) 0 W ((small_mem o q).below hb) o.inn hm)
  have CR := hide (fun W (hb : Below w.heap.size w W) => rpackN n s (.slice aa al ac) (.slice ma ml mc) 0 W ((small_mem o q).below hb) o.inn hm)
  have CC := hide (fun W (hb : Below w.heap.size w W) => clear_any n s (.slice aa al ac) (.slice ma ml mc) 0 W ((small_mem o q).below hb))
  have CD := hide (fun W (hb : Below w.heap.size w W) => rclear_any n s aa ma al ac ml mc 0 W ((small_mem o q).below hb))
  have CS := hide (fun W s s' av mv av' mv' B B' (h : NM B W (clearN n) s av mv) (h' : NM B' W (clearN n) s' av' mv') => (show Calls Try.prog 14 #[Nv (clearN n) s av mv, Nv (clearN n) s' av' mv'] W fun e w' => e = .returned (.bool true) ∧ Below W.heap.size W w' from by
    refine (sameNote_any (clearN n) (clearN n) s s' av mv av' mv' B B' W h h').mono ?_
    rintro e w' ⟨R, rfl, hR, hb⟩
    rw [hR.2 rfl]
    exact ⟨rfl, hb⟩))
  unfold NPost at CC
  simp only [Nv] at CP CR CC CD CS
  generalize clearN n = nn at CC CD CS hm
  clear q o hm
  obtain ⟨V, hV⟩ : ∃ V, V = w.alloc (.cells #[.int .i64 n.kind, .int .i64 n.node, .int .i64 n.life, .int .i64 n.epoch, .string s, .int .i64 n.func, .slice aa al ac, .int .i64 n.err, .int .i64 n.val, .int .i64 n.vep, .slice ma ml mc] 31) := ⟨_, rfl⟩
  have HX := hide (show BoxL V w.heap.size [.int .i64 n.kind, .int .i64 n.node, .int .i64 n.life, .int .i64 n.epoch, .string s, .int .i64 n.func, .slice aa al ac, .int .i64 n.err, .int .i64 n.val, .int .i64 n.vep, .slice ma ml mc] by rw [hV]; exact BoxL.new w _ 31)
  have HB := hide (show Below w.heap.size w V by rw [hV]; exact below_new w _)
  have HV := hide hV
  clear hV
  go_enter Try.func3, Try.ntmps3
  go_upto_region 7 with (first
    | (go_at_call 9; go_must (rw [← HV.out]; (with_reducible refine (alive_any V).mono ?_); rintro e w1 ⟨rfl, hb1⟩; have HX1 := hide (HX.out.below hb1); have HB1 := hide (HB.out.trans (hb1.mono HB.out.size)); obtain ⟨k0, k1, k2, k3, k4, k5, k6, k7, k8, k9, k10⟩ := HX1.out.c11; clear hb1))
    | (go_at_call 10; go_must ((with_reducible refine (CB.out w1).mono ?_); rintro e w2 ⟨rfl, hb2⟩; have HX2 := hide (HX1.out.below hb2); have HB2 := hide (HB1.out.trans (hb2.mono HB1.out.size)); clear k0 k1 k2 k3 k4 k5 k6 k7 k8 k9 k10; obtain ⟨g0, g1, g2, g3, g4, g5, g6, g7, g8, g9, g10⟩ := HX2.out.c11; clear hb2))
    | (go_at_call 11; go_must ((with_reducible refine (CP.out _ HB2.out).mono ?_); rintro e w3 ⟨rfl, hb3⟩; have HX3 := hide (HX2.out.below hb3); have HB3 := hide (HB2.out.trans (hb3.mono HB2.out.size)); clear g0 g1 g2 g3 g4 g5 g6 g7 g8 g9 g10; obtain ⟨p0, p1, p2, p3, p4, p5, p6, p7, p8, p9, p10⟩ := HX3.out.c11; clear hb3))
    | (go_at_call 12; go_must ((with_reducible refine (CR.out _ HB3.out).mono ?_); rintro e w4 ⟨rfl, hb4⟩; have HX4 := hide (HX3.out.below hb4); have HB4 := hide (HB3.out.trans (hb4.mono HB3.out.size)); clear p0 p1 p2 p3 p4 p5 p6 p7 p8 p9 p10; clear hb4)))
  have HSA := hide (fun (W : World) (_ : Below w4.heap.size w4 W) => run_str (w := W) (S := bstr []) (xs := []) (a := none) (m := 0) rfl rfl (.inl rfl) 0)
  have HSB := HSA
  have hQ1 : ((bstr []).toList == (bstr []).toList) = true := by simp
  generalize bstr [] = S1 at HSA HSB hQ1
  refine wp_region_noPanic ?_
  have hN : Below w4.heap.size w4 w4.drew := (Below.refl _ _).drew
  refine wp_region_held_drew (S := fun W => Below w4.heap.size w4 W) (by kernel_rfl) ((Below.refl _ _).drew) (fun hHeld => ?_)
  refine takeD (i := 0) (d := some 30) (v := ?_) rfl rfl (by kernel_rfl) (by kernel_rfl) (by kernel_rfl) (fun _ _ _ h => h) (Or.inl ⟨by rfl, ?_⟩) (by assumption) ?_
  rotate_left
  · intro w hSw
    go_simp
    try (with_reducible rfl)
  try simp only [Act.put, List.setIfInBounds_toArray, List.set_cons_zero, List.set_cons_succ]
  refine takeD (i := 2) (d := some 32) (v := ?_) rfl rfl (by kernel_rfl) (by kernel_rfl) (by kernel_rfl) (fun _ _ _ h => h) (Or.inl ⟨by rfl, ?_⟩) (by assumption) ?_
  rotate_left
  · intro w hSw
    go_simp
    try (with_reducible rfl)
  try simp only [Act.put, List.setIfInBounds_toArray, List.set_cons_zero, List.set_cons_succ]
  refine wpAnyH_ready (rs := [1]) (by kernel_rfl) (by simp) ?_
  refine AllReadyH.cons rfl (fun K hK => ?_) AllReadyH.nil
  go_simp
  (with_reducible refine (lnum_any _ _).mono ?_)
  rintro e wz ⟨rfl, rfl⟩
  go_wp2_with fail
  refine hK.out _ _ hHeld (fun hHeld => ?_)
  clear hK K
  try simp only [Act.put, List.setIfInBounds_toArray, List.set_cons_zero, List.set_cons_succ]
  refine takeD (i := 3) (d := some 33) (v := ?_) rfl rfl (by kernel_rfl) (by kernel_rfl) (by kernel_rfl) (fun _ _ _ h => h) (Or.inl ⟨by rfl, ?_⟩) (by assumption) ?_
  rotate_left
  · intro w hSw
    go_simp
    try (with_reducible rfl)
  try simp only [Act.put, List.setIfInBounds_toArray, List.set_cons_zero, List.set_cons_succ]
  refine takeD (i := 4) (d := some 34) (v := ?_) rfl rfl (by kernel_rfl) (by kernel_rfl) (by kernel_rfl) (fun _ _ _ h => h) (Or.inl ⟨by rfl, ?_⟩) (by assumption) ?_
  rotate_left
  · intro w hSw
    go_simp
    try (with_reducible rfl)
  try simp only [Act.put, List.setIfInBounds_toArray, List.set_cons_zero, List.set_cons_succ]
  refine takeD (i := 5) (d := some 35) (v := ?_) rfl rfl (by kernel_rfl) (by kernel_rfl) (by kernel_rfl) (fun _ _ _ h => h) (Or.inl ⟨by rfl, ?_⟩) (by assumption) ?_
  rotate_left
  · intro w hSw
    go_simp
    try (with_reducible rfl)
  try simp only [Act.put, List.setIfInBounds_toArray, List.set_cons_zero, List.set_cons_succ]
  refine takeD (i := 6) (d := some 36) (v := ?_) rfl rfl (by kernel_rfl) (by kernel_rfl) (by kernel_rfl) (fun _ _ _ h => h) (Or.inl ⟨by rfl, ?_⟩) (by assumption) ?_
  rotate_left
  · intro w hSw
    have hcv := HSA.out _ hSw
    go_simp
    try (with_reducible rfl)
  try simp only [Act.put, List.setIfInBounds_toArray, List.set_cons_zero, List.set_cons_succ]
  refine takeD (i := 7) (d := some 37) (v := ?_) rfl rfl (by kernel_rfl) (by kernel_rfl) (by kernel_rfl) (fun _ _ _ h => h) (Or.inl ⟨by rfl, ?_⟩) (by assumption) ?_
  rotate_left
  · intro w hSw
    go_simp
    try (with_reducible rfl)
  try simp only [Act.put, List.setIfInBounds_toArray, List.set_cons_zero, List.set_cons_succ]
  refine takeD (i := 8) (d := some 38) (v := ?_) rfl rfl (by kernel_rfl) (by kernel_rfl) (by kernel_rfl) (fun _ _ _ h => h) (Or.inl ⟨by rfl, ?_⟩) (by assumption) ?_
  rotate_left
  · intro w hSw
    have hcv := HSB.out _ hSw
    go_simp
    try (with_reducible rfl)
  try simp only [Act.put, List.setIfInBounds_toArray, List.set_cons_zero, List.set_cons_succ]
  refine takeD (i := 9) (d := some 39) (v := ?_) rfl rfl (by kernel_rfl) (by kernel_rfl) (by kernel_rfl) (fun _ _ _ h => h) (Or.inl ⟨by rfl, ?_⟩) (by assumption) ?_
  rotate_left
  · intro w hSw
    go_simp
    try (with_reducible rfl)
  try simp only [Act.put, List.setIfInBounds_toArray, List.set_cons_zero, List.set_cons_succ]
  refine takeD (i := 10) (d := some 40) (v := ?_) rfl rfl (by kernel_rfl) (by kernel_rfl) (by kernel_rfl) (fun _ _ _ h => h) (Or.inl ⟨by rfl, ?_⟩) (by assumption) ?_
  rotate_left
  · intro w hSw
    go_simp
    try (with_reducible rfl)
  try simp only [Act.put, List.setIfInBounds_toArray, List.set_cons_zero, List.set_cons_succ]
  refine takeD (i := 11) (d := some 41) (v := ?_) rfl rfl (by kernel_rfl) (by kernel_rfl) (by kernel_rfl) (fun _ _ _ h => h) (Or.inl ⟨by rfl, ?_⟩) (by assumption) ?_
  rotate_left
  · intro w hSw
    go_simp
    try (with_reducible rfl)
  try simp only [Act.put, List.setIfInBounds_toArray, List.set_cons_zero, List.set_cons_succ]
  refine takeD (i := 12) (d := some 42) (v := ?_) rfl rfl (by kernel_rfl) (by kernel_rfl) (by kernel_rfl) (fun _ _ _ h => h) (Or.inl ⟨by rfl, ?_⟩) (by assumption) ?_
  rotate_left
  · intro w hSw
    obtain ⟨k0, k1, k2, k3, k4, k5, k6, k7, k8, k9, k10⟩ := (HX4.out.below hSw).c11
    go_simp
    try (with_reducible rfl)
  try simp only [Act.put, List.setIfInBounds_toArray, List.set_cons_zero, List.set_cons_succ]
  refine takeD (i := 14) (d := some 44) (v := ?_) rfl rfl (by kernel_rfl) (by kernel_rfl) (by kernel_rfl) (fun _ _ _ h => h) (Or.inl ⟨by rfl, ?_⟩) (by assumption) ?_
  rotate_left
  · intro w hSw
    obtain ⟨k0, k1, k2, k3, k4, k5, k6, k7, k8, k9, k10⟩ := (HX4.out.below hSw).c11
    go_simp
    try (with_reducible rfl)
  try simp only [Act.put, List.setIfInBounds_toArray, List.set_cons_zero, List.set_cons_succ]
  refine wpAnyH_ready (rs := [13]) (by kernel_rfl) (by simp) ?_
  refine AllReadyH.cons rfl (fun K hK => ?_) AllReadyH.nil
  go_simp
  refine (CC.out _ (HB4.out.trans (hHeld.mono HB4.out.size))).mono ?_
  rintro e w8 ⟨sa, av, mv, rfl, hM8, hb8⟩
  have HM8 := hide hM8
  obtain ⟨-, -, -, -, ⟨ca, cl, cc, rfl, -⟩, ⟨da, dl, dc, rfl, -⟩⟩ := hM8
  have hT8 : Below w4.heap.size w4 w8 := hHeld.trans (hb8.mono hHeld.size)
  have HT8 := hide hT8
  go_wp2_with fail
  clear hHeld
  refine hK.out _ _ (HT8.out) (fun hHeld => ?_)
  clear hK K
  try simp only [Act.put, List.setIfInBounds_toArray, List.set_cons_zero, List.set_cons_succ]
  refine wpAnyH_ready (rs := [15]) (by kernel_rfl) (by simp) ?_
  refine AllReadyH.cons rfl (fun K hK => ?_) AllReadyH.nil
  go_simp
  refine (CD.out w8 (HB4.out.trans (HT8.out.mono HB4.out.size))).mono ?_
  rintro e w9 ⟨sb, bv, nv, rfl, hM9, hb9⟩
  have HM9 := hide hM9
  have HM89 := hide (HM8.out.below hb9)
  obtain ⟨-, -, -, -, ⟨fa, fl, fc, rfl, -⟩, ⟨ga, gl, gc, rfl, -⟩⟩ := hM9
  have hT9 : Below w4.heap.size w4 w9 := HT8.out.trans (hb9.mono HT8.out.size)
  have HT9 := hide hT9
  go_wp2_with fail
  clear hHeld
  refine hK.out _ _ (HT9.out) (fun hHeld => ?_)
  clear hK K
  try simp only [Act.put, List.setIfInBounds_toArray, List.set_cons_zero, List.set_cons_succ]
  refine wpAnyH_ready (rs := [16]) (by kernel_rfl) (by simp) ?_
  refine AllReadyH.cons rfl (fun K hK => ?_) AllReadyH.nil
  go_simp
  refine (CS.out w9 sa sb _ _ _ _ _ _ HM89.out HM9.out).mono ?_
  rintro e w10 ⟨rfl, hb10⟩
  have hT10 : Below w4.heap.size w4 w10 := HT9.out.trans (hb10.mono HT9.out.size)
  have HT10 := hide hT10
  go_wp2_with fail
  clear hHeld
  refine hK.out _ _ (HT10.out) (fun hHeld => ?_)
  clear hK K
  try simp only [Act.put, List.setIfInBounds_toArray, List.set_cons_zero, List.set_cons_succ]
  refine takeD (i := 17) (d := some 47) (v := ?_) rfl rfl (by kernel_rfl) (by kernel_rfl) (by kernel_rfl) (fun _ _ _ h => h) (Or.inl ⟨by rfl, ?_⟩) (by assumption) ?_
  rotate_left
  · intro w hSw
    go_simp
    try (with_reducible rfl)
  try simp only [Act.put, List.setIfInBounds_toArray, List.set_cons_zero, List.set_cons_succ]
  refine takeD (i := 18) (d := some 48) (v := ?_) rfl rfl (by kernel_rfl) (by kernel_rfl) (by kernel_rfl) (fun _ _ _ h => h) (Or.inl ⟨by rfl, ?_⟩) (by assumption) ?_
  rotate_left
  · intro w hSw
    go_simp
    try (with_reducible rfl)
  try simp only [Act.put, List.setIfInBounds_toArray, List.set_cons_zero, List.set_cons_succ]
  refine wpAnyH_done (by kernel_rfl) ?_ _
  refine NoPanic.normal ?_
  go_wp2
  go_ret
  exact ⟨rfl, HB4.out.trans (HT10.out.mono HB4.out.size)⟩

set_option maxRecDepth 100000 in
set_option maxHeartbeats 16000000 in
theorem yes (n : No) (s : ByteArray) (aa ma : Option Addr) (al ac ml mc : Nat) (w : World) (q : Small s al ml) (o : ArgN w n s aa al ac ma ml mc) (hm : mayN (clearN n) = true) : Calls Try.prog 3 #[.agg #[.int .i64 n.kind, .int .i64 n.node, .int .i64 n.life, .int .i64 n.epoch, .string s, .int .i64 n.func, .slice aa al ac, .int .i64 n.err, .int .i64 n.val, .int .i64 n.vep, .slice ma ml mc]] w fun e w' => e = .returned (.bool true) ∧ Below w.heap.size w w' := by
  obtain ⟨hN, hB, h10, h0⟩ := note_facts q o hm
  have CB := hide (fun W => big_no n.kind n.node n.life n.epoch s n.func aa al ac n.err n.val n.vep ma ml mc W q.1 q.2.1 q.2.2)
  have CP := hide (fun W (hb : Below w.heap.size w W) => packQ n s (.slice aa al ac) (.slice ma ml mc) 0 W ((small_mem o q).below hb) o.inn hm)
  have CR := hide (fun W (hb : Below w.heap.size w W) => rpackQ n s (.slice aa al ac) (.slice ma ml mc) 0 W ((small_mem o q).below hb) o.inn hm)
  have CC := hide (fun W (hb : Below w.heap.size w W) => clear_any n s (.slice aa al ac) (.slice ma ml mc) 0 W ((small_mem o q).below hb))
  have CD := hide (fun W (hb : Below w.heap.size w W) => rclear_any n s aa ma al ac ml mc 0 W ((small_mem o q).below hb))
  have CS := hide (fun W s s' av mv av' mv' B B' (h : NM B W (clearN n) s av mv) (h' : NM B' W (clearN n) s' av' mv') => (show Calls Try.prog 14 #[Nv (clearN n) s av mv, Nv (clearN n) s' av' mv'] W fun e w' => e = .returned (.bool true) ∧ Below W.heap.size W w' from by
    refine (sameNote_any (clearN n) (clearN n) s s' av mv av' mv' B B' W h h').mono ?_
    rintro e w' ⟨R, rfl, hR, hb⟩
    rw [hR.2 rfl]
    exact ⟨rfl, hb⟩))
  unfold NPost at CC
  unfold RP at CR
  generalize encN (clearN n) = Z at CP CR hN hB h10 h0
  simp only [Nv] at CP CR CC CD CS
  generalize clearN n = nn at CC CD CS hm hN
  have HBZ := hide hB
  have HN := hide hN
  have C17 := hide (fun W a m c (hl : Z.length = m) (hr : Reads W a (bV Z)) => readQ nn Z a m c W hl (by omega) HBZ.out hr HN.out)
  simp only [Nv] at C17
  clear q o hm hB hN
  obtain ⟨V, hV⟩ : ∃ V, V = w.alloc (.cells #[.int .i64 n.kind, .int .i64 n.node, .int .i64 n.life, .int .i64 n.epoch, .string s, .int .i64 n.func, .slice aa al ac, .int .i64 n.err, .int .i64 n.val, .int .i64 n.vep, .slice ma ml mc] 31) := ⟨_, rfl⟩
  have HX := hide (show BoxL V w.heap.size [.int .i64 n.kind, .int .i64 n.node, .int .i64 n.life, .int .i64 n.epoch, .string s, .int .i64 n.func, .slice aa al ac, .int .i64 n.err, .int .i64 n.val, .int .i64 n.vep, .slice ma ml mc] by rw [hV]; exact BoxL.new w _ 31)
  have HB := hide (show Below w.heap.size w V by rw [hV]; exact below_new w _)
  have HV := hide hV
  clear hV
  go_enter Try.func3, Try.ntmps3
  go_upto_region 7 with (first
    | (go_at_call 9; go_must (rw [← HV.out]; (with_reducible refine (alive_any V).mono ?_); rintro e w1 ⟨rfl, hb1⟩; have HX1 := hide (HX.out.below hb1); have HB1 := hide (HB.out.trans (hb1.mono HB.out.size)); obtain ⟨k0, k1, k2, k3, k4, k5, k6, k7, k8, k9, k10⟩ := HX1.out.c11; clear hb1))
    | (go_at_call 10; go_must ((with_reducible refine (CB.out w1).mono ?_); rintro e w2 ⟨rfl, hb2⟩; have HX2 := hide (HX1.out.below hb2); have HB2 := hide (HB1.out.trans (hb2.mono HB1.out.size)); clear k0 k1 k2 k3 k4 k5 k6 k7 k8 k9 k10; obtain ⟨g0, g1, g2, g3, g4, g5, g6, g7, g8, g9, g10⟩ := HX2.out.c11; clear hb2))
    | (go_at_call 11; go_must ((with_reducible refine (CP.out _ HB2.out).mono ?_); rintro e w3 ⟨a3, m3, c3, rfl, hm3, -, hr3, hb3⟩; have HX3 := hide (HX2.out.below hb3); have HB3 := hide (HB2.out.trans (hb3.mono HB2.out.size)); clear g0 g1 g2 g3 g4 g5 g6 g7 g8 g9 g10; obtain ⟨p0, p1, p2, p3, p4, p5, p6, p7, p8, p9, p10⟩ := HX3.out.c11; clear hb3))
    | (go_at_call 12; go_must ((with_reducible refine (CR.out _ HB3.out).mono ?_); rintro e w4 ⟨a4, m4, c4, rfl, hm4, -, -, hr4, hb4⟩; have HX4 := hide (HX3.out.below hb4); have HB4 := hide (HB3.out.trans (hb4.mono HB3.out.size)); have HR3 := hide (hr3.out.below hb4); clear p0 p1 p2 p3 p4 p5 p6 p7 p8 p9 p10; clear hb4)))
  have HSA := hide (fun (W : World) (h : Below w4.heap.size w4 W) => run_str (S := bstr Z) rfl hm3.out (HR3.out.below h) c3)
  have HSB := hide (fun (W : World) (h : Below w4.heap.size w4 W) => run_str (S := bstr Z) rfl hm4.out (hr4.out.below h) c4)
  have hQ1 : ((bstr Z).toList == (bstr Z).toList) = true := by simp
  generalize bstr Z = S1 at HSA HSB hQ1
  refine wp_region_noPanic ?_
  have hN : Below w4.heap.size w4 w4.drew := (Below.refl _ _).drew
  refine wp_region_held_drew (S := fun W => Below w4.heap.size w4 W) (by kernel_rfl) ((Below.refl _ _).drew) (fun hHeld => ?_)
  refine takeD (i := 0) (d := some 30) (v := ?_) rfl rfl (by kernel_rfl) (by kernel_rfl) (by kernel_rfl) (fun _ _ _ h => h) (Or.inl ⟨by rfl, ?_⟩) (by assumption) ?_
  rotate_left
  · intro w hSw
    go_simp
    try (with_reducible rfl)
  try simp only [Act.put, List.setIfInBounds_toArray, List.set_cons_zero, List.set_cons_succ]
  refine takeD (i := 2) (d := some 32) (v := ?_) rfl rfl (by kernel_rfl) (by kernel_rfl) (by kernel_rfl) (fun _ _ _ h => h) (Or.inl ⟨by rfl, ?_⟩) (by assumption) ?_
  rotate_left
  · intro w hSw
    go_simp
    try (with_reducible rfl)
  try simp only [Act.put, List.setIfInBounds_toArray, List.set_cons_zero, List.set_cons_succ]
  refine wpAnyH_ready (rs := [1]) (by kernel_rfl) (by simp) ?_
  refine AllReadyH.cons rfl (fun K hK => ?_) AllReadyH.nil
  go_simp
  (with_reducible refine (lnum_any _ _).mono ?_)
  rintro e wz ⟨rfl, rfl⟩
  go_wp2_with fail
  refine hK.out _ _ hHeld (fun hHeld => ?_)
  clear hK K
  try simp only [Act.put, List.setIfInBounds_toArray, List.set_cons_zero, List.set_cons_succ]
  refine takeD (i := 3) (d := some 33) (v := ?_) rfl rfl (by kernel_rfl) (by kernel_rfl) (by kernel_rfl) (fun _ _ _ h => h) (Or.inl ⟨by rfl, ?_⟩) (by assumption) ?_
  rotate_left
  · intro w hSw
    go_simp
    try (with_reducible rfl)
  try simp only [Act.put, List.setIfInBounds_toArray, List.set_cons_zero, List.set_cons_succ]
  refine takeD (i := 4) (d := some 34) (v := ?_) rfl rfl (by kernel_rfl) (by kernel_rfl) (by kernel_rfl) (fun _ _ _ h => h) (Or.inl ⟨by rfl, ?_⟩) (by assumption) ?_
  rotate_left
  · intro w hSw
    go_simp
    try (with_reducible rfl)
  try simp only [Act.put, List.setIfInBounds_toArray, List.set_cons_zero, List.set_cons_succ]
  refine takeD (i := 5) (d := some 35) (v := ?_) rfl rfl (by kernel_rfl) (by kernel_rfl) (by kernel_rfl) (fun _ _ _ h => h) (Or.inl ⟨by rfl, ?_⟩) (by assumption) ?_
  rotate_left
  · intro w hSw
    go_simp
    try (with_reducible rfl)
  try simp only [Act.put, List.setIfInBounds_toArray, List.set_cons_zero, List.set_cons_succ]
  refine takeD (i := 6) (d := some 36) (v := ?_) rfl rfl (by kernel_rfl) (by kernel_rfl) (by kernel_rfl) (fun _ _ _ h => h) (Or.inl ⟨by rfl, ?_⟩) (by assumption) ?_
  rotate_left
  · intro w hSw
    have hcv := HSA.out _ hSw
    go_simp
    try (with_reducible rfl)
  try simp only [Act.put, List.setIfInBounds_toArray, List.set_cons_zero, List.set_cons_succ]
  refine takeD (i := 7) (d := some 37) (v := ?_) rfl rfl (by kernel_rfl) (by kernel_rfl) (by kernel_rfl) (fun _ _ _ h => h) (Or.inl ⟨by rfl, ?_⟩) (by assumption) ?_
  rotate_left
  · intro w hSw
    go_simp
    try (with_reducible rfl)
  try simp only [Act.put, List.setIfInBounds_toArray, List.set_cons_zero, List.set_cons_succ]
  refine takeD (i := 8) (d := some 38) (v := ?_) rfl rfl (by kernel_rfl) (by kernel_rfl) (by kernel_rfl) (fun _ _ _ h => h) (Or.inl ⟨by rfl, ?_⟩) (by assumption) ?_
  rotate_left
  · intro w hSw
    have hcv := HSB.out _ hSw
    go_simp
    try (with_reducible rfl)
  try simp only [Act.put, List.setIfInBounds_toArray, List.set_cons_zero, List.set_cons_succ]
  refine takeD (i := 9) (d := some 39) (v := ?_) rfl rfl (by kernel_rfl) (by kernel_rfl) (by kernel_rfl) (fun _ _ _ h => h) (Or.inl ⟨by rfl, ?_⟩) (by assumption) ?_
  rotate_left
  · intro w hSw
    go_simp
    try (with_reducible rfl)
  try simp only [Act.put, List.setIfInBounds_toArray, List.set_cons_zero, List.set_cons_succ]
  refine takeD (i := 10) (d := some 40) (v := ?_) rfl rfl (by kernel_rfl) (by kernel_rfl) (by kernel_rfl) (fun _ _ _ h => h) (Or.inl ⟨by rfl, ?_⟩) (by assumption) ?_
  rotate_left
  · intro w hSw
    go_simp
    try (with_reducible rfl)
  try simp only [Act.put, List.setIfInBounds_toArray, List.set_cons_zero, List.set_cons_succ]
  refine takeD (i := 11) (d := some 41) (v := ?_) rfl rfl (by kernel_rfl) (by kernel_rfl) (by kernel_rfl) (fun _ _ _ h => h) (Or.inl ⟨by rfl, ?_⟩) (by assumption) ?_
  rotate_left
  · intro w hSw
    go_simp
    try (with_reducible rfl)
  try simp only [Act.put, List.setIfInBounds_toArray, List.set_cons_zero, List.set_cons_succ]
  refine takeD (i := 12) (d := some 42) (v := ?_) rfl rfl (by kernel_rfl) (by kernel_rfl) (by kernel_rfl) (fun _ _ _ h => h) (Or.inl ⟨by rfl, ?_⟩) (by assumption) ?_
  rotate_left
  · intro w hSw
    obtain ⟨k0, k1, k2, k3, k4, k5, k6, k7, k8, k9, k10⟩ := (HX4.out.below hSw).c11
    go_simp
    try (with_reducible rfl)
  try simp only [Act.put, List.setIfInBounds_toArray, List.set_cons_zero, List.set_cons_succ]
  refine takeD (i := 14) (d := some 44) (v := ?_) rfl rfl (by kernel_rfl) (by kernel_rfl) (by kernel_rfl) (fun _ _ _ h => h) (Or.inl ⟨by rfl, ?_⟩) (by assumption) ?_
  rotate_left
  · intro w hSw
    obtain ⟨k0, k1, k2, k3, k4, k5, k6, k7, k8, k9, k10⟩ := (HX4.out.below hSw).c11
    go_simp
    try (with_reducible rfl)
  try simp only [Act.put, List.setIfInBounds_toArray, List.set_cons_zero, List.set_cons_succ]
  refine wpAnyH_ready (rs := [13]) (by kernel_rfl) (by simp) ?_
  refine AllReadyH.cons rfl (fun K hK => ?_) AllReadyH.nil
  go_simp
  refine (CC.out _ (HB4.out.trans (hHeld.mono HB4.out.size))).mono ?_
  rintro e w8 ⟨sa, av, mv, rfl, hM8, hb8⟩
  have HM8 := hide hM8
  obtain ⟨-, -, -, -, ⟨ca, cl, cc, rfl, -⟩, ⟨da, dl, dc, rfl, -⟩⟩ := hM8
  have hT8 : Below w4.heap.size w4 w8 := hHeld.trans (hb8.mono hHeld.size)
  have HT8 := hide hT8
  go_wp2_with fail
  clear hHeld
  refine hK.out _ _ (HT8.out) (fun hHeld => ?_)
  clear hK K
  try simp only [Act.put, List.setIfInBounds_toArray, List.set_cons_zero, List.set_cons_succ]
  refine wpAnyH_ready (rs := [15]) (by kernel_rfl) (by simp) ?_
  refine AllReadyH.cons rfl (fun K hK => ?_) AllReadyH.nil
  go_simp
  refine (CD.out w8 (HB4.out.trans (HT8.out.mono HB4.out.size))).mono ?_
  rintro e w9 ⟨sb, bv, nv, rfl, hM9, hb9⟩
  have HM9 := hide hM9
  have HM89 := hide (HM8.out.below hb9)
  obtain ⟨-, -, -, -, ⟨fa, fl, fc, rfl, -⟩, ⟨ga, gl, gc, rfl, -⟩⟩ := hM9
  have hT9 : Below w4.heap.size w4 w9 := HT8.out.trans (hb9.mono HT8.out.size)
  have HT9 := hide hT9
  go_wp2_with fail
  clear hHeld
  refine hK.out _ _ (HT9.out) (fun hHeld => ?_)
  clear hK K
  try simp only [Act.put, List.setIfInBounds_toArray, List.set_cons_zero, List.set_cons_succ]
  refine wpAnyH_ready (rs := [16]) (by kernel_rfl) (by simp) ?_
  refine AllReadyH.cons rfl (fun K hK => ?_) AllReadyH.nil
  go_simp
  refine (CS.out w9 sa sb _ _ _ _ _ _ HM89.out HM9.out).mono ?_
  rintro e w10 ⟨rfl, hb10⟩
  have hT10 : Below w4.heap.size w4 w10 := HT9.out.trans (hb10.mono HT9.out.size)
  have HT10 := hide hT10
  go_wp2_with fail
  clear hHeld
  refine hK.out _ _ (HT10.out) (fun hHeld => ?_)
  clear hK K
  try simp only [Act.put, List.setIfInBounds_toArray, List.set_cons_zero, List.set_cons_succ]
  refine takeD (i := 17) (d := some 47) (v := ?_) rfl rfl (by kernel_rfl) (by kernel_rfl) (by kernel_rfl) (fun _ _ _ h => h) (Or.inl ⟨by rfl, ?_⟩) (by assumption) ?_
  rotate_left
  · intro w hSw
    go_simp
    try (with_reducible rfl)
  try simp only [Act.put, List.setIfInBounds_toArray, List.set_cons_zero, List.set_cons_succ]
  refine takeD (i := 18) (d := some 48) (v := ?_) rfl rfl (by kernel_rfl) (by kernel_rfl) (by kernel_rfl) (fun _ _ _ h => h) (Or.inl ⟨by rfl, ?_⟩) (by assumption) ?_
  rotate_left
  · intro w hSw
    go_simp
    try (with_reducible rfl)
  try simp only [Act.put, List.setIfInBounds_toArray, List.set_cons_zero, List.set_cons_succ]
  refine wpAnyH_done (by kernel_rfl) ?_ _
  refine NoPanic.normal ?_
  have HX10 := hide (HX4.out.below HT10.out)
  have HB10 := hide (HB4.out.trans (HT10.out.mono HB4.out.size))
  have HR10 := hide (HR3.out.below HT10.out)
  clear HT8 HT9 HM8 HM9 HM89
  go_upto_region 12 with (go_at_call 17; go_must ((with_reducible refine (C17.out w10 a3 m3 c3 hm3.out HR10.out).mono ?_); rintro e w11 ⟨s11, aa11, al11, ac11, ma11, ml11, mc11, rfl, hM11, hb11⟩; have HM11 := hide hM11; have HX11 := hide (HX10.out.below hb11); have HB11 := hide (HB10.out.trans (hb11.mono HB10.out.size)); clear hM11 hb11))
  have hb12 := below_new w11 (.cells #[.int .i64 nn.kind, .int .i64 nn.node, .int .i64 nn.life, .int .i64 nn.epoch, .string s11, .int .i64 nn.func, .slice aa11 al11 ac11, .int .i64 nn.err, .int .i64 nn.val, .int .i64 nn.vep, .slice ma11 ml11 mc11] 31)
  have HY12 := hide (BoxL.new w11 [.int .i64 nn.kind, .int .i64 nn.node, .int .i64 nn.life, .int .i64 nn.epoch, .string s11, .int .i64 nn.func, .slice aa11 al11 ac11, .int .i64 nn.err, .int .i64 nn.val, .int .i64 nn.vep, .slice ma11 ml11 mc11] 31)
  have HX12 := hide (HX11.out.below hb12)
  have HB12 := hide (HB11.out.trans (hb12.mono HB11.out.size))
  have HM12 := hide (HM11.out.out.below hb12)
  clear hb12
  generalize w11.alloc (.cells #[.int .i64 nn.kind, .int .i64 nn.node, .int .i64 nn.life, .int .i64 nn.epoch, .string s11, .int .i64 nn.func, .slice aa11 al11 ac11, .int .i64 nn.err, .int .i64 nn.val, .int .i64 nn.vep, .slice ma11 ml11 mc11] 31) = w12 at HY12 HX12 HB12 HM12 ⊢
  refine wp_region_noPanic ?_
  have hN : Below w12.heap.size w12 w12.drew := (Below.refl _ _).drew
  refine wp_region_held_drew (S := fun W => Below w12.heap.size w12 W) (by kernel_rfl) ((Below.refl _ _).drew) (fun hHeld => ?_)
  refine takeD (i := 0) (d := some 56) (v := ?_) rfl rfl (by kernel_rfl) (by kernel_rfl) (by kernel_rfl) (fun _ _ _ h => h) (Or.inl ⟨by rfl, ?_⟩) (by assumption) ?_
  rotate_left
  · intro w hSw
    go_simp
    try (with_reducible rfl)
  try simp only [Act.put, List.setIfInBounds_toArray, List.set_cons_zero, List.set_cons_succ]
  refine wpAnyH_ready (rs := [1]) (by kernel_rfl) (by simp) ?_
  refine AllReadyH.cons rfl (fun K hK => ?_) AllReadyH.nil
  go_simp
  (with_reducible refine (lnum_any _ _).mono ?_)
  rintro e wz ⟨rfl, rfl⟩
  go_wp2_with fail
  refine hK.out _ _ hHeld (fun hHeld => ?_)
  clear hK K
  try simp only [Act.put, List.setIfInBounds_toArray, List.set_cons_zero, List.set_cons_succ]
  refine takeD (i := 2) (d := some 58) (v := ?_) rfl rfl (by kernel_rfl) (by kernel_rfl) (by kernel_rfl) (fun _ _ _ h => h) (Or.inl ⟨by rfl, ?_⟩) (by assumption) ?_
  rotate_left
  · intro w hSw
    go_simp
    try (with_reducible rfl)
  try simp only [Act.put, List.setIfInBounds_toArray, List.set_cons_zero, List.set_cons_succ]
  refine takeD (i := 3) (d := some 59) (v := ?_) rfl rfl (by kernel_rfl) (by kernel_rfl) (by kernel_rfl) (fun _ _ _ h => h) (Or.inl ⟨by rfl, ?_⟩) (by assumption) ?_
  rotate_left
  · intro w hSw
    go_simp
    try (with_reducible rfl)
  try simp only [Act.put, List.setIfInBounds_toArray, List.set_cons_zero, List.set_cons_succ]
  refine takeD (i := 4) (d := some 60) (v := ?_) rfl rfl (by kernel_rfl) (by kernel_rfl) (by kernel_rfl) (fun _ _ _ h => h) (Or.inl ⟨by rfl, ?_⟩) (by assumption) ?_
  rotate_left
  · intro w hSw
    obtain ⟨k0, k1, k2, k3, k4, k5, k6, k7, k8, k9, k10⟩ := (HY12.out.below hSw).c11
    go_simp
    try (with_reducible rfl)
  try simp only [Act.put, List.setIfInBounds_toArray, List.set_cons_zero, List.set_cons_succ]
  refine takeD (i := 5) (d := some 61) (v := ?_) rfl rfl (by kernel_rfl) (by kernel_rfl) (by kernel_rfl) (fun _ _ _ h => h) (Or.inl ⟨by rfl, ?_⟩) (by assumption) ?_
  rotate_left
  · intro w hSw
    obtain ⟨k0, k1, k2, k3, k4, k5, k6, k7, k8, k9, k10⟩ := (HX12.out.below hSw).c11
    go_simp
    try (with_reducible rfl)
  try simp only [Act.put, List.setIfInBounds_toArray, List.set_cons_zero, List.set_cons_succ]
  refine wpAnyH_ready (rs := [6]) (by kernel_rfl) (by simp) ?_
  refine AllReadyH.cons rfl (fun K hK => ?_) AllReadyH.nil
  go_simp
  refine (CD.out _ (HB12.out.trans (hHeld.mono HB12.out.size))).mono ?_
  rintro e w13 ⟨sb3, bv3, nv3, rfl, hM13, hb13⟩
  have HM13 := hide hM13
  obtain ⟨-, -, -, -, ⟨fa3, fl3, fc3, rfl, -⟩, ⟨ga3, gl3, gc3, rfl, -⟩⟩ := hM13
  have hT13 : Below w12.heap.size w12 w13 := hHeld.trans (hb13.mono hHeld.size)
  have HT13 := hide hT13
  have HM12b := hide (HM12.out.below hT13)
  go_wp2_with fail
  clear hHeld
  refine hK.out _ _ (HT13.out) (fun hHeld => ?_)
  clear hK K
  try simp only [Act.put, List.setIfInBounds_toArray, List.set_cons_zero, List.set_cons_succ]
  refine wpAnyH_ready (rs := [7]) (by kernel_rfl) (by simp) ?_
  refine AllReadyH.cons rfl (fun K hK => ?_) AllReadyH.nil
  go_simp
  refine (CS.out w13 s11 sb3 _ _ _ _ _ _ HM12b.out HM13.out).mono ?_
  rintro e w14 ⟨rfl, hb14⟩
  have hT14 : Below w12.heap.size w12 w14 := HT13.out.trans (hb14.mono HT13.out.size)
  have HT14 := hide hT14
  go_wp2_with fail
  clear hHeld
  refine hK.out _ _ (HT14.out) (fun hHeld => ?_)
  clear hK K
  try simp only [Act.put, List.setIfInBounds_toArray, List.set_cons_zero, List.set_cons_succ]
  refine takeD (i := 8) (d := some 64) (v := ?_) rfl rfl (by kernel_rfl) (by kernel_rfl) (by kernel_rfl) (fun _ _ _ h => h) (Or.inl ⟨by rfl, ?_⟩) (by assumption) ?_
  rotate_left
  · intro w hSw
    go_simp
    try (with_reducible rfl)
  try simp only [Act.put, List.setIfInBounds_toArray, List.set_cons_zero, List.set_cons_succ]
  refine takeD (i := 9) (d := some 2) (v := ?_) rfl rfl (by kernel_rfl) (by kernel_rfl) (by kernel_rfl) (fun _ _ _ h => h) (Or.inl ⟨by rfl, ?_⟩) (by assumption) ?_
  rotate_left
  · intro w hSw
    go_simp
    try (with_reducible rfl)
  try simp only [Act.put, List.setIfInBounds_toArray, List.set_cons_zero, List.set_cons_succ]
  refine wpAnyH_done (by kernel_rfl) ?_ _
  refine NoPanic.normal ?_
  go_wp2
  go_ret
  exact ⟨rfl, HB12.out.trans (HT14.out.mono HB12.out.size)⟩

theorem walk (n : No) (s : ByteArray) (aa : Option Addr) (al ac : Nat) (ma : Option Addr) (ml mc : Nat) (w : World) (o : ArgN w n s aa al ac ma ml mc) : Calls Try.prog 3 #[Nv n s (.slice aa al ac) (.slice ma ml mc)] w fun e w' => e = .returned (.bool true) ∧ Below w.heap.size w w' := by
  by_cases hq : Small s al ml
  · by_cases hm : mayN (clearN n) = true
    · exact yes n s aa ma al ac ml mc w hq o hm
    · exact no n s aa ma al ac ml mc w hq o (by simpa using hm)
  · exact skip n s aa ma al ac ml mc w o.hsz (by unfold Small at hq; omega)
end notePacks
end Go.Proofs.Ytgkpioleipefmaa
