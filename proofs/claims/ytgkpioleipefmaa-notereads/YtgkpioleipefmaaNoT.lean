/- note.Pack. -/
import Derived.Test.YtgkpioleipefmaaNoR
namespace Go.Proofs.Ytgkpioleipefmaa
open Go.RowKit Go.ChangeShapes Go.WideShapes Go.ChangeAt Go.Deep
attribute [local go_sem ↓] Go.wp_at_zero Go.wp_at_succ
set_option linter.unusedSimpArgs false

theorem in1_if {c : Bool} {x : Int} (h : In1 x) : In1 (if c then x else 0) := by cases c <;> simp_all [In1]
theorem clear_in {n : No} (h : NIn n) : NIn (clearN n) := by
  obtain ⟨⟨h1, h2, h3, h4⟩, ⟨h5, h6⟩, ⟨h7, h8⟩, h9, h10⟩ := h
  unfold clearN
  split
  · refine ⟨⟨h1, in1_if h2, in1_if h3, in1_if h4⟩, ⟨in1_if h5, ?_⟩, ⟨in1_if h7, in1_if h8⟩, in1_if h9, ?_⟩
    · simp only; split
      · exact h6
      · intro x hx; cases hx
    · simp only; split
      · exact h10
      · intro x hx; cases hx
  · simp [NIn, no0, In1, In64]
/-- The bytes of a note, or why there are none. -/
def PackPost (n : No) (w : World) (e : Ending) (w' : World) : Prop :=
  if mayN (clearN n) = true then ∃ v, e = .returned (.tuple #[v, .int .i64 0]) ∧ RowV 0 w' v (encN (clearN n)).length (bV (encN (clearN n))) ∧ Below w.heap.size w w'
  else e = .returned (.tuple #[.slice none 0 0, .int .i64 1]) ∧ Below w.heap.size w w'

set_option maxRecDepth 100000 in
set_option maxHeartbeats 8000000 in
theorem pack_no (n : No) (s : ByteArray) (aa ma : Option Addr) (al ac ml mc : Nat) (B : Nat) (w : World) (hM : NM B w n s (.slice aa al ac) (.slice ma ml mc)) (hm : mayN (clearN n) = false) :
    Calls Try.prog 11 #[.agg #[.int .i64 n.kind, .int .i64 n.node, .int .i64 n.life, .int .i64 n.epoch, .string s, .int .i64 n.func, (.slice aa al ac), .int .i64 n.err, .int .i64 n.val, .int .i64 n.vep, (.slice ma ml mc)]] w fun e w' => e = .returned (.tuple #[.slice none 0 0, .int .i64 1]) ∧ Below w.heap.size w w' := by
  have CC := hide (fun W (hb : Below w.heap.size w W) => (show Calls Try.prog 15 #[.agg #[.int .i64 n.kind, .int .i64 n.node, .int .i64 n.life, .int .i64 n.epoch, .string s, .int .i64 n.func, (.slice aa al ac), .int .i64 n.err, .int .i64 n.val, .int .i64 n.vep, (.slice ma ml mc)]] W (NPost (clearN n) W) from clear_any n s _ _ B W (hM.below hb)))
  have CM := hide (fun W s1 av mv B (h : NM B W (clearN n) s1 av mv) => may_any (clearN n) s1 av mv B W h)
  rw [hm] at CM
  simp only [Nv] at CM
  generalize clearN n = o at CC CM
  have HX0 := hide (BoxL.new w [.int .i64 n.kind, .int .i64 n.node, .int .i64 n.life, .int .i64 n.epoch, .string s, .int .i64 n.func, (.slice aa al ac), .int .i64 n.err, .int .i64 n.val, .int .i64 n.vep, (.slice ma ml mc)] 31)
  have HB0 := hide (below_new w (.cells #[.int .i64 n.kind, .int .i64 n.node, .int .i64 n.life, .int .i64 n.epoch, .string s, .int .i64 n.func, (.slice aa al ac), .int .i64 n.err, .int .i64 n.val, .int .i64 n.vep, (.slice ma ml mc)] 31))
  obtain ⟨V, hV⟩ : ∃ V, V = w.alloc (.cells #[.int .i64 n.kind, .int .i64 n.node, .int .i64 n.life, .int .i64 n.epoch, .string s, .int .i64 n.func, (.slice aa al ac), .int .i64 n.err, .int .i64 n.val, .int .i64 n.vep, (.slice ma ml mc)] 31) := ⟨_, rfl⟩
  have HX := hide (show BoxL V w.heap.size [.int .i64 n.kind, .int .i64 n.node, .int .i64 n.life, .int .i64 n.epoch, .string s, .int .i64 n.func, (.slice aa al ac), .int .i64 n.err, .int .i64 n.val, .int .i64 n.vep, (.slice ma ml mc)] by rw [hV]; exact HX0.out)
  have HB := hide (show Below w.heap.size w V by rw [hV]; exact HB0.out)
  have HS := hide (show V.heap.size = w.heap.size + 1 by rw [hV]; simp)
  have HV := hide hV
  clear hV HX0 HB0 hM
  go_enter Try.func11, Try.ntmps11
  go_wp2_with (first
    | (go_at_call 15; go_must (rw [← HV.out]; (with_reducible refine (CC.out V HB.out).mono ?_); rintro e w1 ⟨s1, av1, mv1, rfl, hM1, hb1⟩; simp only [Nv]; have HM1 := hide hM1; obtain ⟨-, -, -, -, ⟨aa1, al1, ac1, rfl, -⟩, ⟨ma1, ml1, mc1, rfl, -⟩⟩ := hM1; have HX1 := hide (HX.out.below hb1); have HB1 := hide (HB.out.trans (hb1.mono HB.out.size)); obtain ⟨e0, e1, e2, e3, e4, e5, e6, e7, e8, e9, e10⟩ := HX1.out.c11; obtain ⟨u0, u1, u2, u3, u4, u5, u6, u7, u8, u9, u10⟩ := HX1.out.f11; have HX2 := hide (put11_box HX1.out (.int .i64 o.kind) (.int .i64 o.node) (.int .i64 o.life) (.int .i64 o.epoch) (.string s1) (.int .i64 o.func) (.slice aa1 al1 ac1) (.int .i64 o.err) (.int .i64 o.val) (.int .i64 o.vep) (.slice ma1 ml1 mc1)); have HB2 := hide (put11_below (g := w.heap.size) HB1.out (Nat.le_refl _) (.int .i64 o.kind) (.int .i64 o.node) (.int .i64 o.life) (.int .i64 o.epoch) (.string s1) (.int .i64 o.func) (.slice aa1 al1 ac1) (.int .i64 o.err) (.int .i64 o.val) (.int .i64 o.vep) (.slice ma1 ml1 mc1)); have HM2 := hide (HM1.out.keep (w' := put11 w1 w.heap.size (.int .i64 o.kind) (.int .i64 o.node) (.int .i64 o.life) (.int .i64 o.epoch) (.string s1) (.int .i64 o.func) (.slice aa1 al1 ac1) (.int .i64 o.err) (.int .i64 o.val) (.int .i64 o.vep) (.slice ma1 ml1 mc1)) (fun k h1 h2 => put11_keep (by have := HS.out; omega) (.int .i64 o.kind) (.int .i64 o.node) (.int .i64 o.life) (.int .i64 o.epoch) (.string s1) (.int .i64 o.func) (.slice aa1 al1 ac1) (.int .i64 o.err) (.int .i64 o.val) (.int .i64 o.vep) (.slice ma1 ml1 mc1))); obtain ⟨X, hX⟩ : ∃ X, X = put11 w1 w.heap.size (.int .i64 o.kind) (.int .i64 o.node) (.int .i64 o.life) (.int .i64 o.epoch) (.string s1) (.int .i64 o.func) (.slice aa1 al1 ac1) (.int .i64 o.err) (.int .i64 o.val) (.int .i64 o.vep) (.slice ma1 ml1 mc1) := ⟨_, rfl⟩; rw [← hX] at HX2 HB2 HM2; unfold put11 at hX; have HE := hide hX; clear hX))
    | (go_at_call 20; go_must (rw [← HE.out]; (with_reducible refine (CM.out X _ _ _ _ HM2.out).mono ?_); rintro e w2 ⟨rfl, hb2⟩; have HB3 := hide (HB2.out.trans (hb2.mono HB2.out.size)); have HX3 := hide (HX2.out.below hb2); have HM3 := hide (HM2.out.below hb2))))
  go_ret2
  exact ⟨rfl, HB3.out⟩

set_option maxRecDepth 100000 in
set_option maxHeartbeats 8000000 in
theorem pack_yes (n : No) (s : ByteArray) (aa ma : Option Addr) (al ac ml mc : Nat) (B : Nat) (w : World) (hM : NM B w n s (.slice aa al ac) (.slice ma ml mc)) (hI : NIn n) (hm : mayN (clearN n) = true) :
    Calls Try.prog 11 #[.agg #[.int .i64 n.kind, .int .i64 n.node, .int .i64 n.life, .int .i64 n.epoch, .string s, .int .i64 n.func, (.slice aa al ac), .int .i64 n.err, .int .i64 n.val, .int .i64 n.vep, (.slice ma ml mc)]] w fun e w' => ∃ v, e = .returned (.tuple #[v, .int .i64 0]) ∧ RowV 0 w' v (encN (clearN n)).length (bV (encN (clearN n))) ∧ Below w.heap.size w w' := by
  have CC := hide (fun W (hb : Below w.heap.size w W) => (show Calls Try.prog 15 #[.agg #[.int .i64 n.kind, .int .i64 n.node, .int .i64 n.life, .int .i64 n.epoch, .string s, .int .i64 n.func, (.slice aa al ac), .int .i64 n.err, .int .i64 n.val, .int .i64 n.vep, (.slice ma ml mc)]] W (NPost (clearN n) W) from clear_any n s _ _ B W (hM.below hb)))
  have CM := hide (fun W s1 av mv B (h : NM B W (clearN n) s1 av mv) => may_any (clearN n) s1 av mv B W h)
  rw [hm] at CM
  simp only [Nv] at CM
  have hk := (may_parts hm).1
  have hI' := clear_in hI
  have HZ := hide (enc_parts (clearN n) hk)
  have CI := hide (fun W g hg => pi1 [] (clearN n).kind hI'.1.1 none 0 0 W rfl (by omega) (.inl rfl) g hg)
  have CP := hide (fun W => parts_any (clearN n).kind W)
  have hIl := (encI_len (clearN n).kind).2
  have CW := hide (fun W s1 av mv v0 pv (h : NM (w.heap.size + 1) W (clearN n) s1 av mv) (hv : RowV 0 W v0 ([] ++ encI (clearN n).kind).length (bV ([] ++ encI (clearN n).kind))) (hp : RowV 0 W pv (partsL (clearN n).kind).length (pV (partsL (clearN n).kind))) => written_any ([] ++ encI (clearN n).kind) (clearN n) s1 av mv v0 pv _ 0 _ W h hI' hv (by simp; omega) hp)
  rw [List.nil_append] at CI CW
  rw [HZ.out] at CW
  simp only [Nv] at CW
  clear hIl hI'
  generalize clearN n = o at CC CM CI CP CW HZ ⊢
  have HX0 := hide (BoxL.new w [.int .i64 n.kind, .int .i64 n.node, .int .i64 n.life, .int .i64 n.epoch, .string s, .int .i64 n.func, (.slice aa al ac), .int .i64 n.err, .int .i64 n.val, .int .i64 n.vep, (.slice ma ml mc)] 31)
  have HB0 := hide (below_new w (.cells #[.int .i64 n.kind, .int .i64 n.node, .int .i64 n.life, .int .i64 n.epoch, .string s, .int .i64 n.func, (.slice aa al ac), .int .i64 n.err, .int .i64 n.val, .int .i64 n.vep, (.slice ma ml mc)] 31))
  obtain ⟨V, hV⟩ : ∃ V, V = w.alloc (.cells #[.int .i64 n.kind, .int .i64 n.node, .int .i64 n.life, .int .i64 n.epoch, .string s, .int .i64 n.func, (.slice aa al ac), .int .i64 n.err, .int .i64 n.val, .int .i64 n.vep, (.slice ma ml mc)] 31) := ⟨_, rfl⟩
  have HX := hide (show BoxL V w.heap.size [.int .i64 n.kind, .int .i64 n.node, .int .i64 n.life, .int .i64 n.epoch, .string s, .int .i64 n.func, (.slice aa al ac), .int .i64 n.err, .int .i64 n.val, .int .i64 n.vep, (.slice ma ml mc)] by rw [hV]; exact HX0.out)
  have HB := hide (show Below w.heap.size w V by rw [hV]; exact HB0.out)
  have HS := hide (show V.heap.size = w.heap.size + 1 by rw [hV]; simp)
  have HV := hide hV
  clear hV HX0 HB0 hM
  go_enter Try.func11, Try.ntmps11
  go_wp2_with (first
    | (go_at_call 15; go_must (rw [← HV.out]; (with_reducible refine (CC.out V HB.out).mono ?_); rintro e w1 ⟨s1, av1, mv1, rfl, hM1, hb1⟩; simp only [Nv]; have HM1 := hide hM1; obtain ⟨-, -, -, -, ⟨aa1, al1, ac1, rfl, -⟩, ⟨ma1, ml1, mc1, rfl, -⟩⟩ := hM1; have HX1 := hide (HX.out.below hb1); have HB1 := hide (HB.out.trans (hb1.mono HB.out.size)); obtain ⟨e0, e1, e2, e3, e4, e5, e6, e7, e8, e9, e10⟩ := HX1.out.c11; obtain ⟨u0, u1, u2, u3, u4, u5, u6, u7, u8, u9, u10⟩ := HX1.out.f11; have HX2 := hide (put11_box HX1.out (.int .i64 o.kind) (.int .i64 o.node) (.int .i64 o.life) (.int .i64 o.epoch) (.string s1) (.int .i64 o.func) (.slice aa1 al1 ac1) (.int .i64 o.err) (.int .i64 o.val) (.int .i64 o.vep) (.slice ma1 ml1 mc1)); have HB2 := hide (put11_below (g := w.heap.size) HB1.out (Nat.le_refl _) (.int .i64 o.kind) (.int .i64 o.node) (.int .i64 o.life) (.int .i64 o.epoch) (.string s1) (.int .i64 o.func) (.slice aa1 al1 ac1) (.int .i64 o.err) (.int .i64 o.val) (.int .i64 o.vep) (.slice ma1 ml1 mc1)); have HM2 := hide (HM1.out.keep (w' := put11 w1 w.heap.size (.int .i64 o.kind) (.int .i64 o.node) (.int .i64 o.life) (.int .i64 o.epoch) (.string s1) (.int .i64 o.func) (.slice aa1 al1 ac1) (.int .i64 o.err) (.int .i64 o.val) (.int .i64 o.vep) (.slice ma1 ml1 mc1)) (fun k h1 h2 => put11_keep (by have := HS.out; omega) (.int .i64 o.kind) (.int .i64 o.node) (.int .i64 o.life) (.int .i64 o.epoch) (.string s1) (.int .i64 o.func) (.slice aa1 al1 ac1) (.int .i64 o.err) (.int .i64 o.val) (.int .i64 o.vep) (.slice ma1 ml1 mc1))); obtain ⟨X, hX⟩ : ∃ X, X = put11 w1 w.heap.size (.int .i64 o.kind) (.int .i64 o.node) (.int .i64 o.life) (.int .i64 o.epoch) (.string s1) (.int .i64 o.func) (.slice aa1 al1 ac1) (.int .i64 o.err) (.int .i64 o.val) (.int .i64 o.vep) (.slice ma1 ml1 mc1) := ⟨_, rfl⟩; rw [← hX] at HX2 HB2 HM2; unfold put11 at hX; have HE := hide hX; clear hX))
    | (go_at_call 20; go_must (rw [← HE.out]; (with_reducible refine (CM.out X _ _ _ _ HM2.out).mono ?_); rintro e w2 ⟨rfl, hb2⟩; have HB3 := hide (HB2.out.trans (hb2.mono HB2.out.size)); have HX3 := hide (HX2.out.below hb2); have HM3 := hide (HM2.out.below hb2))))
  obtain ⟨c0, c1, c2, c3, c4, c5, c6, c7, c8, c9, c10⟩ := HX3.out.c11
  rw [HS.out] at HM3
  refine wp_region_noPanic ?_
  have hN : Below w2.heap.size w2 w2.drew := (Below.refl _ _).drew
  refine wp_region_held_drew (S := fun W => W.cell? ⟨w.heap.size, 0, none⟩ = some (.int .i64 o.kind) ∧ W.cell? ⟨w.heap.size, 1, none⟩ = some (.int .i64 o.node) ∧ W.cell? ⟨w.heap.size, 2, none⟩ = some (.int .i64 o.life) ∧ W.cell? ⟨w.heap.size, 3, none⟩ = some (.int .i64 o.epoch) ∧ W.cell? ⟨w.heap.size, 4, none⟩ = some (.string s1) ∧ W.cell? ⟨w.heap.size, 5, none⟩ = some (.int .i64 o.func) ∧ W.cell? ⟨w.heap.size, 6, none⟩ = some (.slice aa1 al1 ac1) ∧ W.cell? ⟨w.heap.size, 7, none⟩ = some (.int .i64 o.err) ∧ W.cell? ⟨w.heap.size, 8, none⟩ = some (.int .i64 o.val) ∧ W.cell? ⟨w.heap.size, 9, none⟩ = some (.int .i64 o.vep) ∧ W.cell? ⟨w.heap.size, 10, none⟩ = some (.slice ma1 ml1 mc1)) (by kernel_rfl) (⟨keep_cell c0 hN, keep_cell c1 hN, keep_cell c2 hN, keep_cell c3 hN, keep_cell c4 hN, keep_cell c5 hN, keep_cell c6 hN, keep_cell c7 hN, keep_cell c8 hN, keep_cell c9 hN, keep_cell c10 hN⟩) (fun hHeld => ?_)
  refine takeD (i := 0) (d := some 9) (v := ?_) rfl rfl (by kernel_rfl) (by kernel_rfl) (by kernel_rfl) (fun _ _ _ h => h) (Or.inl ⟨by rfl, ?_⟩) (by assumption) ?_
  rotate_left
  · intro w hSw
    go_simp
    try (with_reducible rfl)
  try simp only [Act.put, List.setIfInBounds_toArray, List.set_cons_zero, List.set_cons_succ]
  refine takeD (i := 1) (d := some 10) (v := ?_) rfl rfl (by kernel_rfl) (by kernel_rfl) (by kernel_rfl) (fun _ _ _ h => h) (Or.inl ⟨by rfl, ?_⟩) (by assumption) ?_
  rotate_left
  · intro w hSw
    go_simp
    try (with_reducible rfl)
  try simp only [Act.put, List.setIfInBounds_toArray, List.set_cons_zero, List.set_cons_succ]
  refine takeD (i := 4) (d := some 13) (v := ?_) rfl rfl (by kernel_rfl) (by kernel_rfl) (by kernel_rfl) (fun _ _ _ h => h) (Or.inl ⟨by rfl, ?_⟩) (by assumption) ?_
  rotate_left
  · intro w hSw
    go_simp
    try (with_reducible rfl)
  try simp only [Act.put, List.setIfInBounds_toArray, List.set_cons_zero, List.set_cons_succ]
  refine takeD (i := 5) (d := some 14) (v := ?_) rfl rfl (by kernel_rfl) (by kernel_rfl) (by kernel_rfl) (fun _ _ _ h => h) (Or.inl ⟨by rfl, ?_⟩) (by assumption) ?_
  rotate_left
  · intro w hSw
    go_simp
    try (with_reducible rfl)
  try simp only [Act.put, List.setIfInBounds_toArray, List.set_cons_zero, List.set_cons_succ]
  refine takeD (i := 6) (d := some 15) (v := ?_) rfl rfl (by kernel_rfl) (by kernel_rfl) (by kernel_rfl) (fun _ _ _ h => h) (Or.inl ⟨by rfl, ?_⟩) (by assumption) ?_
  rotate_left
  · intro w hSw
    go_simp
    try (with_reducible rfl)
  try simp only [Act.put, List.setIfInBounds_toArray, List.set_cons_zero, List.set_cons_succ]
  refine wpAnyH_ready (rs := [2]) (by kernel_rfl) (by simp) ?_
  refine AllReadyH.cons rfl (fun K hK => ?_) AllReadyH.nil
  go_simp
  have hN : Below w2.heap.size w2 (w2.drew.alloc (.cells #[.int .i64 o.kind] 3)) := (Below.refl _ _).drew.alloc (Nat.le_refl _) _
  go_wp2_with fail
  clear hHeld
  refine hK.out _ _ (⟨keep_cell c0 hN, keep_cell c1 hN, keep_cell c2 hN, keep_cell c3 hN, keep_cell c4 hN, keep_cell c5 hN, keep_cell c6 hN, keep_cell c7 hN, keep_cell c8 hN, keep_cell c9 hN, keep_cell c10 hN⟩) (fun hHeld => ?_)
  clear hK K
  try simp only [Act.put, List.setIfInBounds_toArray, List.set_cons_zero, List.set_cons_succ]
  refine wpAnyH_ready (rs := [3]) (by kernel_rfl) (by simp) ?_
  refine AllReadyH.cons rfl (fun K hK => ?_) AllReadyH.nil
  go_simp
  refine (CI.out w2.drew _ (by simp)).mono ?_
  rintro e w5 ⟨v5, rfl, hrow5, hb5⟩
  have hN : Below w2.heap.size w2 w5 := (Below.refl _ _).drew.trans hb5
  have HN5 := hide hN
  go_wp2_with fail
  clear hHeld
  refine hK.out _ _ (⟨keep_cell c0 hN, keep_cell c1 hN, keep_cell c2 hN, keep_cell c3 hN, keep_cell c4 hN, keep_cell c5 hN, keep_cell c6 hN, keep_cell c7 hN, keep_cell c8 hN, keep_cell c9 hN, keep_cell c10 hN⟩) (fun hHeld => ?_)
  clear hK K
  try simp only [Act.put, List.setIfInBounds_toArray, List.set_cons_zero, List.set_cons_succ]
  refine wpAnyH_ready (rs := [7]) (by kernel_rfl) (by simp) ?_
  refine AllReadyH.cons rfl (fun K hK => ?_) AllReadyH.nil
  go_simp
  refine (CP.out _).mono ?_
  rintro e w6 ⟨v6, rfl, hrow6, hb6⟩
  have HR6 := hide (hrow6.mono (Nat.zero_le _))
  have HR5 := hide ((hrow5.below hb6).mono (Nat.zero_le _))
  have hN : Below w2.heap.size w2 w6 := HN5.out.trans (hb6.mono HN5.out.size)
  have HN6 := hide hN
  go_wp2_with fail
  clear hHeld
  refine hK.out _ _ (⟨keep_cell c0 hN, keep_cell c1 hN, keep_cell c2 hN, keep_cell c3 hN, keep_cell c4 hN, keep_cell c5 hN, keep_cell c6 hN, keep_cell c7 hN, keep_cell c8 hN, keep_cell c9 hN, keep_cell c10 hN⟩) (fun hHeld => ?_)
  clear hK K
  try simp only [Act.put, List.setIfInBounds_toArray, List.set_cons_zero, List.set_cons_succ]
  refine wpAnyH_ready (rs := [8]) (by kernel_rfl) (by simp) ?_
  refine AllReadyH.cons rfl (fun K hK => ?_) AllReadyH.nil
  go_simp
  refine (CW.out w6 _ _ _ _ _ (HM3.out.below HN6.out) HR5.out HR6.out).mono ?_
  rintro e w7 ⟨v7, rfl, hrow7, hb7⟩
  have hN : Below w2.heap.size w2 w7 := HN6.out.trans (hb7.mono HN6.out.size)
  have HN7 := hide hN
  have HR7 := hide hrow7
  go_wp2_with fail
  clear hHeld
  refine hK.out _ _ (⟨keep_cell c0 hN, keep_cell c1 hN, keep_cell c2 hN, keep_cell c3 hN, keep_cell c4 hN, keep_cell c5 hN, keep_cell c6 hN, keep_cell c7 hN, keep_cell c8 hN, keep_cell c9 hN, keep_cell c10 hN⟩) (fun hHeld => ?_)
  clear hK K
  try simp only [Act.put, List.setIfInBounds_toArray, List.set_cons_zero, List.set_cons_succ]
  refine takeD (i := 9) (d := some 2) (v := ?_) rfl rfl (by kernel_rfl) (by kernel_rfl) (by kernel_rfl) (fun _ _ _ h => h) (Or.inl ⟨by rfl, ?_⟩) (by assumption) ?_
  rotate_left
  · intro w hSw
    go_simp
    try (with_reducible rfl)
  try simp only [Act.put, List.setIfInBounds_toArray, List.set_cons_zero, List.set_cons_succ]
  refine takeD (i := 10) (d := some 3) (v := ?_) rfl rfl (by kernel_rfl) (by kernel_rfl) (by kernel_rfl) (fun _ _ _ h => h) (Or.inl ⟨by rfl, ?_⟩) (by assumption) ?_
  rotate_left
  · intro w hSw
    go_simp
    try (with_reducible rfl)
  try simp only [Act.put, List.setIfInBounds_toArray, List.set_cons_zero, List.set_cons_succ]
  refine wpAnyH_done (by kernel_rfl) ?_ _
  refine NoPanic.normal ?_
  go_wp2
  go_ret2
  exact ⟨_, rfl, HR7.out, HB3.out.trans (HN7.out.mono HB3.out.size)⟩

/-- note.Pack. -/
theorem pack_any (n : No) (s : ByteArray) (av mv : Value) (B : Nat) (w : World) (hM : NM B w n s av mv) (hI : NIn n) : Calls Try.prog 11 #[Nv n s av mv] w (PackPost n w) := by
  have hM' := hM
  obtain ⟨_, _, _, _, ⟨aa, al, ac, rfl, _⟩, ⟨ma, ml, mc, rfl, _⟩⟩ := hM'
  unfold PackPost
  by_cases hm : mayN (clearN n) = true
  · simp only [hm, if_true]
    exact pack_yes n s aa ma al ac ml mc B w hM hI hm
  · simp only [hm]
    exact pack_no n s aa ma al ac ml mc B w hM (by simpa using hm)

end Go.Proofs.Ytgkpioleipefmaa
