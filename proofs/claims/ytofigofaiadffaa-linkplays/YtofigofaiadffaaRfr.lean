/- The document's link: Open, wait, frame. -/
import Derived.Test.YtofigofaiadffaaRsn
namespace Go.Proofs.Ytofigofaiadffaa
open Go.RowKit Go.ChangeShapes Go.WideShapes Go.ChangeAt Go.Deep

set_option maxRecDepth 100000 in
set_option maxHeartbeats 400000 in
theorem ropen_any (E : Nat → Prop) (g : Nat) (k : Kc) (r : Rl) (w : World) (h : RLk E w g k r) : Calls Try.prog 22 #[.pointer (some ⟨g, 0, none⟩)] w fun e w' => e = .returned (.int .i64 (r.op.length : Int)) ∧ w' = w := by
  obtain ⟨oa, on, oc, ka, kn, kc, lo, lk, hbx, hro, hrk, hlo, hlk, hEg, hlt⟩ := h
  have HLO := hide (show on = r.op.length by rw [← hro.1]; have := congrArg List.length hlo; simpa using this)
  have c7 := (hbx.2 7 (by simp [lkCs])).1
  simp only [lkCs, List.getElem_cons_succ, List.getElem_cons_zero] at c7
  rw [← HLO.out]
  clear hbx hro hrk hlo hlk hEg hlt HLO
  go_enter Try.func22, Try.ntmps22
  go_wp2
  go_ret
  exact ⟨rfl, rfl⟩

/-- How long a load waits, as the loop goes. -/
theorem wtT_big (n : Nat) (h : 5 ≤ n) : wtT n = 64 := by
  obtain ⟨m, rfl⟩ : ∃ m, n = m + 5 := ⟨n - 5, by omega⟩
  show min (4 * 2 ^ (m + 4)) 64 = 64
  have h := pow2_pos m
  have e : (2 : Int) ^ (m + 4) = 2 ^ m * 16 := by rw [Int.pow_succ, Int.pow_succ, Int.pow_succ, Int.pow_succ]; omega
  rw [e]
  omega
theorem wtT_dbl (i : Nat) (h1 : 1 ≤ i) (h : i ≤ 4) : 2 * wtT i = wtT (i + 1) ∧ wtT i < 64 := by
  have : i = 1 ∨ i = 2 ∨ i = 3 ∨ i = 4 := by omega
  rcases this with rfl | rfl | rfl | rfl <;> decide

set_option linter.unusedSimpArgs false in
set_option maxRecDepth 100000 in
set_option maxHeartbeats 4000000 in
theorem wait_any (n : Nat) (w : World) (h1 : 1 ≤ n) (hn : n ≤ 1000000) : Calls Try.prog 31 #[.int .i64 (n : Nat)] w fun e w' => e = .returned (.int .i64 (wtT n)) ∧ w' = w := by
  have HN := hide (And.intro h1 hn)
  clear h1 hn
  go_enter Try.func31, Try.ntmps31
  go_wp2_with fail
  go_loopw [3, 4] (fun t i wr => wr = w ∧ ∃ k : Nat, 1 ≤ k ∧ k ≤ n ∧ k ≤ 5 ∧ t = .int .i64 (wtT k) ∧ i = .int .i64 (k : Nat)) (fun _ i _ => 5 - (intOf i).toNat)
  case atStart => exact ⟨rfl, 1, Nat.le_refl _, HN.out.1, by omega, rfl, rfl⟩
  case round =>
    obtain ⟨rfl, k, hk1, hkn, hk5, rfl, rfl⟩ := hrel
    by_cases hlt : (k : Int) < (n : Int)
    · by_cases h5 : k = 5
      · subst h5
        have hw : wtT 5 = 64 := by decide
        have hd : decide (wtT 5 < 64) = false := by decide
        have HF := hide (show wtT 5 = wtT n by rw [hw, wtT_big n hkn])
        generalize wtT 5 = t5 at *
        go_wp2_with fail
        go_ret
        exact ⟨by rw [← HF.out, hw]; rfl, rfl⟩
      · obtain ⟨hd, hs⟩ := wtT_dbl k hk1 (by omega)
        have hs' : decide (wtT k < 64) = true := by simpa using hs
        have HD := hide hd
        have hwr : IntKind.i64.wrap (2 * wtT k) = 2 * wtT k := by have := wtT_le k; rw [IntKind.wrap_i64]; omega
        have hpos := wtT_pos k hk1
        generalize wtT k = t5 at *
        go_wp2_with fail
        go_roundw
        case rel => exact ⟨trivial, k + 1, by omega, by omega, by omega, by first | (rw [← HD.out]; done) | (rw [← HD.out]; congr 1; done) | (rw [← HD.out]; congr 1; exact IntWalk.wrap64_in _ (by omega)), by go_num⟩
        case measure => simp [intOf]; omega
    · obtain rfl : k = n := by omega
      go_wp2_with fail
      go_ret
      exact ⟨rfl, rfl⟩

/-- A whole frame is stored. -/
def put6 (W : World) (g : Nat) (v0 v1 v2 v3 v4 v5 : Value) : World :=
  (((((W.setCell ⟨g, 0, none⟩ v0).setCell ⟨g, 1, none⟩ v1).setCell ⟨g, 2, none⟩ v2).setCell ⟨g, 3, none⟩ v3).setCell ⟨g, 4, none⟩ v4).setCell ⟨g, 5, none⟩ v5
theorem put6_box {W : World} {g : Nat} {x0 x1 x2 x3 x4 x5 : Value} (h : BoxL W g [x0, x1, x2, x3, x4, x5]) (v0 v1 v2 v3 v4 v5 : Value) : BoxL (put6 W g v0 v1 v2 v3 v4 v5) g [v0, v1, v2, v3, v4, v5] :=
  (((((h.put 0 v0).put 1 v1).put 2 v2).put 3 v3).put 4 v4).put 5 v5
theorem put6_below {w W : World} {B g : Nat} (h : Below B w W) (hg : B ≤ g) (v0 v1 v2 v3 v4 v5 : Value) : Below B w (put6 W g v0 v1 v2 v3 v4 v5) :=
  (((((h.setCell hg v0).setCell hg v1).setCell hg v2).setCell hg v3).setCell hg v4).setCell hg v5
theorem put6_size (W : World) (g : Nat) (v0 v1 v2 v3 v4 v5 : Value) : (put6 W g v0 v1 v2 v3 v4 v5).heap.size = W.heap.size := by simp [put6, World.setCell]
theorem put6_txo {W : World} {B : Nat} {g : Nat} {t : Txt} (h : TxO (fun j => B ≤ j ∧ j < W.heap.size ∧ j ≠ g) W t) (v0 v1 v2 v3 v4 v5 : Value) : TxO (fun j => B ≤ j ∧ j < (put6 W g v0 v1 v2 v3 v4 v5).heap.size) (put6 W g v0 v1 v2 v3 v4 v5) t := by
  have h2 : TxO (fun j => B ≤ j ∧ j < W.heap.size ∧ j ≠ g) (put6 W g v0 v1 v2 v3 v4 v5) t := h.keep fun ad e => by
    have hne := (h.2.2 ad e).2.2
    unfold put6
    rw [Below.heap_setCell _ _ _ _ hne, Below.heap_setCell _ _ _ _ hne, Below.heap_setCell _ _ _ _ hne, Below.heap_setCell _ _ _ _ hne, Below.heap_setCell _ _ _ _ hne, Below.heap_setCell _ _ _ _ hne]
  exact h2.mono fun j hj => ⟨hj.1, by rw [put6_size]; exact hj.2.1⟩
theorem BoxL.six {w : World} {g : Nat} {x0 x1 x2 x3 x4 x5 : Value} (h : BoxL w g [x0, x1, x2, x3, x4, x5]) :
    (w.cell? ⟨g, 0, none⟩ = some x0 ∧ w.frozen? ⟨g, 0, none⟩ = false) ∧ (w.cell? ⟨g, 1, none⟩ = some x1 ∧ w.frozen? ⟨g, 1, none⟩ = false) ∧ (w.cell? ⟨g, 2, none⟩ = some x2 ∧ w.frozen? ⟨g, 2, none⟩ = false) ∧ (w.cell? ⟨g, 3, none⟩ = some x3 ∧ w.frozen? ⟨g, 3, none⟩ = false) ∧ (w.cell? ⟨g, 4, none⟩ = some x4 ∧ w.frozen? ⟨g, 4, none⟩ = false) ∧ (w.cell? ⟨g, 5, none⟩ = some x5 ∧ w.frozen? ⟨g, 5, none⟩ = false) :=
  ⟨h.2 0 (by simp), h.2 1 (by simp), h.2 2 (by simp), h.2 3 (by simp), h.2 4 (by simp), h.2 5 (by simp)⟩

/-- What frame answers. -/
def FrQ (w : World) (se pe li sq al : Int) (xs : List Nat) (e : Ending) (w' : World) : Prop :=
  ∃ a n c, e = .returned (.agg #[.int .i64 se, .int .i64 pe, .int .i64 li, .int .i64 sq, .int .i64 al, .slice a n c]) ∧ TxO (fun j => w.heap.size ≤ j ∧ j < w'.heap.size) w' ⟨a, n, c, xs⟩ ∧ Below w.heap.size w w'

set_option linter.unusedSimpArgs false in
set_option maxRecDepth 100000 in
set_option maxHeartbeats 4000000 in
theorem rframe_any (g : Nat) (se pe li sq al : Int) (a : Option Addr) (n cc : Nat) (xs : List Nat) (w : World) (p0 : w.cell? ⟨g, 0, none⟩ = some (.int .i64 se)) (p1 : w.cell? ⟨g, 1, none⟩ = some (.int .i64 pe)) (p2 : w.cell? ⟨g, 2, none⟩ = some (.int .i64 li)) (p6 : w.cell? ⟨g, 6, none⟩ = some (.int .i64 al))
    (hl : xs.length = n) (hB : Byt xs) (hn : n ≤ 4096) (hr : Reads w a (bV xs)) (hnil : a = none → n = 0 ∧ cc = 0) :
    Calls Try.prog 32 #[.pointer (some ⟨g, 0, none⟩), .int .i64 sq, .slice a n cc] w (FrQ w se pe li sq al xs) := by
  have HX := hide (BoxL.new w [.int .i64 0, .int .i64 0, .int .i64 0, .int .i64 0, .int .i64 0, .slice none 0 0] 34)
  have HB0 := hide (below_new w (.cells #[.int .i64 0, .int .i64 0, .int .i64 0, .int .i64 0, .int .i64 0, .slice none 0 0] 34))
  have HR1 := hide (hr.below HB0.out)
  have HS1 := hide (show (w.alloc (.cells #[.int .i64 0, .int .i64 0, .int .i64 0, .int .i64 0, .int .i64 0, .slice none 0 0] 34)).heap.size = w.heap.size + 1 by simp)
  have HTX := hide (fun a1 c1 w2 (ho : w2.ownsRow (w.alloc (.cells #[.int .i64 0, .int .i64 0, .int .i64 0, .int .i64 0, .int .i64 0, .slice none 0 0] 34)).heap.size 5 1 (.slice a1 n c1) n (bV xs)) (_ : Below (w.alloc (.cells #[.int .i64 0, .int .i64 0, .int .i64 0, .int .i64 0, .int .i64 0, .slice none 0 0] 34)).heap.size (w.alloc (.cells #[.int .i64 0, .int .i64 0, .int .i64 0, .int .i64 0, .int .i64 0, .slice none 0 0] 34)) w2) =>
    show TxO (fun j => w.heap.size ≤ j ∧ j < w2.heap.size ∧ j ≠ w.heap.size) w2 ⟨a1, n, c1, xs⟩ from ⟨⟨hl, hB, hn⟩, own_base ho (Nat.zero_le _), fun ad e => by have := own_lt ho ad e; have := HS1.out; show _ ≤ ad.block ∧ ad.block < _ ∧ ad.block ≠ _; omega⟩)
  have HN := hide hn
  have HL := hide hl
  have HNIL := hide hnil
  have q0 := keep_cell p0 HB0.out
  have q1 := keep_cell p1 HB0.out
  have q2 := keep_cell p2 HB0.out
  have q6 := keep_cell p6 HB0.out
  clear hl hB hn hr hnil
  unfold FrQ
  go_enter Try.func32, Try.ntmps32
  go_upto_region 1 with fail
  generalize w.alloc (.cells #[.int .i64 0, .int .i64 0, .int .i64 0, .int .i64 0, .int .i64 0, .slice none 0 0] 34) = w1 at *
  refine wp_region_noPanic ?_
  refine wp_region_held_drew (S := fun W => W.cell? ⟨g, 0, none⟩ = some (.int .i64 se) ∧ W.cell? ⟨g, 1, none⟩ = some (.int .i64 pe) ∧ W.cell? ⟨g, 2, none⟩ = some (.int .i64 li) ∧ W.cell? ⟨g, 6, none⟩ = some (.int .i64 al)) (by kernel_rfl) (⟨q0, q1, q2, q6⟩) (fun hHeld => ?_)
  refine takeD (i := 0) (d := some 7) (v := ?_) rfl rfl (by kernel_rfl) (by kernel_rfl) (by kernel_rfl) (fun _ _ _ h => h) (Or.inl ⟨by rfl, ?_⟩) (by assumption) ?_
  rotate_left
  · intro w hSw
    go_simp
    try (with_reducible rfl)
  try simp only [Act.put, List.setIfInBounds_toArray, List.set_cons_zero, List.set_cons_succ]
  refine takeD (i := 1) (d := some 8) (v := ?_) rfl rfl (by kernel_rfl) (by kernel_rfl) (by kernel_rfl) (fun _ _ _ h => h) (Or.inl ⟨by rfl, ?_⟩) (by assumption) ?_
  rotate_left
  · intro w hSw
    go_simp
    try (with_reducible rfl)
  try simp only [Act.put, List.setIfInBounds_toArray, List.set_cons_zero, List.set_cons_succ]
  refine takeD (i := 2) (d := some 9) (v := ?_) rfl rfl (by kernel_rfl) (by kernel_rfl) (by kernel_rfl) (fun _ _ _ h => h) (Or.inl ⟨by rfl, ?_⟩) (by assumption) ?_
  rotate_left
  · intro w hSw
    go_simp
    try (with_reducible rfl)
  try simp only [Act.put, List.setIfInBounds_toArray, List.set_cons_zero, List.set_cons_succ]
  refine takeD (i := 3) (d := some 10) (v := ?_) rfl rfl (by kernel_rfl) (by kernel_rfl) (by kernel_rfl) (fun _ _ _ h => h) (Or.inl ⟨by rfl, ?_⟩) (by assumption) ?_
  rotate_left
  · intro w hSw
    go_simp
    try (with_reducible rfl)
  try simp only [Act.put, List.setIfInBounds_toArray, List.set_cons_zero, List.set_cons_succ]
  refine takeD (i := 4) (d := some 11) (v := ?_) rfl rfl (by kernel_rfl) (by kernel_rfl) (by kernel_rfl) (fun _ _ _ h => h) (Or.inl ⟨by rfl, ?_⟩) (by assumption) ?_
  rotate_left
  · intro w hSw
    go_simp
    try (with_reducible rfl)
  try simp only [Act.put, List.setIfInBounds_toArray, List.set_cons_zero, List.set_cons_succ]
  refine takeD (i := 5) (d := some 12) (v := ?_) rfl rfl (by kernel_rfl) (by kernel_rfl) (by kernel_rfl) (fun _ _ _ h => h) (Or.inl ⟨by rfl, ?_⟩) (by assumption) ?_
  rotate_left
  · intro w hSw
    go_simp
    try (with_reducible rfl)
  try simp only [Act.put, List.setIfInBounds_toArray, List.set_cons_zero, List.set_cons_succ]
  refine takeD (i := 6) (d := some 13) (v := ?_) rfl rfl (by kernel_rfl) (by kernel_rfl) (by kernel_rfl) (fun _ _ _ h => h) (Or.inl ⟨by rfl, ?_⟩) (by assumption) ?_
  rotate_left
  · intro w hSw
    go_simp
    try (with_reducible rfl)
  try simp only [Act.put, List.setIfInBounds_toArray, List.set_cons_zero, List.set_cons_succ]
  refine takeD (i := 7) (d := some 14) (v := ?_) rfl rfl (by kernel_rfl) (by kernel_rfl) (by kernel_rfl) (fun _ _ _ h => h) (Or.inl ⟨by rfl, ?_⟩) (by assumption) ?_
  rotate_left
  · intro w hSw
    go_simp
    try (with_reducible rfl)
  try simp only [Act.put, List.setIfInBounds_toArray, List.set_cons_zero, List.set_cons_succ]
  refine takeD (i := 8) (d := some 15) (v := ?_) rfl rfl (by kernel_rfl) (by kernel_rfl) (by kernel_rfl) (fun _ _ _ h => h) (Or.inl ⟨by rfl, ?_⟩) (by assumption) ?_
  rotate_left
  · intro w hSw
    go_simp
    try (with_reducible rfl)
  try simp only [Act.put, List.setIfInBounds_toArray, List.set_cons_zero, List.set_cons_succ]
  refine takeD (i := 9) (d := some 16) (v := ?_) rfl rfl (by kernel_rfl) (by kernel_rfl) (by kernel_rfl) (fun _ _ _ h => h) (Or.inl ⟨by rfl, ?_⟩) (by assumption) ?_
  rotate_left
  · intro w hSw
    go_simp
    try (with_reducible rfl)
  try simp only [Act.put, List.setIfInBounds_toArray, List.set_cons_zero, List.set_cons_succ]
  refine takeD (i := 10) (d := some 17) (v := ?_) rfl rfl (by kernel_rfl) (by kernel_rfl) (by kernel_rfl) (fun _ _ _ h => h) (Or.inl ⟨by rfl, ?_⟩) (by assumption) ?_
  rotate_left
  · intro w hSw
    go_simp
    try (with_reducible rfl)
  try simp only [Act.put, List.setIfInBounds_toArray, List.set_cons_zero, List.set_cons_succ]
  refine takeD (i := 11) (d := some 18) (v := ?_) rfl rfl (by kernel_rfl) (by kernel_rfl) (by kernel_rfl) (fun _ _ _ h => h) (Or.inl ⟨by rfl, ?_⟩) (by assumption) ?_
  rotate_left
  · intro w hSw
    go_simp
    try (with_reducible rfl)
  try simp only [Act.put, List.setIfInBounds_toArray, List.set_cons_zero, List.set_cons_succ]
  refine takeD (i := 12) (d := some 19) (v := ?_) rfl rfl (by kernel_rfl) (by kernel_rfl) (by kernel_rfl) (fun _ _ _ h => h) (Or.inl ⟨by rfl, ?_⟩) (by assumption) ?_
  rotate_left
  · intro w hSw
    go_simp
    try (with_reducible rfl)
  try simp only [Act.put, List.setIfInBounds_toArray, List.set_cons_zero, List.set_cons_succ]
  refine takeD (i := 13) (d := some 20) (v := ?_) rfl rfl (by kernel_rfl) (by kernel_rfl) (by kernel_rfl) (fun _ _ _ h => h) (Or.inl ⟨by rfl, ?_⟩) (by assumption) ?_
  rotate_left
  · intro w hSw
    go_simp
    try (with_reducible rfl)
  try simp only [Act.put, List.setIfInBounds_toArray, List.set_cons_zero, List.set_cons_succ]
  refine takeD (i := 14) (d := some 21) (v := ?_) rfl rfl (by kernel_rfl) (by kernel_rfl) (by kernel_rfl) (fun _ _ _ h => h) (Or.inl ⟨by rfl, ?_⟩) (by assumption) ?_
  rotate_left
  · intro w hSw
    go_simp
    try (with_reducible rfl)
  try simp only [Act.put, List.setIfInBounds_toArray, List.set_cons_zero, List.set_cons_succ]
  refine takeD (i := 15) (d := some 22) (v := ?_) rfl rfl (by kernel_rfl) (by kernel_rfl) (by kernel_rfl) (fun _ _ _ h => h) (Or.inl ⟨by rfl, ?_⟩) (by assumption) ?_
  rotate_left
  · intro w hSw
    go_simp
    try (with_reducible rfl)
  try simp only [Act.put, List.setIfInBounds_toArray, List.set_cons_zero, List.set_cons_succ]
  refine takeD (i := 16) (d := some 23) (v := ?_) rfl rfl (by kernel_rfl) (by kernel_rfl) (by kernel_rfl) (fun _ _ _ h => h) (Or.inl ⟨by rfl, ?_⟩) (by assumption) ?_
  rotate_left
  · intro w hSw
    go_simp
    try (with_reducible rfl)
  try simp only [Act.put, List.setIfInBounds_toArray, List.set_cons_zero, List.set_cons_succ]
  refine takeD (i := 17) (d := some 24) (v := ?_) rfl rfl (by kernel_rfl) (by kernel_rfl) (by kernel_rfl) (fun _ _ _ h => h) (Or.inl ⟨by rfl, ?_⟩) (by assumption) ?_
  rotate_left
  · intro w hSw
    go_simp
    try (with_reducible rfl)
  try simp only [Act.put, List.setIfInBounds_toArray, List.set_cons_zero, List.set_cons_succ]
  refine wpAnyH_ready (rs := [18]) (by kernel_rfl) (by simp) ?_
  refine AllReadyH.cons rfl (fun K hK => ?_) AllReadyH.nil
  refine app_b (.const (.slice none 0 0)) (.tmp 24) rfl rfl a n cc xs rfl HNIL.out HL.out (HR1.out.drew) (by have := HN.out; omega) ?_
  intro a1 c1 w2 ho1 hb1
  have HO1 := hide ho1
  have HB1 := hide (below_undrew1 hb1)
  have r0 := keep_cell q0 HB1.out
  have r1 := keep_cell q1 HB1.out
  have r2 := keep_cell q2 HB1.out
  have r6 := keep_cell q6 HB1.out
  have HX2 := hide (HX.out.below HB1.out)
  obtain ⟨⟨y0, z0⟩, ⟨y1, z1⟩, ⟨y2, z2⟩, ⟨y3, z3⟩, ⟨y4, z4⟩, ⟨y5, z5⟩⟩ := HX2.out.six
  clear ho1 hb1 q0 q1 q2 q6
  refine hK.out _ _ (⟨r0, r1, r2, r6⟩) (fun hHeld => ?_)
  clear hK K
  try simp only [Act.put, List.setIfInBounds_toArray, List.set_cons_zero, List.set_cons_succ]
  refine takeD (i := 19) (d := some 26) (v := ?_) rfl rfl (by kernel_rfl) (by kernel_rfl) (by kernel_rfl) (fun _ _ _ h => h) (Or.inl ⟨by rfl, ?_⟩) (by assumption) ?_
  rotate_left
  · intro w hSw
    go_simp
    try (with_reducible rfl)
  try simp only [Act.put, List.setIfInBounds_toArray, List.set_cons_zero, List.set_cons_succ]
  refine wpAnyH_ready (rs := [20]) (by kernel_rfl) (by simp) ?_
  refine AllReadyH.cons rfl (fun K hK => ?_) AllReadyH.nil
  go_simp
  go_wp2_with fail
  have HX3 := hide (put6_box HX2.out (.int .i64 se) (.int .i64 pe) (.int .i64 li) (.int .i64 sq) (.int .i64 al) (.slice a1 n c1))
  have HB3 := hide (put6_below (HB0.out.trans (HB1.out.mono HB0.out.size)) (Nat.le_refl _) (.int .i64 se) (.int .i64 pe) (.int .i64 li) (.int .i64 sq) (.int .i64 al) (.slice a1 n c1))
  have HT3 := hide (put6_txo (HTX.out _ _ _ HO1.out HB1.out) (.int .i64 se) (.int .i64 pe) (.int .i64 li) (.int .i64 sq) (.int .i64 al) (.slice a1 n c1))
  obtain ⟨X, hX⟩ : ∃ X, X = put6 w2 w.heap.size (.int .i64 se) (.int .i64 pe) (.int .i64 li) (.int .i64 sq) (.int .i64 al) (.slice a1 n c1) := ⟨_, rfl⟩
  rw [← hX] at HX3 HB3 HT3
  unfold put6 at hX
  rw [← hX]
  clear hX
  have s0 := keep_cell p0 HB3.out
  have s1 := keep_cell p1 HB3.out
  have s2 := keep_cell p2 HB3.out
  have s6 := keep_cell p6 HB3.out
  refine hK.out _ _ (⟨s0, s1, s2, s6⟩) (fun hHeld => ?_)
  clear hK K
  try simp only [Act.put, List.setIfInBounds_toArray, List.set_cons_zero, List.set_cons_succ]
  refine wpAnyH_done (by kernel_rfl) ?_ _
  refine NoPanic.normal ?_
  have HE3 := HX3.out.six
  obtain ⟨⟨x0, -⟩, ⟨x1, -⟩, ⟨x2, -⟩, ⟨x3, -⟩, ⟨x4, -⟩, ⟨x5, -⟩⟩ := HE3
  go_wp2
  exact bodyPost_ret (v := .agg #[.int .i64 se, .int .i64 pe, .int .i64 li, .int .i64 sq, .int .i64 al, .slice a1 n c1]) (by simp [results, Try.results32, go_sem, x0, x1, x2, x3, x4, x5]) rfl ⟨a1, n, c1, rfl, HT3.out, HB3.out⟩
end Go.Proofs.Ytofigofaiadffaa
