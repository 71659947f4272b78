/- frame.Read. -/
import Derived.Test.YtpieagcijfkpnaaDoorFrN
import Derived.Test.YtpieagcijfkpnaaDoorFrD
namespace Go.Proofs.YtpieagcijfkpnaaDoor
open Go.RowKit Go.ChangeShapes Go.WideShapes Go.ChangeAt Go.Deep
attribute [local go_sem ↓] Go.wp_at_zero Go.wp_at_succ
set_option linter.unusedSimpArgs false

/-- Six cells are put, one behind the other. -/
def put6 (W : World) (g : Nat) (v0 v1 v2 v3 v4 v5 : Value) : World :=
  (((((W.setCell ⟨g, 0, none⟩ v0).setCell ⟨g, 1, none⟩ v1).setCell ⟨g, 2, none⟩ v2).setCell ⟨g, 3, none⟩ v3).setCell ⟨g, 4, none⟩ v4).setCell ⟨g, 5, none⟩ v5

theorem put6_box {W : World} {g : Nat} {x0 x1 x2 x3 x4 x5 : Value} (h : BoxL W g [x0, x1, x2, x3, x4, x5]) (v0 v1 v2 v3 v4 v5 : Value) : BoxL (put6 W g v0 v1 v2 v3 v4 v5) g [v0, v1, v2, v3, v4, v5] :=
  (((((h.put 0 v0).put 1 v1).put 2 v2).put 3 v3).put 4 v4).put 5 v5

theorem below_put {w W : World} {B g o : Nat} {v : Value} (h : Below B w W) (hg : B ≤ g) : Below B w (W.setCell ⟨g, o, none⟩ v) :=
  ⟨h.os, h.tape, h.output, by simpa [World.setCell] using h.size, fun k hk => (Below.heap_setCell _ _ _ _ (by show k ≠ g; omega)).trans (h.block k hk)⟩

theorem put6_below {w W : World} {B g : Nat} (h : Below B w W) (hg : B ≤ g) (v0 v1 v2 v3 v4 v5 : Value) : Below B w (put6 W g v0 v1 v2 v3 v4 v5) :=
  below_put (below_put (below_put (below_put (below_put (below_put h hg) hg) hg) hg) hg) hg

theorem put6_reads {W : World} {g : Nat} {a : Option Addr} {xs : List Value} (h : Reads W a xs) (hg : ∀ b off, a = some ⟨b, off, none⟩ → b ≠ g) (v0 v1 v2 v3 v4 v5 : Value) : Reads (put6 W g v0 v1 v2 v3 v4 v5) a xs := by
  rcases h with h | ⟨b, off, e, h⟩
  · exact .inl h
  · have hb : (put6 W g v0 v1 v2 v3 v4 v5).heap[b]? = W.heap[b]? := by
      have hne := hg b off e
      unfold put6
      rw [Below.heap_setCell _ _ _ _ hne, Below.heap_setCell _ _ _ _ hne, Below.heap_setCell _ _ _ _ hne, Below.heap_setCell _ _ _ _ hne, Below.heap_setCell _ _ _ _ hne, Below.heap_setCell _ _ _ _ hne]
    refine .inr ⟨b, off, e, fun j u hu => ?_⟩
    rw [World.cell?_of_block (w := W) (a := ⟨b, off + j, none⟩) hb]; exact h j u hu

/-- What Read answers. -/
def ReadPost (bs : List Nat) (w : World) (e : Ending) (w' : World) : Prop :=
  ∃ a l c, e = .returned (.tuple #[(readL bs).1.val a l c, .int .i64 ((readL bs).2 : Nat)]) ∧ (readL bs).1.load.length = l ∧ Reads w' a (bV (readL bs).1.load) ∧ Below w.heap.size w w'

theorem read_no {bs : List Nat} {w : World} {k : Nat} (h : readL bs = (fr0, k)) {w' : World} (hb : Below w.heap.size w w') : ReadPost bs w (.returned (.tuple #[.agg #[.int .i64 0, .int .i64 0, .int .i64 0, .int .i64 0, .int .i64 0, .slice none 0 0], .int .i64 (k : Nat)])) w' :=
  ⟨none, 0, 0, by rw [h]; rfl, by rw [h]; rfl, by rw [h]; exact .inl rfl, hb⟩

set_option maxRecDepth 100000 in
set_option maxHeartbeats 400000 in
theorem read_lt (a : Option Addr) (len cap : Nat) (bs : List Nat) (w : World) (hl : bs.length = len) (h5 : len < 5) :
    Calls Tryd.prog 12 #[.slice a len cap] w (ReadPost bs w) := by
  have HR := hide (show readL bs = (fr0, 4) by unfold readL; rw [if_pos (.inl (by omega))])
  have HX0 := hide (BoxL.new w [.int .i64 0, .int .i64 0, .int .i64 0, .int .i64 0, .int .i64 0, .slice none 0 0] 24)
  have HB0 := hide ((Below.refl w.heap.size w).alloc (Nat.le_refl _) (.cells [.int .i64 0, .int .i64 0, .int .i64 0, .int .i64 0, .int .i64 0, .slice none 0 0].toArray 24))
  go_enter Tryd.func12, Tryd.ntmps12
  go_wp2
  exact bodyPost_ret (v := .tuple #[.agg #[.int .i64 0, .int .i64 0, .int .i64 0, .int .i64 0, .int .i64 0, .slice none 0 0], .int .i64 (4 : Nat)]) (by simp [results, Tryd.results12, go_sem]) rfl (read_no HR.out HB0.out)

set_option maxRecDepth 100000 in
set_option maxHeartbeats 400000 in
theorem read_mark (a : Option Addr) (len cap : Nat) (bs : List Nat) (w : World) (hl : bs.length = len) (h5 : 5 ≤ len) (hlen : len ≤ 1000000) (hr : Reads w a (bV bs)) (hm : bs.head? ≠ some 70) :
    Calls Tryd.prog 12 #[.slice a len cap] w (ReadPost bs w) := by
  have HR := hide (show readL bs = (fr0, 4) by unfold readL; rw [if_pos (.inr hm)])
  have HX0 := hide (BoxL.new w [.int .i64 0, .int .i64 0, .int .i64 0, .int .i64 0, .int .i64 0, .slice none 0 0] 24)
  have HB0 := hide ((Below.refl w.heap.size w).alloc (Nat.le_refl _) (.cells [.int .i64 0, .int .i64 0, .int .i64 0, .int .i64 0, .int .i64 0, .slice none 0 0].toArray 24))
  have h0 : 0 < bs.length := by omega
  obtain ⟨b, off, har, hcell⟩ := reads_byte hr h0
  subst har
  have hx : bs[0] ≠ 70 := fun e => hm (by cases bs with | nil => simp at h0 | cons y l => simp at e; simp [e])
  obtain ⟨x, hxe⟩ : ∃ x, x = bs[0] := ⟨_, rfl⟩
  rw [← hxe] at hcell hx
  have hx' : ((x : Int) == 70) = false := by rw [beq_eq_false_iff_ne]; omega
  have hx2 : ((x : Int) != 70) = true := by simp [bne, hx']
  have hc1 := keep_cell hcell (HB0.out)
  have hc2 : (w.alloc (.cells #[.int .i64 0, .int .i64 0, .int .i64 0, .int .i64 0, .int .i64 0, .slice none 0 0] 24)).cell? ⟨b, off, none⟩ = some (.int .u8 (x : Nat)) := by simpa using hc1
  clear hxe hcell hc1 hr
  go_enter Tryd.func12, Tryd.ntmps12
  go_wp2
  exact bodyPost_ret (v := .tuple #[.agg #[.int .i64 0, .int .i64 0, .int .i64 0, .int .i64 0, .int .i64 0, .slice none 0 0], .int .i64 (4 : Nat)]) (by simp [results, Tryd.results12, go_sem]) rfl (read_no HR.out HB0.out)

set_option maxRecDepth 100000 in
set_option maxHeartbeats 2000000 in
theorem read_sum (a : Option Addr) (len cap : Nat) (bs : List Nat) (w : World) (hl : bs.length = len) (h5 : 5 ≤ len) (hlen : len ≤ 1000000) (hlc : len ≤ cap) (hcm : cap ≤ maxLen) (hB : Byt bs) (hr : Reads w a (bV bs)) (hm : bs.head? = some 70) (hT : Tab w) (hs : bs.drop (bs.length - 4) ≠ tail4 (crcSum (bs.take (bs.length - 4)))) :
    Calls Tryd.prog 12 #[.slice a len cap] w (ReadPost bs w) := by
  have HR := hide (show readL bs = (fr0, 5) by unfold readL; rw [if_neg (by rw [hm]; simp; omega), if_pos hs])
  have HX0 := hide (BoxL.new w [.int .i64 0, .int .i64 0, .int .i64 0, .int .i64 0, .int .i64 0, .slice none 0 0] 24)
  have HB0 := hide ((Below.refl w.heap.size w).alloc (Nat.le_refl _) (.cells [.int .i64 0, .int .i64 0, .int .i64 0, .int .i64 0, .int .i64 0, .slice none 0 0].toArray 24))
  have h0 : 0 < bs.length := by omega
  obtain ⟨b, off, har, hcell⟩ := reads_byte hr h0
  subst har
  have hx : bs[0] = 70 := by cases bs with | nil => simp at h0 | cons y l => simpa using hm
  rw [hx] at hcell
  have hc1 := keep_cell hcell (HB0.out)
  have hc2 : (w.alloc (.cells #[.int .i64 0, .int .i64 0, .int .i64 0, .int .i64 0, .int .i64 0, .slice none 0 0] 24)).cell? ⟨b, off, none⟩ = some (.int .u8 70) := by simpa using hc1
  clear hcell hc1 hx
  obtain ⟨k, rfl⟩ : ∃ k, len = k + 4 := ⟨len - 4, by omega⟩
  have hcm' : cap ≤ 9223372036854775807 := by unfold maxLen at hcm; omega
  have hi1 : ((k + 4 : Nat) : Int) - 4 = (k : Int) := by omega
  obtain ⟨V, hV⟩ : ∃ V, V = w.alloc (.cells #[.int .i64 0, .int .i64 0, .int .i64 0, .int .i64 0, .int .i64 0, .slice none 0 0] 24) := ⟨_, rfl⟩
  have HTK := hide (show (bs.take (bs.length - 4)) = bs.take k by rw [hl]; congr 1)
  have HDR := hide (show (bs.drop (bs.length - 4)) = bs.drop k by rw [hl]; congr 1)
  have hb0 : Below w.heap.size w V := by rw [hV]; exact HB0.out
  have CT := hide (tail_any V.drew V.heap.size rfl (some ⟨b, off, none⟩) k cap (bs.take k) (by simp; omega) (by omega) hcm (fun h => by cases h) (hB.take k) ((hr.below hb0).take k).drew (hT.below hb0.drew))
  have HRL := hide (show Reads w (some ⟨b, off + k, none⟩) (bV (bs.drop k)) by
    rcases hr with h | ⟨b', off', e, h⟩
    · exact absurd (by simpa [bV] using h) (by intro e; rw [e] at h0; simp at h0)
    · simp at e
      obtain ⟨rfl, rfl⟩ := e
      refine .inr ⟨b, off + k, rfl, fun j u hu => ?_⟩
      rw [Nat.add_assoc]
      exact h (k + j) u (by simpa [bV] using hu))
  have HBd := hide (hB.drop k)
  have HBt := hide (hB.take k)
  have HRd := hide hr
  have hck : ¬ cap = k := by omega
  have HCM := hide hcm
  have HL := hide hl
  have hkl : k ≤ 1000000 := by omega
  have hkb : 1 ≤ k := by omega
  have hkc : k + 4 ≤ cap := by omega
  have hkk : (k : Int) ≤ (k : Int) + 4 := by omega
  have hkc2 : k ≤ cap := by omega
  have HV := hide hV
  rw [← hV] at HX0
  have HC2 := hide (hV ▸ hc2)
  have HEQ := hide (show decide (bs.drop k = tail4 (crcSum (bs.take k))) = false by rw [← HTK.out, ← HDR.out]; simpa using hs)
  clear hs
  clear hr hB hl hcm h0 hlc hlen h5 hV
  go_enter Tryd.func12, Tryd.ntmps12
  go_wp2_with fail
  rw [← HV.out]
  clear hc2
  refine wp_region_noPanic ?_
  refine wp_region_held_drew (S := fun w' => Below w.heap.size w w') (by kernel_rfl) (hb0.drew) (fun hHeld => ?_)
  refine takeD (i := 0) (d := some 20) (v := ?_) rfl rfl (by kernel_rfl) (by kernel_rfl) (by kernel_rfl) (fun _ _ _ h => h) (Or.inl ⟨by rfl, ?_⟩) (by assumption) ?_
  rotate_left
  · intro w hSw
    go_simp
    try (with_reducible rfl)
  try simp only [Act.put, List.setIfInBounds_toArray, List.set_cons_zero, List.set_cons_succ]
  refine takeD (i := 1) (d := some 21) (v := ?_) rfl rfl (by kernel_rfl) (by kernel_rfl) (by kernel_rfl) (fun _ _ _ h => h) (Or.inl ⟨by rfl, ?_⟩) (by assumption) ?_
  rotate_left
  · intro w hSw
    go_simp
    try (with_reducible rfl)
  try simp only [Act.put, List.setIfInBounds_toArray, List.set_cons_zero, List.set_cons_succ]
  refine takeD (i := 2) (d := some 22) (v := ?_) rfl rfl (by kernel_rfl) (by kernel_rfl) (by kernel_rfl) (fun _ _ _ h => h) (Or.inl ⟨by rfl, ?_⟩) (by assumption) ?_
  rotate_left
  · intro w hSw
    go_simp
    try (with_reducible rfl)
  try simp only [Act.put, List.setIfInBounds_toArray, List.set_cons_zero, List.set_cons_succ]
  refine takeD (i := 3) (d := some 23) (v := ?_) rfl rfl (by kernel_rfl) (by kernel_rfl) (by kernel_rfl) (fun _ _ _ h => h) (Or.inl ⟨by rfl, ?_⟩) (by assumption) ?_
  rotate_left
  · intro w hSw
    go_simp
    try (with_reducible rfl)
  try simp only [Act.put, List.setIfInBounds_toArray, List.set_cons_zero, List.set_cons_succ]
  refine takeD (i := 4) (d := some 24) (v := ?_) rfl rfl (by kernel_rfl) (by kernel_rfl) (by kernel_rfl) (fun _ _ _ h => h) (Or.inl ⟨by rfl, ?_⟩) (by assumption) ?_
  rotate_left
  · intro w hSw
    go_simp
    try (with_reducible rfl)
  try simp only [Act.put, List.setIfInBounds_toArray, List.set_cons_zero, List.set_cons_succ]
  refine takeD (i := 5) (d := some 25) (v := ?_) rfl rfl (by kernel_rfl) (by kernel_rfl) (by kernel_rfl) (fun _ _ _ h => h) (Or.inl ⟨by rfl, ?_⟩) (by assumption) ?_
  rotate_left
  · intro w hSw
    go_simp
    try (with_reducible rfl)
  try simp only [Act.put, List.setIfInBounds_toArray, List.set_cons_zero, List.set_cons_succ]
  refine wpAnyH_ready (rs := [6]) (by kernel_rfl) (by simp) ?_
  refine AllReadyH.cons rfl (fun K hK => ?_) AllReadyH.nil
  go_simp
  clear hHeld
  have hB6 : Below w.heap.size w (V.alloc (.cells #[.slice (some ⟨b, off, none⟩) k cap] 22)).drew := (hb0.alloc hb0.size _).drew
  refine hK.out _ _ hB6 (fun hHeld => ?_)
  clear hK K
  try simp only [Act.put, List.setIfInBounds_toArray, List.set_cons_zero, List.set_cons_succ]
  refine wpAnyH_ready (rs := [7]) (by kernel_rfl) (by simp) ?_
  refine AllReadyH.cons rfl (fun K hK => ?_) AllReadyH.nil
  go_simp
  refine CT.out.mono ?_
  rintro e w7 ⟨q7, rfl, hq7, ho7, hb7⟩
  go_wp2_with fail
  clear hHeld
  have hB7 : Below w.heap.size w w7 := (hb0.drew).trans (hb7.mono (show w.heap.size ≤ V.drew.heap.size from hb0.size))
  refine hK.out _ _ hB7 (fun hHeld => ?_)
  clear hK K
  try simp only [Act.put, List.setIfInBounds_toArray, List.set_cons_zero, List.set_cons_succ]
  refine wpAnyH_ready (rs := [8]) (by kernel_rfl) (by simp) ?_
  refine AllReadyH.cons rfl (fun K hK => ?_) AllReadyH.nil
  go_simp
  refine (equal_any (some ⟨b, off + k, none⟩) (some ⟨q7, 0, none⟩) 4 (cap - k) 4 4 (bs.drop k) (tail4 (crcSum (bs.take k))) w7 (by have := HL.out; simp; omega) rfl HBd.out (tail4_byt _) (HRL.out.below hB7) (own_reads ho7)).mono ?_
  rintro e w8 ⟨rfl, rfl⟩
  rw [HEQ.out]
  go_wp2_with fail
  clear hHeld
  refine hK.out _ _ hB7 (fun hHeld => ?_)
  clear hK K
  try simp only [Act.put, List.setIfInBounds_toArray, List.set_cons_zero, List.set_cons_succ]
  refine takeD (i := 9) (d := some 29) (v := ?_) rfl rfl (by kernel_rfl) (by kernel_rfl) (by kernel_rfl) (fun _ _ _ h => h) (Or.inl ⟨by rfl, ?_⟩) (by assumption) ?_
  rotate_left
  · intro w hSw
    go_simp
    try (with_reducible rfl)
  try simp only [Act.put, List.setIfInBounds_toArray, List.set_cons_zero, List.set_cons_succ]
  refine wpAnyH_done (by kernel_rfl) ?_ _
  refine NoPanic.normal ?_
  have HX7 := hide (HX0.out.below ((Below.refl V.heap.size V).drew.trans hb7))
  obtain ⟨⟨y0, z0⟩, ⟨y1, z1⟩, ⟨y2, z2⟩, ⟨y3, z3⟩, ⟨y4, z4⟩, ⟨y5, z5⟩⟩ := HX7.out.six
  go_wp2
  have HX8 := hide (put6_box HX7.out (.int .i64 0) (.int .i64 0) (.int .i64 0) (.int .i64 0) (.int .i64 0) (.slice none 0 0))
  have HB8 := hide (put6_below hB7 (Nat.le_refl _) (.int .i64 0) (.int .i64 0) (.int .i64 0) (.int .i64 0) (.int .i64 0) (.slice none 0 0))
  obtain ⟨X, hX⟩ : ∃ X, X = put6 w8 w.heap.size (.int .i64 0) (.int .i64 0) (.int .i64 0) (.int .i64 0) (.int .i64 0) (.slice none 0 0) := ⟨_, rfl⟩
  rw [← hX] at HX8 HB8
  unfold put6 at hX
  rw [← hX]
  clear hX
  obtain ⟨⟨x0, -⟩, ⟨x1, -⟩, ⟨x2, -⟩, ⟨x3, -⟩, ⟨x4, -⟩, ⟨x5, -⟩⟩ := HX8.out.six
  exact bodyPost_ret (v := .tuple #[.agg #[.int .i64 0, .int .i64 0, .int .i64 0, .int .i64 0, .int .i64 0, .slice none 0 0], .int .i64 (5 : Nat)]) (by simp [results, Tryd.results12, go_sem, x0, x1, x2, x3, x4, x5]) rfl (read_no HR.out HB8.out)
end Go.Proofs.YtpieagcijfkpnaaDoor
