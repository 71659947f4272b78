/- frame.Read, where the sum is right. -/
import Derived.Test.YtpieagcijfkpnaaDoorFrR
import Derived.Test.YtpieagcijfkpnaaDoorFrD
namespace Go.Proofs.YtpieagcijfkpnaaDoor
open Go.RowKit Go.ChangeShapes Go.WideShapes Go.ChangeAt Go.Deep
attribute [local go_sem ↓] Go.wp_at_zero Go.wp_at_succ
set_option linter.unusedSimpArgs false

theorem own_le {w : World} {B n : Nat} {v : Value} {xs : List Value} (h : w.ownsRow B 5 1 v n xs) : n ≤ 9223372036854775807 := by
  rcases h.2 with ⟨_, h0⟩ | ⟨g, cap, cur, _, _, _, h3, h4, _⟩
  · omega
  · unfold maxLen at h4; omega

theorem own_reads2 {w : World} {B n c : Nat} {a : Option Addr} {xs : List Nat} (h : w.ownsRow B 5 1 (.slice a n c) n (bV xs)) : Reads w a (bV xs) ∧ ∀ b off, a = some ⟨b, off, none⟩ → B ≤ b := by
  obtain ⟨a', cap', m', e, _, hr⟩ := reads_own_any h
  simp only [Value.slice.injEq] at e
  obtain ⟨rfl, _, _⟩ := e
  refine ⟨hr, fun b off e => ?_⟩
  subst e
  exact (h.lt b rfl).1

set_option maxRecDepth 100000 in
set_option maxHeartbeats 2000000 in
theorem read_parse (a : Option Addr) (len cap : Nat) (bs : List Nat) (w : World) (hl : bs.length = len) (h5 : 5 ≤ len) (hlen : len ≤ 1000000) (hlc : len ≤ cap) (hcm : cap ≤ maxLen) (hB : Byt bs) (hr : Reads w a (bV bs)) (hm : bs.head? = some 70) (hT : Tab w) (hs : bs.drop (bs.length - 4) = tail4 (crcSum (bs.take (bs.length - 4)))) :
    Calls Tryd.prog 12 #[.slice a len cap] w (ReadPost bs w) := by
  have HRR := hide (show readL bs = if (rdFrame ((bs.take (bs.length - 4)).drop 1)).2.2 = true ∨ (rdFrame ((bs.take (bs.length - 4)).drop 1)).2.1 ≠ [] ∨ wrongL (rdFrame ((bs.take (bs.length - 4)).drop 1)).1 ≠ 0 then (fr0, 4) else ((rdFrame ((bs.take (bs.length - 4)).drop 1)).1, 0) by unfold readL; rw [if_neg (by rw [hm]; simp; omega), if_neg (by simpa using hs)])
  have HX0 := hide (BoxL.new w [.int .i64 0, .int .i64 0, .int .i64 0, .int .i64 0, .int .i64 0, .slice none 0 0] 24)
  have HB0 := hide ((Below.refl w.heap.size w).alloc (Nat.le_refl _) (.cells [.int .i64 0, .int .i64 0, .int .i64 0, .int .i64 0, .int .i64 0, .slice none 0 0].toArray 24))
  have h0 : 0 < bs.length := by omega
  obtain ⟨b, off, har, hcell⟩ := reads_byte hr h0
  subst har
  have hx : bs[0] = 70 := by cases bs with | nil => simp at h0 | cons y l => simpa using hm
  rw [hx] at hcell
  have hc1 := keep_cell hcell (HB0.out)
  have hc2 : (w.alloc (.cells #[.int .i64 0, .int .i64 0, .int .i64 0, .int .i64 0, .int .i64 0, .slice none 0 0] 24)).cell? ⟨b, off, none⟩ = some (.int .u8 70) := by simpa using hc1
  clear hcell hc1 hx
  obtain ⟨k, rfl⟩ : ∃ k, len = k + 4 := ⟨len - 4, by omega⟩
  have hcm' : cap ≤ 9223372036854775807 := by unfold maxLen at hcm; omega
  have hi1 : ((k + 4 : Nat) : Int) - 4 = (k : Int) := by omega
  obtain ⟨V, hV⟩ : ∃ V, V = w.alloc (.cells #[.int .i64 0, .int .i64 0, .int .i64 0, .int .i64 0, .int .i64 0, .slice none 0 0] 24) := ⟨_, rfl⟩
  have HTK := hide (show (bs.take (bs.length - 4)) = bs.take k by rw [hl]; congr 1)
  have HDR := hide (show (bs.drop (bs.length - 4)) = bs.drop k by rw [hl]; congr 1)
  have hb0 : Below w.heap.size w V := by rw [hV]; exact HB0.out
  have CT := hide (tail_any V.drew V.heap.size rfl (some ⟨b, off, none⟩) k cap (bs.take k) (by simp; omega) (by omega) hcm (fun h => by cases h) (hB.take k) ((hr.below hb0).take k).drew (hT.below hb0.drew))
  have HRL := hide (show Reads w (some ⟨b, off + k, none⟩) (bV (bs.drop k)) by
    rcases hr with h | ⟨b', off', e, h⟩
    · exact absurd (by simpa [bV] using h) (by intro e; rw [e] at h0; simp at h0)
    · simp at e
      obtain ⟨rfl, rfl⟩ := e
      refine .inr ⟨b, off + k, rfl, fun j u hu => ?_⟩
      rw [Nat.add_assoc]
      exact h (k + j) u (by simpa [bV] using hu))
  have HBd := hide (hB.drop k)
  have HBt := hide (hB.take k)
  have HRd := hide hr
  have hck : ¬ cap = k := by omega
  have HCM := hide hcm
  have HL := hide hl
  have hkl : k ≤ 1000000 := by omega
  have hkb : 1 ≤ k := by omega
  have hkc : k + 4 ≤ cap := by omega
  have hkk : (k : Int) ≤ (k : Int) + 4 := by omega
  have hkc2 : k ≤ cap := by omega
  have HV := hide hV
  rw [← hV] at HX0
  have HC2 := hide (hV ▸ hc2)
  have HEQ := hide (show decide (bs.drop k = tail4 (crcSum (bs.take k))) = true by rw [← HTK.out, ← HDR.out]; simpa using hs)
  rw [HTK.out] at HRR
  have HR1 := hide (show Reads w (some ⟨b, off + 1, none⟩) (bV ((bs.take k).drop 1)) by
    rcases hr.take k with h | ⟨b', off', e, h⟩
    · have hz : bs.take k = [] := by simpa [bV] using h
      exact .inl (by rw [hz]; rfl)
    · simp at e
      obtain ⟨rfl, rfl⟩ := e
      refine .inr ⟨b, off + 1, rfl, fun j u hu => ?_⟩
      rw [Nat.add_assoc]
      exact h (1 + j) u (by simpa [bV, Nat.add_comm] using hu))
  have HX1 := hide (show ((bs.take k).drop 1).length = k - 1 by simp; omega)
  have HX2 := hide ((hB.take k).drop 1)
  clear hs
  generalize (bs.take k).drop 1 = xs at HRR HR1 HX1 HX2
  have KN := hide (fun B T c W h => next_any B T c xs W h)
  generalize rdFrame xs = F at HRR KN
  obtain ⟨⟨n1, n2, n3, n4, n5, ld⟩, r, bad⟩ := F
  simp only [Fr.val] at KN HRR
  have KE := hide (fun (B T c : Nat) (W : World) (h : Cur W B T c r bad) => (show Calls Tryd.prog 27 #[.pointer (some ⟨c, 0, none⟩)] W fun e w' => e = .returned (.bool (decide (bad = false ∧ r = []))) ∧ w' = W by
    obtain ⟨a', cap', g0, g1, _⟩ := h
    refine (end_any c a' r.length cap' bad W g0 g1).mono ?_
    rintro e w' ⟨rfl, rfl⟩
    refine ⟨?_, rfl⟩
    congr 2
    cases bad <;> simp
    · cases r <;> simp
      omega))
  have KW := hide (fun a' l' c' W (h : ld.length = l') (h2 : l' ≤ 9223372036854775807) => wrong_any ⟨n1, n2, n3, n4, n5, ld⟩ a' l' c' W h h2)
  simp only [Fr.val] at KW
  have hi2 : ((k : Int) - 1) = ((k - 1 : Nat) : Int) := by omega
  have h1k : (1 : Int) ≤ (k : Int) := by omega
  have hc1' : ¬ cap = 1 := by omega
  clear hr hB hl hcm h0 hlc hlen h5 hV
  go_enter Tryd.func12, Tryd.ntmps12
  go_wp2_with fail
  rw [← HV.out]
  clear hc2
  refine wp_region_noPanic ?_
  refine wp_region_held_drew (S := fun w' => Below w.heap.size w w') (by kernel_rfl) (hb0.drew) (fun hHeld => ?_)
  refine takeD (i := 0) (d := some 20) (v := ?_) rfl rfl (by kernel_rfl) (by kernel_rfl) (by kernel_rfl) (fun _ _ _ h => h) (Or.inl ⟨by rfl, ?_⟩) (by assumption) ?_
  rotate_left
  · intro w hSw
    go_simp
    try (with_reducible rfl)
  try simp only [Act.put, List.setIfInBounds_toArray, List.set_cons_zero, List.set_cons_succ]
  refine takeD (i := 1) (d := some 21) (v := ?_) rfl rfl (by kernel_rfl) (by kernel_rfl) (by kernel_rfl) (fun _ _ _ h => h) (Or.inl ⟨by rfl, ?_⟩) (by assumption) ?_
  rotate_left
  · intro w hSw
    go_simp
    try (with_reducible rfl)
  try simp only [Act.put, List.setIfInBounds_toArray, List.set_cons_zero, List.set_cons_succ]
  refine takeD (i := 2) (d := some 22) (v := ?_) rfl rfl (by kernel_rfl) (by kernel_rfl) (by kernel_rfl) (fun _ _ _ h => h) (Or.inl ⟨by rfl, ?_⟩) (by assumption) ?_
  rotate_left
  · intro w hSw
    go_simp
    try (with_reducible rfl)
  try simp only [Act.put, List.setIfInBounds_toArray, List.set_cons_zero, List.set_cons_succ]
  refine takeD (i := 3) (d := some 23) (v := ?_) rfl rfl (by kernel_rfl) (by kernel_rfl) (by kernel_rfl) (fun _ _ _ h => h) (Or.inl ⟨by rfl, ?_⟩) (by assumption) ?_
  rotate_left
  · intro w hSw
    go_simp
    try (with_reducible rfl)
  try simp only [Act.put, List.setIfInBounds_toArray, List.set_cons_zero, List.set_cons_succ]
  refine takeD (i := 4) (d := some 24) (v := ?_) rfl rfl (by kernel_rfl) (by kernel_rfl) (by kernel_rfl) (fun _ _ _ h => h) (Or.inl ⟨by rfl, ?_⟩) (by assumption) ?_
  rotate_left
  · intro w hSw
    go_simp
    try (with_reducible rfl)
  try simp only [Act.put, List.setIfInBounds_toArray, List.set_cons_zero, List.set_cons_succ]
  refine takeD (i := 5) (d := some 25) (v := ?_) rfl rfl (by kernel_rfl) (by kernel_rfl) (by kernel_rfl) (fun _ _ _ h => h) (Or.inl ⟨by rfl, ?_⟩) (by assumption) ?_
  rotate_left
  · intro w hSw
    go_simp
    try (with_reducible rfl)
  try simp only [Act.put, List.setIfInBounds_toArray, List.set_cons_zero, List.set_cons_succ]
  refine wpAnyH_ready (rs := [6]) (by kernel_rfl) (by simp) ?_
  refine AllReadyH.cons rfl (fun K hK => ?_) AllReadyH.nil
  go_simp
  clear hHeld
  have hB6 : Below w.heap.size w (V.alloc (.cells #[.slice (some ⟨b, off, none⟩) k cap] 22)).drew := (hb0.alloc hb0.size _).drew
  refine hK.out _ _ hB6 (fun hHeld => ?_)
  clear hK K
  try simp only [Act.put, List.setIfInBounds_toArray, List.set_cons_zero, List.set_cons_succ]
  refine wpAnyH_ready (rs := [7]) (by kernel_rfl) (by simp) ?_
  refine AllReadyH.cons rfl (fun K hK => ?_) AllReadyH.nil
  go_simp
  refine CT.out.mono ?_
  rintro e w7 ⟨q7, rfl, hq7, ho7, hb7⟩
  go_wp2_with fail
  clear hHeld
  have hB7 : Below w.heap.size w w7 := (hb0.drew).trans (hb7.mono (show w.heap.size ≤ V.drew.heap.size from hb0.size))
  refine hK.out _ _ hB7 (fun hHeld => ?_)
  clear hK K
  try simp only [Act.put, List.setIfInBounds_toArray, List.set_cons_zero, List.set_cons_succ]
  refine wpAnyH_ready (rs := [8]) (by kernel_rfl) (by simp) ?_
  refine AllReadyH.cons rfl (fun K hK => ?_) AllReadyH.nil
  go_simp
  refine (equal_any (some ⟨b, off + k, none⟩) (some ⟨q7, 0, none⟩) 4 (cap - k) 4 4 (bs.drop k) (tail4 (crcSum (bs.take k))) w7 (by have := HL.out; simp; omega) rfl HBd.out (tail4_byt _) (HRL.out.below hB7) (own_reads ho7)).mono ?_
  rintro e w8 ⟨rfl, rfl⟩
  rw [HEQ.out]
  go_wp2_with fail
  clear hHeld
  refine hK.out _ _ hB7 (fun hHeld => ?_)
  clear hK K
  try simp only [Act.put, List.setIfInBounds_toArray, List.set_cons_zero, List.set_cons_succ]
  refine takeD (i := 9) (d := some 29) (v := ?_) rfl rfl (by kernel_rfl) (by kernel_rfl) (by kernel_rfl) (fun _ _ _ h => h) (Or.inl ⟨by rfl, ?_⟩) (by assumption) ?_
  rotate_left
  · intro w hSw
    go_simp
    try (with_reducible rfl)
  try simp only [Act.put, List.setIfInBounds_toArray, List.set_cons_zero, List.set_cons_succ]
  refine wpAnyH_done (by kernel_rfl) ?_ _
  refine NoPanic.normal ?_
  have HX7 := hide (HX0.out.below ((Below.refl V.heap.size V).drew.trans hb7))
  have HRd8 := hide (HR1.out.below hB7)
  have hlt8 : w.heap.size < w8.heap.size := Nat.lt_of_lt_of_le HX0.out.1 hb7.size
  have CN := hide (new_any (some ⟨b, off + 1, none⟩) (k - 1) (cap - 1) xs w8 HX1.out HX2.out HRd8.out (by omega))
  by_cases hE : bad = false ∧ r = []
  · rw [show decide (bad = false ∧ r = []) = true from decide_eq_true hE] at KE
    obtain ⟨rfl, rfl⟩ := hE
    by_cases hw : wrongL ⟨n1, n2, n3, n4, n5, ld⟩ = 0
    · have HR := hide (show readL bs = (⟨n1, n2, n3, n4, n5, ld⟩, 0) by rw [HRR.out, if_neg (by simp [hw])])
      rw [hw, show ((0 : Nat) : Int) = 0 from rfl] at KW
      go_wp2_with (first
        | (go_at_call 25; go_must ((with_reducible refine CN.out.mono ?_); rintro e w9 ⟨c9, rfl, hC9, hb9⟩; have HX9 := hide (HX7.out.below hb9); have hB9 : Below w.heap.size w w9 := hB7.trans (hb9.mono hB7.size)))
        | (go_at_call 26; go_must ((with_reducible refine (KN.out _ _ c9 w9 hC9).mono ?_); rintro e w10 ⟨a10, l10, p10, rfl, hl10, ho10, hC10, hg10⟩; have hne : w.heap.size ≠ c9 := (by have := hC9.lo; omega); have HX10 := hide (HX9.out.grown hg10 hne); have hB10 : Below w.heap.size w w10 := hB9.grown hg10 hB9.size (fun q hq => by cases hq; have := hC9.lo; omega); have HX11 := hide (HX10.out.below ((Below.refl w10.heap.size w10).alloc (Nat.le_refl _) (.cells #[.int .i64 n1, .int .i64 n2, .int .i64 n3, .int .i64 n4, .int .i64 n5, .slice a10 l10 p10] 24))); have HB11 := hide (hB10.alloc hB10.size (.cells #[.int .i64 n1, .int .i64 n2, .int .i64 n3, .int .i64 n4, .int .i64 n5, .slice a10 l10 p10] 24)); have HO11 := hide (own_below ho10.out ((Below.refl w10.heap.size w10).alloc (Nat.le_refl _) (.cells #[.int .i64 n1, .int .i64 n2, .int .i64 n3, .int .i64 n4, .int .i64 n5, .slice a10 l10 p10] 24))); have HF11 := hide (BoxF.new w10 n1 n2 n3 n4 n5 a10 l10 p10); have HC11 := hide (hC10.below ((Below.refl w10.heap.size w10).alloc (Nat.le_refl _) (.cells #[.int .i64 n1, .int .i64 n2, .int .i64 n3, .int .i64 n4, .int .i64 n5, .slice a10 l10 p10] 24)))))
        | (go_at_call 27; go_must ((with_reducible refine (KE.out _ _ c9 _ HC11.out).mono ?_); rintro e w11 ⟨rfl, rfl⟩))
        | (go_at_call 15; go_must ((with_reducible refine (KW.out a10 l10 p10 _ hl10.out (own_le ho10.out)).mono ?_); rintro e w12 ⟨rfl, hb12⟩; have HX12 := hide (HX11.out.below hb12); obtain ⟨⟨y0, z0⟩, ⟨y1, z1⟩, ⟨y2, z2⟩, ⟨y3, z3⟩, ⟨y4, z4⟩, ⟨y5, z5⟩⟩ := HX12.out.six; obtain ⟨u0, u1, u2, u3, u4, u5⟩ := HF11.out.below hb12; have HB12 := hide (HB11.out.trans (hb12.mono HB11.out.size)); have HO12 := hide (own_below HO11.out hb12))))
      have HX8 := hide (put6_box HX12.out (.int .i64 n1) (.int .i64 n2) (.int .i64 n3) (.int .i64 n4) (.int .i64 n5) (.slice a10 l10 p10))
      have HB8 := hide (put6_below HB12.out (Nat.le_refl _) (.int .i64 n1) (.int .i64 n2) (.int .i64 n3) (.int .i64 n4) (.int .i64 n5) (.slice a10 l10 p10))
      have HRX := hide (put6_reads (g := w.heap.size) (own_reads2 HO12.out).1 (fun b off e => by have h1 := (own_reads2 HO12.out).2 b off e; have h2 := hb9.size; omega) (.int .i64 n1) (.int .i64 n2) (.int .i64 n3) (.int .i64 n4) (.int .i64 n5) (.slice a10 l10 p10))
      obtain ⟨X, hX⟩ : ∃ X, X = put6 w12 w.heap.size (.int .i64 n1) (.int .i64 n2) (.int .i64 n3) (.int .i64 n4) (.int .i64 n5) (.slice a10 l10 p10) := ⟨_, rfl⟩
      rw [← hX] at HX8 HB8 HRX
      unfold put6 at hX
      rw [← hX]
      clear hX
      obtain ⟨⟨x0, -⟩, ⟨x1, -⟩, ⟨x2, -⟩, ⟨x3, -⟩, ⟨x4, -⟩, ⟨x5, -⟩⟩ := HX8.out.six
      exact bodyPost_ret (v := .tuple #[.agg #[.int .i64 n1, .int .i64 n2, .int .i64 n3, .int .i64 n4, .int .i64 n5, .slice a10 l10 p10], .int .i64 (0 : Nat)]) (by simp [results, Tryd.results12, go_sem, x0, x1, x2, x3, x4, x5]) rfl ⟨a10, l10, p10, by rw [HR.out]; rfl, by rw [HR.out]; exact hl10.out, by rw [HR.out]; exact HRX.out, HB8.out⟩
    · have HR := hide (show readL bs = (fr0, 4) by rw [HRR.out, if_pos (.inr (.inr hw))])
      generalize wrongL ⟨n1, n2, n3, n4, n5, ld⟩ = e0 at KW hw
      have he : ((e0 : Int) == 0) = false := by rw [beq_eq_false_iff_ne]; omega
      have he2 : ((e0 : Int) != 0) = true := by simp [bne, he]
      go_wp2_with (first
        | (go_at_call 25; go_must ((with_reducible refine CN.out.mono ?_); rintro e w9 ⟨c9, rfl, hC9, hb9⟩; have HX9 := hide (HX7.out.below hb9); have hB9 : Below w.heap.size w w9 := hB7.trans (hb9.mono hB7.size)))
        | (go_at_call 26; go_must ((with_reducible refine (KN.out _ _ c9 w9 hC9).mono ?_); rintro e w10 ⟨a10, l10, p10, rfl, hl10, ho10, hC10, hg10⟩; have hne : w.heap.size ≠ c9 := (by have := hC9.lo; omega); have HX10 := hide (HX9.out.grown hg10 hne); have hB10 : Below w.heap.size w w10 := hB9.grown hg10 hB9.size (fun q hq => by cases hq; have := hC9.lo; omega); have HX11 := hide (HX10.out.below ((Below.refl w10.heap.size w10).alloc (Nat.le_refl _) (.cells #[.int .i64 n1, .int .i64 n2, .int .i64 n3, .int .i64 n4, .int .i64 n5, .slice a10 l10 p10] 24))); have HB11 := hide (hB10.alloc hB10.size (.cells #[.int .i64 n1, .int .i64 n2, .int .i64 n3, .int .i64 n4, .int .i64 n5, .slice a10 l10 p10] 24)); have HO11 := hide (own_below ho10.out ((Below.refl w10.heap.size w10).alloc (Nat.le_refl _) (.cells #[.int .i64 n1, .int .i64 n2, .int .i64 n3, .int .i64 n4, .int .i64 n5, .slice a10 l10 p10] 24))); have HF11 := hide (BoxF.new w10 n1 n2 n3 n4 n5 a10 l10 p10); have HC11 := hide (hC10.below ((Below.refl w10.heap.size w10).alloc (Nat.le_refl _) (.cells #[.int .i64 n1, .int .i64 n2, .int .i64 n3, .int .i64 n4, .int .i64 n5, .slice a10 l10 p10] 24)))))
        | (go_at_call 27; go_must ((with_reducible refine (KE.out _ _ c9 _ HC11.out).mono ?_); rintro e w11 ⟨rfl, rfl⟩))
        | (go_at_call 15; go_must ((with_reducible refine (KW.out a10 l10 p10 _ hl10.out (own_le ho10.out)).mono ?_); rintro e w12 ⟨rfl, hb12⟩; have HX12 := hide (HX11.out.below hb12); obtain ⟨⟨y0, z0⟩, ⟨y1, z1⟩, ⟨y2, z2⟩, ⟨y3, z3⟩, ⟨y4, z4⟩, ⟨y5, z5⟩⟩ := HX12.out.six; obtain ⟨u0, u1, u2, u3, u4, u5⟩ := HF11.out.below hb12; have HB12 := hide (HB11.out.trans (hb12.mono HB11.out.size)); have HO12 := hide (own_below HO11.out hb12))))
      have HX8 := hide (put6_box HX12.out (.int .i64 0) (.int .i64 0) (.int .i64 0) (.int .i64 0) (.int .i64 0) (.slice none 0 0))
      have HB8 := hide (put6_below HB12.out (Nat.le_refl _) (.int .i64 0) (.int .i64 0) (.int .i64 0) (.int .i64 0) (.int .i64 0) (.slice none 0 0))
      obtain ⟨X, hX⟩ : ∃ X, X = put6 w12 w.heap.size (.int .i64 0) (.int .i64 0) (.int .i64 0) (.int .i64 0) (.int .i64 0) (.slice none 0 0) := ⟨_, rfl⟩
      rw [← hX] at HX8 HB8
      unfold put6 at hX
      rw [← hX]
      clear hX
      obtain ⟨⟨x0, -⟩, ⟨x1, -⟩, ⟨x2, -⟩, ⟨x3, -⟩, ⟨x4, -⟩, ⟨x5, -⟩⟩ := HX8.out.six
      exact bodyPost_ret (v := .tuple #[.agg #[.int .i64 0, .int .i64 0, .int .i64 0, .int .i64 0, .int .i64 0, .slice none 0 0], .int .i64 (4 : Nat)]) (by simp [results, Tryd.results12, go_sem, x0, x1, x2, x3, x4, x5]) rfl (read_no HR.out HB8.out)
  · have HR := hide (show readL bs = (fr0, 4) by
      rw [HRR.out, if_pos]
      cases bad with
      | true => exact .inl rfl
      | false => exact .inr (.inl (fun h => hE ⟨rfl, h⟩)))
    rw [show decide (bad = false ∧ r = []) = false from decide_eq_false hE] at KE
    have HW := hide hE
    clear hE
    go_wp2_with (first
        | (go_at_call 25; go_must ((with_reducible refine CN.out.mono ?_); rintro e w9 ⟨c9, rfl, hC9, hb9⟩; have HX9 := hide (HX7.out.below hb9); have hB9 : Below w.heap.size w w9 := hB7.trans (hb9.mono hB7.size)))
        | (go_at_call 26; go_must ((with_reducible refine (KN.out _ _ c9 w9 hC9).mono ?_); rintro e w10 ⟨a10, l10, p10, rfl, hl10, ho10, hC10, hg10⟩; have hne : w.heap.size ≠ c9 := (by have := hC9.lo; omega); have HX10 := hide (HX9.out.grown hg10 hne); have hB10 : Below w.heap.size w w10 := hB9.grown hg10 hB9.size (fun q hq => by cases hq; have := hC9.lo; omega); have HX11 := hide (HX10.out.below ((Below.refl w10.heap.size w10).alloc (Nat.le_refl _) (.cells #[.int .i64 n1, .int .i64 n2, .int .i64 n3, .int .i64 n4, .int .i64 n5, .slice a10 l10 p10] 24))); have HB11 := hide (hB10.alloc hB10.size (.cells #[.int .i64 n1, .int .i64 n2, .int .i64 n3, .int .i64 n4, .int .i64 n5, .slice a10 l10 p10] 24)); have HO11 := hide (own_below ho10.out ((Below.refl w10.heap.size w10).alloc (Nat.le_refl _) (.cells #[.int .i64 n1, .int .i64 n2, .int .i64 n3, .int .i64 n4, .int .i64 n5, .slice a10 l10 p10] 24))); have HF11 := hide (BoxF.new w10 n1 n2 n3 n4 n5 a10 l10 p10); have HC11 := hide (hC10.below ((Below.refl w10.heap.size w10).alloc (Nat.le_refl _) (.cells #[.int .i64 n1, .int .i64 n2, .int .i64 n3, .int .i64 n4, .int .i64 n5, .slice a10 l10 p10] 24)))))
        | (go_at_call 27; go_must ((with_reducible refine (KE.out _ _ c9 _ HC11.out).mono ?_); rintro e w11 ⟨rfl, rfl⟩; obtain ⟨⟨y0, z0⟩, ⟨y1, z1⟩, ⟨y2, z2⟩, ⟨y3, z3⟩, ⟨y4, z4⟩, ⟨y5, z5⟩⟩ := HX11.out.six))
        | (go_at_call 15; go_must ((with_reducible refine (KW.out a10 l10 p10 _ hl10.out (own_le ho10.out)).mono ?_); rintro e w12 ⟨rfl, hb12⟩; skip)))
    have HX8 := hide (put6_box HX11.out (.int .i64 0) (.int .i64 0) (.int .i64 0) (.int .i64 0) (.int .i64 0) (.slice none 0 0))
    have HB8 := hide (put6_below HB11.out (Nat.le_refl _) (.int .i64 0) (.int .i64 0) (.int .i64 0) (.int .i64 0) (.int .i64 0) (.slice none 0 0))
    obtain ⟨X, hX⟩ : ∃ X, X = put6 (w10.alloc (.cells #[.int .i64 n1, .int .i64 n2, .int .i64 n3, .int .i64 n4, .int .i64 n5, .slice a10 l10 p10] 24)) w.heap.size (.int .i64 0) (.int .i64 0) (.int .i64 0) (.int .i64 0) (.int .i64 0) (.slice none 0 0) := ⟨_, rfl⟩
    rw [← hX] at HX8 HB8
    unfold put6 at hX
    rw [← hX]
    clear hX
    obtain ⟨⟨x0, -⟩, ⟨x1, -⟩, ⟨x2, -⟩, ⟨x3, -⟩, ⟨x4, -⟩, ⟨x5, -⟩⟩ := HX8.out.six
    exact bodyPost_ret (v := .tuple #[.agg #[.int .i64 0, .int .i64 0, .int .i64 0, .int .i64 0, .int .i64 0, .slice none 0 0], .int .i64 (4 : Nat)]) (by simp [results, Tryd.results12, go_sem, x0, x1, x2, x3, x4, x5]) rfl (read_no HR.out HB8.out)
end Go.Proofs.YtpieagcijfkpnaaDoor
