/- (*gleanerref10.Net).Dup. -/
import Derived.Test.YtmjglgdihlomlaaRSnd
namespace Go.Proofs.Ytmjglgdihlomlaa
open Go.RowKit Go.ChangeShapes Go.WideShapes Go.ChangeAt Go.Deep

theorem NetR.head {D : Nat → Prop} {w : World} {cb : Nat} {L : List Pc} (h : NetR D w cb L) : ∃ a n c, w.cell? ⟨cb, 0, none⟩ = some (.slice a n c) ∧ L.length = n := by
  obtain ⟨l, e, h, _⟩ := h
  obtain ⟨a, n, c, h1, h2⟩ := h.head
  exact ⟨a, n, c, h1, by rw [← e, List.length_map, h2]⟩
set_option maxRecDepth 100000 in
set_option maxHeartbeats 1000000 in
theorem rdup_no (D : Nat → Prop) (w : World) (cb : Nat) (L : List Pc) (k : Int) (hN : NetR D w cb L) (hk : hasB L.length k = false ∨ 10000 ≤ L.length) :
    Calls Try.prog 17 #[.pointer (some ⟨cb, 0, none⟩), .int .i64 k] w fun e w' => e = .returned (.bool false) ∧ w' = w := by
  obtain ⟨a, n, c, hcell, hn⟩ := hN.head
  rw [hn] at hk
  clear hN hn
  by_cases h0 : k < 0
  · clear hk
    go_enter Try.func17, Try.ntmps17
    go_wp2
    go_ret
    exact ⟨rfl, rfl⟩
  · by_cases h1 : (n : Int) ≤ k
    · clear hk
      go_enter Try.func17, Try.ntmps17
      go_wp2
      go_ret
      exact ⟨rfl, rfl⟩
    · have h2 : (10000 : Int) ≤ (n : Int) := by
        rcases hk with hk | hk
        · simp [hasB] at hk; omega
        · omega
      clear hk
      go_enter Try.func17, Try.ntmps17
      go_wp2
      go_ret
      exact ⟨rfl, rfl⟩
set_option linter.unusedSimpArgs false in
set_option maxRecDepth 100000 in
set_option maxHeartbeats 4000000 in
theorem rdup_yes (D : Nat → Prop) (w : World) (cb : Nat) (L : List Pc) (k : Nat) (hN : NetR D w cb L) (hk : k < L.length) (hL : L.length < 10000) (hb : L[k].2.2.length ≤ 1000000) :
    Calls Try.prog 17 #[.pointer (some ⟨cb, 0, none⟩), .int .i64 (k : Int)] w fun e w' => e = .returned (.bool true) ∧ NetR (Ex D w w') w' cb (L ++ [L[k]]) ∧ Kp D w w' := by
  obtain ⟨lr, rfl, hM, hex⟩ := hN
  rw [List.length_map] at hL
  have hkl : k < lr.length := by simpa using hk
  have HNR := hide (show NetM (Ex D w w) w cb lr from hM.mono (fun q hq => .inl hq) (fun q hq => hq.elim (hM.1.2.2 q) fun h => h.2))
  have HEX := hide hex
  rw [List.getElem_map] at hb ⊢
  obtain ⟨hcc, a, n, c, hcell, hro, hne, hxs⟩ := HNR.out
  have hn := hro.1.1
  obtain ⟨g, off, har, y0, y1, y2⟩ := hro.1.at hkl
  subst har
  have hok := hro.1.2.2.2.2.2 lr[k] (List.getElem_mem _)
  have HCC := hide hcc
  have HROR := hide hro
  have HNER := hide hne
  have HXSR := hide hxs
  have HCR := hide hcell
  obtain ⟨⟨⟨f, t, bs⟩, xa, xn, xc⟩, hx⟩ : ∃ x, x = lr[k] := ⟨_, rfl⟩
  rw [← hx] at y0 y1 y2 hok hb ⊢
  simp only at y0 y1 y2 hb
  have CK := hide (fun W (hb' : Below w.heap.size w W) => parcel_any (f, t, bs) xa xn xc W hok.1 (hok.2.2.2.2.1.below hb') hok.2.2.2.1 (by have h1 := hok.1; simp only at h1; omega))
  have HBy := hide (show Byt bs from hok.2.1)
  have hkn : k < n := by omega
  have hn10 : (n : Int) < 10000 := by omega
  have hki : (k : Int) < (n : Int) := by omega
  have hn20 : n ≤ 20000 := by omega
  have hd0 : w.drew.cell? ⟨cb, 0, none⟩ = some (.slice (some ⟨g, off, none⟩) n c) := hcell
  have hd1 : w.drew.cell? ⟨g, off + k * 3, none⟩ = some (.int .i64 f) := y0
  have hd2 : w.drew.cell? ⟨g, off + k * 3 + 1, none⟩ = some (.int .i64 t) := y1
  have hd3 : w.drew.cell? ⟨g, off + k * 3 + 2, none⟩ = some (.slice xa xn xc) := y2
  generalize hLL : lr.map Pm.p = LL
  have HLR := hide hLL
  clear hx hok hro hne hxs hcc hn hkl hL hM hex hk hb hLL
  go_enter Try.func17, Try.ntmps17
  go_wp2
  refine wp_region_noPanic ?_
  refine wp_region_held_drew (S := fun _ => True) (by kernel_rfl) trivial (fun _ => ?_)
  refine takeD (i := 0) (d := some 24) (v := ?_) rfl rfl (by kernel_rfl) (by kernel_rfl) (by kernel_rfl) (fun _ _ _ h => h) (Or.inl ⟨by rfl, ?_⟩) trivial ?_
  rotate_left
  · intro w hSw
    go_simp
    try (with_reducible rfl)
  try simp only [Act.put, List.setIfInBounds_toArray, List.set_cons_zero, List.set_cons_succ]
  refine takeD (i := 1) (d := some 25) (v := ?_) rfl rfl (by kernel_rfl) (by kernel_rfl) (by kernel_rfl) (fun _ _ _ h => h) (Or.inl ⟨by rfl, ?_⟩) trivial ?_
  rotate_left
  · intro w hSw
    go_simp
    try (with_reducible rfl)
  try simp only [Act.put, List.setIfInBounds_toArray, List.set_cons_zero, List.set_cons_succ]
  refine takeD (i := 2) (d := some 26) (v := ?_) rfl rfl (by kernel_rfl) (by kernel_rfl) (by kernel_rfl) (fun _ _ _ h => h) (Or.inl ⟨by rfl, ?_⟩) trivial ?_
  rotate_left
  · intro w hSw
    go_simp
    try (with_reducible rfl)
  try simp only [Act.put, List.setIfInBounds_toArray, List.set_cons_zero, List.set_cons_succ]
  refine takeD (i := 3) (d := some 27) (v := ?_) rfl rfl (by kernel_rfl) (by kernel_rfl) (by kernel_rfl) (fun _ _ _ h => h) (Or.inl ⟨by rfl, ?_⟩) trivial ?_
  rotate_left
  · intro w hSw
    go_simp
    try (with_reducible rfl)
  try simp only [Act.put, List.setIfInBounds_toArray, List.set_cons_zero, List.set_cons_succ]
  refine takeD (i := 5) (d := some 29) (v := ?_) rfl rfl (by kernel_rfl) (by kernel_rfl) (by kernel_rfl) (fun _ _ _ h => h) (Or.inl ⟨by rfl, ?_⟩) trivial ?_
  rotate_left
  · intro w hSw
    go_simp
    try (with_reducible rfl)
  try simp only [Act.put, List.setIfInBounds_toArray, List.set_cons_zero, List.set_cons_succ]
  refine takeD (i := 6) (d := some 30) (v := ?_) rfl rfl (by kernel_rfl) (by kernel_rfl) (by kernel_rfl) (fun _ _ _ h => h) (Or.inl ⟨by rfl, ?_⟩) trivial ?_
  rotate_left
  · intro w hSw
    go_simp
    try (with_reducible rfl)
  try simp only [Act.put, List.setIfInBounds_toArray, List.set_cons_zero, List.set_cons_succ]
  refine takeD (i := 7) (d := some 31) (v := ?_) rfl rfl (by kernel_rfl) (by kernel_rfl) (by kernel_rfl) (fun _ _ _ h => h) (Or.inl ⟨by rfl, ?_⟩) trivial ?_
  rotate_left
  · intro w hSw
    go_simp
    try (with_reducible rfl)
  try simp only [Act.put, List.setIfInBounds_toArray, List.set_cons_zero, List.set_cons_succ]
  refine takeD (i := 9) (d := some 33) (v := ?_) rfl rfl (by kernel_rfl) (by kernel_rfl) (by kernel_rfl) (fun _ _ _ h => h) (Or.inl ⟨by rfl, ?_⟩) trivial ?_
  rotate_left
  · intro w hSw
    go_simp
    try (with_reducible rfl)
  try simp only [Act.put, List.setIfInBounds_toArray, List.set_cons_zero, List.set_cons_succ]
  refine wpAnyH_ready (rs := [4, 8]) (by kernel_rfl) (by simp) ?_
  refine AllReadyH.cons rfl (fun K hK => ?_) (AllReadyH.cons rfl (fun K hK => ?_) AllReadyH.nil)
  · go_simp
    go_wp2_with fail
    refine hK.out _ _ trivial (fun _ => ?_)
    clear hK K
    try simp only [Act.put, List.setIfInBounds_toArray, List.set_cons_zero, List.set_cons_succ]
    refine wpAnyH_ready (rs := [8]) (by kernel_rfl) (by simp) ?_
    refine AllReadyH.cons rfl (fun K hK => ?_) AllReadyH.nil
    go_simp
    go_wp2_with fail
    refine hK.out _ _ trivial (fun _ => ?_)
    clear hK K
    try simp only [Act.put, List.setIfInBounds_toArray, List.set_cons_zero, List.set_cons_succ]
    refine takeD (i := 10) (d := some 34) (v := ?_) rfl rfl (by kernel_rfl) (by kernel_rfl) (by kernel_rfl) (fun _ _ _ h => h) (Or.inl ⟨by rfl, ?_⟩) trivial ?_
    rotate_left
    · intro w hSw
      go_simp
      try (with_reducible rfl)
    try simp only [Act.put, List.setIfInBounds_toArray, List.set_cons_zero, List.set_cons_succ]
    refine wpAnyH_ready (rs := [11]) (by kernel_rfl) (by simp) ?_
    refine AllReadyH.cons rfl (fun K hK => ?_) AllReadyH.nil
    go_simp
    go_wp2_with fail
    refine hK.out _ _ trivial (fun _ => ?_)
    clear hK K
    try simp only [Act.put, List.setIfInBounds_toArray, List.set_cons_zero, List.set_cons_succ]
    refine wpAnyH_ready (rs := [12]) (by kernel_rfl) (by simp) ?_
    refine AllReadyH.cons rfl (fun K hK => ?_) AllReadyH.nil
    go_simp
    (with_reducible refine (CK.out w.drew ((Below.refl _ _).drew)).mono ?_)
    rintro e w1 ⟨a1, n1, c1, rfl, ho1, hb1⟩
    obtain ⟨v9, w9, hrun9, hc9, hf9, ⟨a2, c2, e9⟩, hn9, hk9, hx9⟩ := send_stepX (w2 := w1.alloc (.cells #[.int .i64 f, .int .i64 t, .slice a1 n1 c1] 37)) (x := (f, t, bs)) HCC.out HCR.out HROR.out HNER.out HXSR.out ho1 HBy.out (below_undrew hb1) hn20 rfl 28
    subst e9
    have HE9 := hide (rsend_next (x := (f, t, bs)) (L := LL) (ps := [(f, t, bs)]) (k := 0) (Kp.refl D w) HNR.out HCR.out HEX.out (below_undrew hb1) ho1 HBy.out hn9 hk9 hx9 (by rw [HLR.out]; simp) rfl)
    have hs1 := keep_cell hd0 hb1
    have hs2 : (w1.alloc (.cells #[.int .i64 f, .int .i64 t, .slice a1 n1 c1] 37)).cell? ⟨cb, 0, none⟩ = some (.slice (some ⟨g, off, none⟩) n c) := keep_cell hs1 (below_new _ _)
    clear hn9 hk9 hx9 ho1 hb1
    go_wp2_with fail
    refine hK.out _ _ trivial (fun _ => ?_)
    clear hK K
    try simp only [Act.put, List.setIfInBounds_toArray, List.set_cons_zero, List.set_cons_succ]
    refine wpAnyH_ready (rs := [13]) (by kernel_rfl) (by simp) ?_
    refine AllReadyH.cons rfl (fun K hK => ?_) AllReadyH.nil
    go_simp
    go_wp2_with fail
    refine hK.out _ _ trivial (fun _ => ?_)
    clear hK K
    try simp only [Act.put, List.setIfInBounds_toArray, List.set_cons_zero, List.set_cons_succ]
    refine wpAnyH_ready (rs := [14]) (by kernel_rfl) (by simp) ?_
    refine AllReadyH.cons rfl (fun K hK => ?_) AllReadyH.nil
    refine wp_append_run (.tmp 28) (.tmp 37) rfl rfl rfl hrun9 ?_
    refine hK.out _ _ trivial (fun _ => ?_)
    clear hK K
    try simp only [Act.put, List.setIfInBounds_toArray, List.set_cons_zero, List.set_cons_succ]
    refine takeD (i := 15) (d := some 39) (v := ?_) rfl rfl (by kernel_rfl) (by kernel_rfl) (by kernel_rfl) (fun _ _ _ h => h) (Or.inl ⟨by rfl, ?_⟩) trivial ?_
    rotate_left
    · intro w hSw
      go_simp
      try (with_reducible rfl)
    try simp only [Act.put, List.setIfInBounds_toArray, List.set_cons_zero, List.set_cons_succ]
    refine takeD (i := 16) (d := some 40) (v := ?_) rfl rfl (by kernel_rfl) (by kernel_rfl) (by kernel_rfl) (fun _ _ _ h => h) (Or.inl ⟨by rfl, ?_⟩) trivial ?_
    rotate_left
    · intro w hSw
      go_simp
      try (with_reducible rfl)
    try simp only [Act.put, List.setIfInBounds_toArray, List.set_cons_zero, List.set_cons_succ]
    refine wpAnyH_ready (rs := [17]) (by kernel_rfl) (by simp) ?_
    refine AllReadyH.cons rfl (fun K hK => ?_) AllReadyH.nil
    go_simp
    go_wp2_with fail
    refine hK.out _ _ trivial (fun _ => ?_)
    clear hK K
    try simp only [Act.put, List.setIfInBounds_toArray, List.set_cons_zero, List.set_cons_succ]
    refine wpAnyH_done (by kernel_rfl) ?_ _
    refine NoPanic.normal ?_
    generalize w9.setCell ⟨cb, 0, none⟩ (.slice a2 (n + 1) c2) = w10 at HE9 ⊢
    clear hrun9 hc9 hf9 hs1 hs2
    go_wp2
    go_ret
    exact ⟨rfl, HE9.out.1, HE9.out.2⟩
  · go_simp
    go_wp2_with fail
    refine hK.out _ _ trivial (fun _ => ?_)
    clear hK K
    try simp only [Act.put, List.setIfInBounds_toArray, List.set_cons_zero, List.set_cons_succ]
    refine takeD (i := 10) (d := some 34) (v := ?_) rfl rfl (by kernel_rfl) (by kernel_rfl) (by kernel_rfl) (fun _ _ _ h => h) (Or.inl ⟨by rfl, ?_⟩) trivial ?_
    rotate_left
    · intro w hSw
      go_simp
      try (with_reducible rfl)
    try simp only [Act.put, List.setIfInBounds_toArray, List.set_cons_zero, List.set_cons_succ]
    refine wpAnyH_ready (rs := [4, 11]) (by kernel_rfl) (by simp) ?_
    refine AllReadyH.cons rfl (fun K hK => ?_) (AllReadyH.cons rfl (fun K hK => ?_) AllReadyH.nil)
    · go_simp
      go_wp2_with fail
      refine hK.out _ _ trivial (fun _ => ?_)
      clear hK K
      try simp only [Act.put, List.setIfInBounds_toArray, List.set_cons_zero, List.set_cons_succ]
      refine wpAnyH_ready (rs := [11]) (by kernel_rfl) (by simp) ?_
      refine AllReadyH.cons rfl (fun K hK => ?_) AllReadyH.nil
      go_simp
      go_wp2_with fail
      refine hK.out _ _ trivial (fun _ => ?_)
      clear hK K
      try simp only [Act.put, List.setIfInBounds_toArray, List.set_cons_zero, List.set_cons_succ]
      refine wpAnyH_ready (rs := [12]) (by kernel_rfl) (by simp) ?_
      refine AllReadyH.cons rfl (fun K hK => ?_) AllReadyH.nil
      go_simp
      (with_reducible refine (CK.out w.drew ((Below.refl _ _).drew)).mono ?_)
      rintro e w1 ⟨a1, n1, c1, rfl, ho1, hb1⟩
      obtain ⟨v9, w9, hrun9, hc9, hf9, ⟨a2, c2, e9⟩, hn9, hk9, hx9⟩ := send_stepX (w2 := w1.alloc (.cells #[.int .i64 f, .int .i64 t, .slice a1 n1 c1] 37)) (x := (f, t, bs)) HCC.out HCR.out HROR.out HNER.out HXSR.out ho1 HBy.out (below_undrew hb1) hn20 rfl 28
      subst e9
      have HE9 := hide (rsend_next (x := (f, t, bs)) (L := LL) (ps := [(f, t, bs)]) (k := 0) (Kp.refl D w) HNR.out HCR.out HEX.out (below_undrew hb1) ho1 HBy.out hn9 hk9 hx9 (by rw [HLR.out]; simp) rfl)
      have hs1 := keep_cell hd0 hb1
      have hs2 : (w1.alloc (.cells #[.int .i64 f, .int .i64 t, .slice a1 n1 c1] 37)).cell? ⟨cb, 0, none⟩ = some (.slice (some ⟨g, off, none⟩) n c) := keep_cell hs1 (below_new _ _)
      clear hn9 hk9 hx9 ho1 hb1
      go_wp2_with fail
      refine hK.out _ _ trivial (fun _ => ?_)
      clear hK K
      try simp only [Act.put, List.setIfInBounds_toArray, List.set_cons_zero, List.set_cons_succ]
      refine wpAnyH_ready (rs := [13]) (by kernel_rfl) (by simp) ?_
      refine AllReadyH.cons rfl (fun K hK => ?_) AllReadyH.nil
      go_simp
      go_wp2_with fail
      refine hK.out _ _ trivial (fun _ => ?_)
      clear hK K
      try simp only [Act.put, List.setIfInBounds_toArray, List.set_cons_zero, List.set_cons_succ]
      refine wpAnyH_ready (rs := [14]) (by kernel_rfl) (by simp) ?_
      refine AllReadyH.cons rfl (fun K hK => ?_) AllReadyH.nil
      refine wp_append_run (.tmp 28) (.tmp 37) rfl rfl rfl hrun9 ?_
      refine hK.out _ _ trivial (fun _ => ?_)
      clear hK K
      try simp only [Act.put, List.setIfInBounds_toArray, List.set_cons_zero, List.set_cons_succ]
      refine takeD (i := 15) (d := some 39) (v := ?_) rfl rfl (by kernel_rfl) (by kernel_rfl) (by kernel_rfl) (fun _ _ _ h => h) (Or.inl ⟨by rfl, ?_⟩) trivial ?_
      rotate_left
      · intro w hSw
        go_simp
        try (with_reducible rfl)
      try simp only [Act.put, List.setIfInBounds_toArray, List.set_cons_zero, List.set_cons_succ]
      refine takeD (i := 16) (d := some 40) (v := ?_) rfl rfl (by kernel_rfl) (by kernel_rfl) (by kernel_rfl) (fun _ _ _ h => h) (Or.inl ⟨by rfl, ?_⟩) trivial ?_
      rotate_left
      · intro w hSw
        go_simp
        try (with_reducible rfl)
      try simp only [Act.put, List.setIfInBounds_toArray, List.set_cons_zero, List.set_cons_succ]
      refine wpAnyH_ready (rs := [17]) (by kernel_rfl) (by simp) ?_
      refine AllReadyH.cons rfl (fun K hK => ?_) AllReadyH.nil
      go_simp
      go_wp2_with fail
      refine hK.out _ _ trivial (fun _ => ?_)
      clear hK K
      try simp only [Act.put, List.setIfInBounds_toArray, List.set_cons_zero, List.set_cons_succ]
      refine wpAnyH_done (by kernel_rfl) ?_ _
      refine NoPanic.normal ?_
      generalize w9.setCell ⟨cb, 0, none⟩ (.slice a2 (n + 1) c2) = w10 at HE9 ⊢
      clear hrun9 hc9 hf9 hs1 hs2
      go_wp2
      go_ret
      exact ⟨rfl, HE9.out.1, HE9.out.2⟩
    · go_simp
      go_wp2_with fail
      refine hK.out _ _ trivial (fun _ => ?_)
      clear hK K
      try simp only [Act.put, List.setIfInBounds_toArray, List.set_cons_zero, List.set_cons_succ]
      refine wpAnyH_ready (rs := [4, 12]) (by kernel_rfl) (by simp) ?_
      refine AllReadyH.cons rfl (fun K hK => ?_) (AllReadyH.cons rfl (fun K hK => ?_) AllReadyH.nil)
      · go_simp
        go_wp2_with fail
        refine hK.out _ _ trivial (fun _ => ?_)
        clear hK K
        try simp only [Act.put, List.setIfInBounds_toArray, List.set_cons_zero, List.set_cons_succ]
        refine wpAnyH_ready (rs := [12]) (by kernel_rfl) (by simp) ?_
        refine AllReadyH.cons rfl (fun K hK => ?_) AllReadyH.nil
        go_simp
        (with_reducible refine (CK.out w.drew ((Below.refl _ _).drew)).mono ?_)
        rintro e w1 ⟨a1, n1, c1, rfl, ho1, hb1⟩
        obtain ⟨v9, w9, hrun9, hc9, hf9, ⟨a2, c2, e9⟩, hn9, hk9, hx9⟩ := send_stepX (w2 := w1.alloc (.cells #[.int .i64 f, .int .i64 t, .slice a1 n1 c1] 37)) (x := (f, t, bs)) HCC.out HCR.out HROR.out HNER.out HXSR.out ho1 HBy.out (below_undrew hb1) hn20 rfl 28
        subst e9
        have HE9 := hide (rsend_next (x := (f, t, bs)) (L := LL) (ps := [(f, t, bs)]) (k := 0) (Kp.refl D w) HNR.out HCR.out HEX.out (below_undrew hb1) ho1 HBy.out hn9 hk9 hx9 (by rw [HLR.out]; simp) rfl)
        have hs1 := keep_cell hd0 hb1
        have hs2 : (w1.alloc (.cells #[.int .i64 f, .int .i64 t, .slice a1 n1 c1] 37)).cell? ⟨cb, 0, none⟩ = some (.slice (some ⟨g, off, none⟩) n c) := keep_cell hs1 (below_new _ _)
        clear hn9 hk9 hx9 ho1 hb1
        go_wp2_with fail
        refine hK.out _ _ trivial (fun _ => ?_)
        clear hK K
        try simp only [Act.put, List.setIfInBounds_toArray, List.set_cons_zero, List.set_cons_succ]
        refine wpAnyH_ready (rs := [13]) (by kernel_rfl) (by simp) ?_
        refine AllReadyH.cons rfl (fun K hK => ?_) AllReadyH.nil
        go_simp
        go_wp2_with fail
        refine hK.out _ _ trivial (fun _ => ?_)
        clear hK K
        try simp only [Act.put, List.setIfInBounds_toArray, List.set_cons_zero, List.set_cons_succ]
        refine wpAnyH_ready (rs := [14]) (by kernel_rfl) (by simp) ?_
        refine AllReadyH.cons rfl (fun K hK => ?_) AllReadyH.nil
        refine wp_append_run (.tmp 28) (.tmp 37) rfl rfl rfl hrun9 ?_
        refine hK.out _ _ trivial (fun _ => ?_)
        clear hK K
        try simp only [Act.put, List.setIfInBounds_toArray, List.set_cons_zero, List.set_cons_succ]
        refine takeD (i := 15) (d := some 39) (v := ?_) rfl rfl (by kernel_rfl) (by kernel_rfl) (by kernel_rfl) (fun _ _ _ h => h) (Or.inl ⟨by rfl, ?_⟩) trivial ?_
        rotate_left
        · intro w hSw
          go_simp
          try (with_reducible rfl)
        try simp only [Act.put, List.setIfInBounds_toArray, List.set_cons_zero, List.set_cons_succ]
        refine takeD (i := 16) (d := some 40) (v := ?_) rfl rfl (by kernel_rfl) (by kernel_rfl) (by kernel_rfl) (fun _ _ _ h => h) (Or.inl ⟨by rfl, ?_⟩) trivial ?_
        rotate_left
        · intro w hSw
          go_simp
          try (with_reducible rfl)
        try simp only [Act.put, List.setIfInBounds_toArray, List.set_cons_zero, List.set_cons_succ]
        refine wpAnyH_ready (rs := [17]) (by kernel_rfl) (by simp) ?_
        refine AllReadyH.cons rfl (fun K hK => ?_) AllReadyH.nil
        go_simp
        go_wp2_with fail
        refine hK.out _ _ trivial (fun _ => ?_)
        clear hK K
        try simp only [Act.put, List.setIfInBounds_toArray, List.set_cons_zero, List.set_cons_succ]
        refine wpAnyH_done (by kernel_rfl) ?_ _
        refine NoPanic.normal ?_
        generalize w9.setCell ⟨cb, 0, none⟩ (.slice a2 (n + 1) c2) = w10 at HE9 ⊢
        clear hrun9 hc9 hf9 hs1 hs2
        go_wp2
        go_ret
        exact ⟨rfl, HE9.out.1, HE9.out.2⟩
      · go_simp
        (with_reducible refine (CK.out w.drew ((Below.refl _ _).drew)).mono ?_)
        rintro e w1 ⟨a1, n1, c1, rfl, ho1, hb1⟩
        obtain ⟨v9, w9, hrun9, hc9, hf9, ⟨a2, c2, e9⟩, hn9, hk9, hx9⟩ := send_stepX (w2 := w1.alloc (.cells #[.int .i64 f, .int .i64 t, .slice a1 n1 c1] 37)) (x := (f, t, bs)) HCC.out HCR.out HROR.out HNER.out HXSR.out ho1 HBy.out (below_undrew hb1) hn20 rfl 28
        subst e9
        have HE9 := hide (rsend_next (x := (f, t, bs)) (L := LL) (ps := [(f, t, bs)]) (k := 0) (Kp.refl D w) HNR.out HCR.out HEX.out (below_undrew hb1) ho1 HBy.out hn9 hk9 hx9 (by rw [HLR.out]; simp) rfl)
        have hs1 := keep_cell hd0 hb1
        have hs2 : (w1.alloc (.cells #[.int .i64 f, .int .i64 t, .slice a1 n1 c1] 37)).cell? ⟨cb, 0, none⟩ = some (.slice (some ⟨g, off, none⟩) n c) := keep_cell hs1 (below_new _ _)
        clear hn9 hk9 hx9 ho1 hb1
        go_wp2_with fail
        refine hK.out _ _ trivial (fun _ => ?_)
        clear hK K
        try simp only [Act.put, List.setIfInBounds_toArray, List.set_cons_zero, List.set_cons_succ]
        refine wpAnyH_ready (rs := [4, 13]) (by kernel_rfl) (by simp) ?_
        refine AllReadyH.cons rfl (fun K hK => ?_) (AllReadyH.cons rfl (fun K hK => ?_) AllReadyH.nil)
        · go_simp
          go_wp2_with fail
          refine hK.out _ _ trivial (fun _ => ?_)
          clear hK K
          try simp only [Act.put, List.setIfInBounds_toArray, List.set_cons_zero, List.set_cons_succ]
          refine wpAnyH_ready (rs := [13]) (by kernel_rfl) (by simp) ?_
          refine AllReadyH.cons rfl (fun K hK => ?_) AllReadyH.nil
          go_simp
          go_wp2_with fail
          refine hK.out _ _ trivial (fun _ => ?_)
          clear hK K
          try simp only [Act.put, List.setIfInBounds_toArray, List.set_cons_zero, List.set_cons_succ]
          refine wpAnyH_ready (rs := [14]) (by kernel_rfl) (by simp) ?_
          refine AllReadyH.cons rfl (fun K hK => ?_) AllReadyH.nil
          refine wp_append_run (.tmp 28) (.tmp 37) rfl rfl rfl hrun9 ?_
          refine hK.out _ _ trivial (fun _ => ?_)
          clear hK K
          try simp only [Act.put, List.setIfInBounds_toArray, List.set_cons_zero, List.set_cons_succ]
          refine takeD (i := 15) (d := some 39) (v := ?_) rfl rfl (by kernel_rfl) (by kernel_rfl) (by kernel_rfl) (fun _ _ _ h => h) (Or.inl ⟨by rfl, ?_⟩) trivial ?_
          rotate_left
          · intro w hSw
            go_simp
            try (with_reducible rfl)
          try simp only [Act.put, List.setIfInBounds_toArray, List.set_cons_zero, List.set_cons_succ]
          refine takeD (i := 16) (d := some 40) (v := ?_) rfl rfl (by kernel_rfl) (by kernel_rfl) (by kernel_rfl) (fun _ _ _ h => h) (Or.inl ⟨by rfl, ?_⟩) trivial ?_
          rotate_left
          · intro w hSw
            go_simp
            try (with_reducible rfl)
          try simp only [Act.put, List.setIfInBounds_toArray, List.set_cons_zero, List.set_cons_succ]
          refine wpAnyH_ready (rs := [17]) (by kernel_rfl) (by simp) ?_
          refine AllReadyH.cons rfl (fun K hK => ?_) AllReadyH.nil
          go_simp
          go_wp2_with fail
          refine hK.out _ _ trivial (fun _ => ?_)
          clear hK K
          try simp only [Act.put, List.setIfInBounds_toArray, List.set_cons_zero, List.set_cons_succ]
          refine wpAnyH_done (by kernel_rfl) ?_ _
          refine NoPanic.normal ?_
          generalize w9.setCell ⟨cb, 0, none⟩ (.slice a2 (n + 1) c2) = w10 at HE9 ⊢
          clear hrun9 hc9 hf9 hs1 hs2
          go_wp2
          go_ret
          exact ⟨rfl, HE9.out.1, HE9.out.2⟩
        · go_simp
          go_wp2_with fail
          refine hK.out _ _ trivial (fun _ => ?_)
          clear hK K
          try simp only [Act.put, List.setIfInBounds_toArray, List.set_cons_zero, List.set_cons_succ]
          refine wpAnyH_ready (rs := [4]) (by kernel_rfl) (by simp) ?_
          refine AllReadyH.cons rfl (fun K hK => ?_) AllReadyH.nil
          go_simp
          go_wp2_with fail
          refine hK.out _ _ trivial (fun _ => ?_)
          clear hK K
          try simp only [Act.put, List.setIfInBounds_toArray, List.set_cons_zero, List.set_cons_succ]
          refine wpAnyH_ready (rs := [14]) (by kernel_rfl) (by simp) ?_
          refine AllReadyH.cons rfl (fun K hK => ?_) AllReadyH.nil
          refine wp_append_run (.tmp 28) (.tmp 37) rfl rfl rfl hrun9 ?_
          refine hK.out _ _ trivial (fun _ => ?_)
          clear hK K
          try simp only [Act.put, List.setIfInBounds_toArray, List.set_cons_zero, List.set_cons_succ]
          refine takeD (i := 15) (d := some 39) (v := ?_) rfl rfl (by kernel_rfl) (by kernel_rfl) (by kernel_rfl) (fun _ _ _ h => h) (Or.inl ⟨by rfl, ?_⟩) trivial ?_
          rotate_left
          · intro w hSw
            go_simp
            try (with_reducible rfl)
          try simp only [Act.put, List.setIfInBounds_toArray, List.set_cons_zero, List.set_cons_succ]
          refine takeD (i := 16) (d := some 40) (v := ?_) rfl rfl (by kernel_rfl) (by kernel_rfl) (by kernel_rfl) (fun _ _ _ h => h) (Or.inl ⟨by rfl, ?_⟩) trivial ?_
          rotate_left
          · intro w hSw
            go_simp
            try (with_reducible rfl)
          try simp only [Act.put, List.setIfInBounds_toArray, List.set_cons_zero, List.set_cons_succ]
          refine wpAnyH_ready (rs := [17]) (by kernel_rfl) (by simp) ?_
          refine AllReadyH.cons rfl (fun K hK => ?_) AllReadyH.nil
          go_simp
          go_wp2_with fail
          refine hK.out _ _ trivial (fun _ => ?_)
          clear hK K
          try simp only [Act.put, List.setIfInBounds_toArray, List.set_cons_zero, List.set_cons_succ]
          refine wpAnyH_done (by kernel_rfl) ?_ _
          refine NoPanic.normal ?_
          generalize w9.setCell ⟨cb, 0, none⟩ (.slice a2 (n + 1) c2) = w10 at HE9 ⊢
          clear hrun9 hc9 hf9 hs1 hs2
          go_wp2
          go_ret
          exact ⟨rfl, HE9.out.1, HE9.out.2⟩
end Go.Proofs.Ytmjglgdihlomlaa
