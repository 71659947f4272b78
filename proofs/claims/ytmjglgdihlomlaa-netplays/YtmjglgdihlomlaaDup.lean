/- (*net.Net).Dup. -/
import Derived.Test.YtmjglgdihlomlaaDel
namespace Go.Proofs.Ytmjglgdihlomlaa
open Go.RowKit Go.ChangeShapes Go.WideShapes Go.ChangeAt Go.Deep

/-- One like a parcel of the row is put last: it shares its bytes. -/
theorem dup_step {D : Nat → Prop} {W w2 : World} {cb n c : Nat} {a : Option Addr} {l : List Pm} {x : Pm}
    (hc : D cb ∧ W.frozen? ⟨cb, 0, none⟩ = false ∧ ∀ k, D k → k < W.heap.size) (hcell : W.cell? ⟨cb, 0, none⟩ = some (.slice a n c)) (hr : RowO D W a n c l) (hne : ∀ ad, a = some ad → ad.block ≠ cb) (hxs : ∀ x ∈ l, ∀ ad, x.a = some ad → ad.block ≠ cb)
    (hx : x ∈ l) (hn : n ≤ 20000) (h2 : w2 = W.alloc (.cells #[.int .i64 x.p.1, .int .i64 x.p.2.1, .slice x.a x.n x.c] 37)) (ty : TypeId) :
    ∃ v' w', (Builtin.append_ #[28, 28] ty #[.slice a n c, .slice (some ⟨W.heap.size, 0, none⟩) 1 1]).run Try.prog w2 = .ok v' w' ∧ w'.cell? ⟨cb, 0, none⟩ = some (.slice a n c) ∧ w'.frozen? ⟨cb, 0, none⟩ = false ∧ (∃ a2 c2, v' = .slice a2 (n + 1) c2) ∧ NetM (Ex D W w') (w'.setCell ⟨cb, 0, none⟩ v') cb (l ++ [x]) ∧ Kp D W (w'.setCell ⟨cb, 0, none⟩ v') := by
  have hb2 : Below W.heap.size W w2 := by rw [h2]; exact below_new _ _
  have hs2 : w2.heap.size = W.heap.size + 1 := by rw [h2]; simp
  have hD2 : ∀ k, Ex D W w2 k → k < w2.heap.size := fun k hk => by
    rcases hk with hk | hk
    · exact Nat.lt_of_lt_of_le (hc.2.2 k hk) hb2.size
    · exact hk.2
  have hr2 : RowO (Ex D W w2) w2 a n c l := (hr.keep hc.2.2 fun k _ hk => hb2.block k hk).mono fun k hk => .inl hk
  have hcl := hc.2.2 cb hc.1
  have hcb := hb2.block cb hcl
  have hc2 : (Ex D W w2) cb ∧ w2.frozen? ⟨cb, 0, none⟩ = false ∧ ∀ k, (Ex D W w2) k → k < w2.heap.size := ⟨.inl hc.1, by rw [World.frozen?_of_block (w := W) (a := ⟨cb, 0, none⟩) hcb]; exact hc.2.1, hD2⟩
  have hcell2 : w2.cell? ⟨cb, 0, none⟩ = some (.slice a n c) := by rw [World.cell?_of_block (w := W) (a := ⟨cb, 0, none⟩) hcb]; exact hcell
  obtain ⟨v', w', hrun, hq⟩ := push_run hr2 x (hr2.1.2.2.2.2.2 x hx) hD2 (fun ad ad' e e' => by
    obtain ⟨g, off, e2, _, h3⟩ := hr.2 ad e
    rw [e2]
    exact h3 x hx ad' e') W.heap.size (by rw [h2]; exact reads_new W (Pm.cs x) 37) hn ty
  obtain ⟨q1, q2, q3, q4, q5⟩ := net_put hc2 hcell2 hr2 hne (fun y hy ad e => by
    rw [List.mem_append, List.mem_singleton] at hy
    rcases hy with hy | rfl
    · exact hxs y hy ad e
    · exact hxs y hx ad e) hq
  have hkq : w2.heap.size ≤ w'.heap.size := by
    have := q5.size
    simpa [World.setCell] using this
  refine ⟨v', w', hrun, q1, q2, q3, q4.mono (fun k hk => ?_) (fun k hk => ?_), ?_⟩
  · rcases hk with (hk | hk) | hk
    · exact .inl hk
    · exact .inr ⟨hk.1, by omega⟩
    · exact .inr ⟨by have := hb2.size; omega, hk.2⟩
  · show k < (w'.setCell ⟨cb, 0, none⟩ _).heap.size
    simp only [World.setCell, Array.size_modify]
    rcases hk with hk | hk
    · have := hc.2.2 k hk; have := hb2.size; omega
    · exact hk.2
  · exact (Kp.of_below hb2).trans' q5 (fun i hi => hi.elim .inl fun h => .inr h.1)

set_option maxRecDepth 100000 in
set_option maxHeartbeats 1000000 in
theorem dup_no (D : Nat → Prop) (w : World) (cb : Nat) (L : List Pc) (k : Int) (hN : NetP D w cb L) (hk : hasB L.length k = false) :
    Calls Try.prog 16 #[.pointer (some ⟨cb, 0, none⟩), .int .i64 k] w fun e w' => e = .returned (.bool false) ∧ w' = w := by
  obtain ⟨l, hl, hM⟩ := hN
  obtain ⟨a, n, c, hcell, hn⟩ := hM.head
  have hkn : hasB n k = false := by rw [← hn, ← hk, ← hl, List.length_map]
  have C25 := hide (has_any cb a n c k w hcell)
  rw [hkn] at C25
  clear hM hkn hk hn hl
  go_enter Try.func16, Try.ntmps16
  go_wp2_with (go_at_call 25; go_must ((with_reducible refine C25.out.mono ?_); rintro e w1 ⟨rfl, rfl⟩))
  go_ret
  exact ⟨rfl, rfl⟩
set_option maxRecDepth 100000 in
set_option maxHeartbeats 1000000 in
theorem dup_full (D : Nat → Prop) (w : World) (cb : Nat) (L : List Pc) (k : Int) (hN : NetP D w cb L) (hL : 10000 ≤ L.length) :
    Calls Try.prog 16 #[.pointer (some ⟨cb, 0, none⟩), .int .i64 k] w fun e w' => e = .returned (.bool false) ∧ w' = w := by
  by_cases hk : hasB L.length k = false
  · exact dup_no D w cb L k hN hk
  · obtain ⟨l, hl, hM⟩ := hN
    obtain ⟨a, n, c, hcell, hn⟩ := hM.head
    have hkn : hasB n k = true := by rw [← hn, ← List.length_map (f := Pm.p), hl]; simpa using hk
    have hn2 : (10000 : Int) ≤ (n : Int) := by rw [← hn, ← List.length_map (f := Pm.p), hl]; omega
    have C25 := hide (has_any cb a n c k w hcell)
    rw [hkn] at C25
    clear hM hkn hk hn hl hL
    go_enter Try.func16, Try.ntmps16
    go_wp2_with (go_at_call 25; go_must ((with_reducible refine C25.out.mono ?_); rintro e w1 ⟨rfl, rfl⟩))
    go_ret
    exact ⟨rfl, rfl⟩
theorem map_snoc {l : List Pm} {k : Nat} (h : k < l.length) : (l ++ [l[k]]).map Pm.p = l.map Pm.p ++ [(l.map Pm.p)[k]'(by simpa using h)] := by simp
set_option linter.unusedSimpArgs false in
set_option maxRecDepth 100000 in
set_option maxHeartbeats 4000000 in
theorem dup_yes (D : Nat → Prop) (w : World) (cb : Nat) (L : List Pc) (k : Nat) (hN : NetP D w cb L) (hk : k < L.length) (hL : L.length < 10000) :
    Calls Try.prog 16 #[.pointer (some ⟨cb, 0, none⟩), .int .i64 (k : Int)] w fun e w' => e = .returned (.bool true) ∧ NetP (Ex D w w') w' cb (L ++ [L[k]]) ∧ Kp D w w' := by
  obtain ⟨l, rfl, hM⟩ := hN
  rw [List.length_map] at hL
  have hkl : k < l.length := by simpa using hk
  have HMS := hide (map_snoc hkl)
  generalize ((l.map Pm.p) ++ [(l.map Pm.p)[k]]) = R at HMS ⊢
  obtain ⟨hcc, a, n, c, hcell, hro, hne, hxs⟩ := hM
  have hn := hro.1.1
  have hnc := hro.1.2.1
  obtain ⟨g, off, rfl⟩ := hro.isAt (by omega)
  obtain ⟨b', off', har, y0, y1, y2⟩ := hro.1.at hkl
  simp only [Option.some.injEq, Addr.mk.injEq] at har
  obtain ⟨rfl, rfl, _⟩ := har
  have C25 := hide (has_any cb (some ⟨g, off, none⟩) n c (k : Int) w hcell)
  rw [show hasB n (k : Int) = true by simp [hasB]; omega] at C25
  obtain ⟨v9, w9, hrun9, hc9, hf9, ⟨a2, c2, e9⟩, hn9, hk9⟩ := dup_step (W := w.drew) (x := l[k]) hcc hcell hro hne hxs (List.getElem_mem _) (by omega) rfl 28
  subst e9
  have HN9 := hide hn9
  have HK9 := hide hk9
  obtain ⟨x, hx⟩ : ∃ x, x = l[k] := ⟨_, rfl⟩
  rw [← hx] at y0 y1 y2 hrun9 HN9 HMS
  obtain ⟨⟨f, t, bs⟩, xa, xn, xc⟩ := x
  simp only at y0 y1 y2 hrun9
  have hd0 : w.drew.cell? ⟨cb, 0, none⟩ = some (.slice (some ⟨g, off, none⟩) n c) := hcell
  have hd1 : w.drew.cell? ⟨g, off + k * 3, none⟩ = some (.int .i64 f) := y0
  have hd2 : w.drew.cell? ⟨g, off + k * 3 + 1, none⟩ = some (.int .i64 t) := y1
  have hd3 : w.drew.cell? ⟨g, off + k * 3 + 2, none⟩ = some (.slice xa xn xc) := y2
  have hs2 : (w.drew.alloc (.cells #[.int .i64 f, .int .i64 t, .slice xa xn xc] 37)).cell? ⟨cb, 0, none⟩ = some (.slice (some ⟨g, off, none⟩) n c) := keep_cell hd0 (below_new _ _)
  have hs3 : (w.alloc (.cells #[.int .i64 f, .int .i64 t, .slice xa xn xc] 37)).drew.cell? ⟨cb, 0, none⟩ = some (.slice (some ⟨g, off, none⟩) n c) := hs2
  have hs4 : (w.alloc (.cells #[.int .i64 f, .int .i64 t, .slice xa xn xc] 37)).cell? ⟨cb, 0, none⟩ = some (.slice (some ⟨g, off, none⟩) n c) := hs2
  have hkn : k < n := by omega
  have hn10 : (n : Int) < 10000 := by omega
  have hki : (k : Int) < (n : Int) := by omega
  clear hx hn9 hk9 hro hne hxs hcc hn hkl hL
  go_enter Try.func16, Try.ntmps16
  go_wp2_with (go_at_call 25; go_must ((with_reducible refine C25.out.mono ?_); rintro e w0 ⟨rfl, hw0⟩; have hw0' : w = w0 := hw0.symm; subst hw0'))
  refine wp_region_noPanic ?_
  refine wp_region_held_drew (S := fun _ => True) (by kernel_rfl) trivial (fun _ => ?_)
  refine takeD (i := 0) (d := some 17) (v := ?_) rfl rfl (by kernel_rfl) (by kernel_rfl) (by kernel_rfl) (fun _ _ _ h => h) (Or.inl ⟨by rfl, ?_⟩) trivial ?_
  rotate_left
  · intro w hSw
    go_simp
    try (with_reducible rfl)
  try simp only [Act.put, List.setIfInBounds_toArray, List.set_cons_zero, List.set_cons_succ]
  refine takeD (i := 1) (d := some 18) (v := ?_) rfl rfl (by kernel_rfl) (by kernel_rfl) (by kernel_rfl) (fun _ _ _ h => h) (Or.inl ⟨by rfl, ?_⟩) trivial ?_
  rotate_left
  · intro w hSw
    go_simp
    try (with_reducible rfl)
  try simp only [Act.put, List.setIfInBounds_toArray, List.set_cons_zero, List.set_cons_succ]
  refine takeD (i := 2) (d := some 19) (v := ?_) rfl rfl (by kernel_rfl) (by kernel_rfl) (by kernel_rfl) (fun _ _ _ h => h) (Or.inl ⟨by rfl, ?_⟩) trivial ?_
  rotate_left
  · intro w hSw
    go_simp
    try (with_reducible rfl)
  try simp only [Act.put, List.setIfInBounds_toArray, List.set_cons_zero, List.set_cons_succ]
  refine takeD (i := 3) (d := some 20) (v := ?_) rfl rfl (by kernel_rfl) (by kernel_rfl) (by kernel_rfl) (fun _ _ _ h => h) (Or.inl ⟨by rfl, ?_⟩) trivial ?_
  rotate_left
  · intro w hSw
    go_simp
    try (with_reducible rfl)
  try simp only [Act.put, List.setIfInBounds_toArray, List.set_cons_zero, List.set_cons_succ]
  refine takeD (i := 5) (d := some 22) (v := ?_) rfl rfl (by kernel_rfl) (by kernel_rfl) (by kernel_rfl) (fun _ _ _ h => h) (Or.inl ⟨by rfl, ?_⟩) trivial ?_
  rotate_left
  · intro w hSw
    go_simp
    try (with_reducible rfl)
  try simp only [Act.put, List.setIfInBounds_toArray, List.set_cons_zero, List.set_cons_succ]
  refine takeD (i := 6) (d := some 23) (v := ?_) rfl rfl (by kernel_rfl) (by kernel_rfl) (by kernel_rfl) (fun _ _ _ h => h) (Or.inl ⟨by rfl, ?_⟩) trivial ?_
  rotate_left
  · intro w hSw
    go_simp
    try (with_reducible rfl)
  try simp only [Act.put, List.setIfInBounds_toArray, List.set_cons_zero, List.set_cons_succ]
  refine takeD (i := 7) (d := some 24) (v := ?_) rfl rfl (by kernel_rfl) (by kernel_rfl) (by kernel_rfl) (fun _ _ _ h => h) (Or.inl ⟨by rfl, ?_⟩) trivial ?_
  rotate_left
  · intro w hSw
    go_simp
    try (with_reducible rfl)
  try simp only [Act.put, List.setIfInBounds_toArray, List.set_cons_zero, List.set_cons_succ]
  refine takeD (i := 9) (d := some 26) (v := ?_) rfl rfl (by kernel_rfl) (by kernel_rfl) (by kernel_rfl) (fun _ _ _ h => h) (Or.inl ⟨by rfl, ?_⟩) trivial ?_
  rotate_left
  · intro w hSw
    go_simp
    try (with_reducible rfl)
  try simp only [Act.put, List.setIfInBounds_toArray, List.set_cons_zero, List.set_cons_succ]
  refine wpAnyH_ready (rs := [4, 8]) (by kernel_rfl) (by simp) ?_
  refine AllReadyH.cons rfl (fun K hK => ?_) (AllReadyH.cons rfl (fun K hK => ?_) AllReadyH.nil)
  · go_simp
    go_wp2_with fail
    refine hK.out _ _ trivial (fun _ => ?_)
    clear hK K
    try simp only [Act.put, List.setIfInBounds_toArray, List.set_cons_zero, List.set_cons_succ]
    refine wpAnyH_ready (rs := [8]) (by kernel_rfl) (by simp) ?_
    refine AllReadyH.cons rfl (fun K hK => ?_) AllReadyH.nil
    go_simp
    go_wp2_with fail
    refine hK.out _ _ trivial (fun _ => ?_)
    clear hK K
    try simp only [Act.put, List.setIfInBounds_toArray, List.set_cons_zero, List.set_cons_succ]
    refine takeD (i := 10) (d := some 27) (v := ?_) rfl rfl (by kernel_rfl) (by kernel_rfl) (by kernel_rfl) (fun _ _ _ h => h) (Or.inl ⟨by rfl, ?_⟩) trivial ?_
    rotate_left
    · intro w hSw
      go_simp
      try (with_reducible rfl)
    try simp only [Act.put, List.setIfInBounds_toArray, List.set_cons_zero, List.set_cons_succ]
    refine wpAnyH_ready (rs := [11]) (by kernel_rfl) (by simp) ?_
    refine AllReadyH.cons rfl (fun K hK => ?_) AllReadyH.nil
    go_simp
    go_wp2_with fail
    refine hK.out _ _ trivial (fun _ => ?_)
    clear hK K
    try simp only [Act.put, List.setIfInBounds_toArray, List.set_cons_zero, List.set_cons_succ]
    refine wpAnyH_ready (rs := [12]) (by kernel_rfl) (by simp) ?_
    refine AllReadyH.cons rfl (fun K hK => ?_) AllReadyH.nil
    go_simp
    go_wp2_with fail
    refine hK.out _ _ trivial (fun _ => ?_)
    clear hK K
    try simp only [Act.put, List.setIfInBounds_toArray, List.set_cons_zero, List.set_cons_succ]
    refine wpAnyH_ready (rs := [13]) (by kernel_rfl) (by simp) ?_
    refine AllReadyH.cons rfl (fun K hK => ?_) AllReadyH.nil
    refine wp_append_run (.tmp 21) (.tmp 29) rfl rfl rfl hrun9 ?_
    refine hK.out _ _ trivial (fun _ => ?_)
    clear hK K
    try simp only [Act.put, List.setIfInBounds_toArray, List.set_cons_zero, List.set_cons_succ]
    refine takeD (i := 14) (d := some 31) (v := ?_) rfl rfl (by kernel_rfl) (by kernel_rfl) (by kernel_rfl) (fun _ _ _ h => h) (Or.inl ⟨by rfl, ?_⟩) trivial ?_
    rotate_left
    · intro w hSw
      go_simp
      try (with_reducible rfl)
    try simp only [Act.put, List.setIfInBounds_toArray, List.set_cons_zero, List.set_cons_succ]
    refine takeD (i := 15) (d := some 32) (v := ?_) rfl rfl (by kernel_rfl) (by kernel_rfl) (by kernel_rfl) (fun _ _ _ h => h) (Or.inl ⟨by rfl, ?_⟩) trivial ?_
    rotate_left
    · intro w hSw
      go_simp
      try (with_reducible rfl)
    try simp only [Act.put, List.setIfInBounds_toArray, List.set_cons_zero, List.set_cons_succ]
    refine wpAnyH_ready (rs := [16]) (by kernel_rfl) (by simp) ?_
    refine AllReadyH.cons rfl (fun K hK => ?_) AllReadyH.nil
    go_simp
    go_wp2_with fail
    refine hK.out _ _ trivial (fun _ => ?_)
    clear hK K
    try simp only [Act.put, List.setIfInBounds_toArray, List.set_cons_zero, List.set_cons_succ]
    refine wpAnyH_done (by kernel_rfl) ?_ _
    refine NoPanic.normal ?_
    have HE := hide (show NetP (Ex D w (w9.setCell ⟨cb, 0, none⟩ (.slice a2 (n + 1) c2))) (w9.setCell ⟨cb, 0, none⟩ (.slice a2 (n + 1) c2)) cb R ∧ Kp D w (w9.setCell ⟨cb, 0, none⟩ (.slice a2 (n + 1) c2)) from ⟨⟨_, HMS.out, HN9.out.mono (fun q h => h.elim .inl fun h' => .inr ⟨h'.1, by simpa [World.setCell] using h'.2⟩) (fun q h => h.elim (fun h' => HN9.out.1.2.2 q (.inl h')) fun h' => h'.2)⟩, ⟨HK9.out.os, HK9.out.tape, HK9.out.output, HK9.out.size, HK9.out.block⟩⟩)
    generalize w9.setCell ⟨cb, 0, none⟩ (.slice a2 (n + 1) c2) = w10 at HE ⊢
    clear hrun9 hc9 hf9 hs2 hs3 hs4 hd0 hd1 hd2 hd3
    go_wp2
    go_ret
    exact ⟨rfl, HE.out.1, HE.out.2⟩
  · go_simp
    go_wp2_with fail
    refine hK.out _ _ trivial (fun _ => ?_)
    clear hK K
    try simp only [Act.put, List.setIfInBounds_toArray, List.set_cons_zero, List.set_cons_succ]
    refine takeD (i := 10) (d := some 27) (v := ?_) rfl rfl (by kernel_rfl) (by kernel_rfl) (by kernel_rfl) (fun _ _ _ h => h) (Or.inl ⟨by rfl, ?_⟩) trivial ?_
    rotate_left
    · intro w hSw
      go_simp
      try (with_reducible rfl)
    try simp only [Act.put, List.setIfInBounds_toArray, List.set_cons_zero, List.set_cons_succ]
    refine wpAnyH_ready (rs := [4, 11]) (by kernel_rfl) (by simp) ?_
    refine AllReadyH.cons rfl (fun K hK => ?_) (AllReadyH.cons rfl (fun K hK => ?_) AllReadyH.nil)
    · go_simp
      go_wp2_with fail
      refine hK.out _ _ trivial (fun _ => ?_)
      clear hK K
      try simp only [Act.put, List.setIfInBounds_toArray, List.set_cons_zero, List.set_cons_succ]
      refine wpAnyH_ready (rs := [11]) (by kernel_rfl) (by simp) ?_
      refine AllReadyH.cons rfl (fun K hK => ?_) AllReadyH.nil
      go_simp
      go_wp2_with fail
      refine hK.out _ _ trivial (fun _ => ?_)
      clear hK K
      try simp only [Act.put, List.setIfInBounds_toArray, List.set_cons_zero, List.set_cons_succ]
      refine wpAnyH_ready (rs := [12]) (by kernel_rfl) (by simp) ?_
      refine AllReadyH.cons rfl (fun K hK => ?_) AllReadyH.nil
      go_simp
      go_wp2_with fail
      refine hK.out _ _ trivial (fun _ => ?_)
      clear hK K
      try simp only [Act.put, List.setIfInBounds_toArray, List.set_cons_zero, List.set_cons_succ]
      refine wpAnyH_ready (rs := [13]) (by kernel_rfl) (by simp) ?_
      refine AllReadyH.cons rfl (fun K hK => ?_) AllReadyH.nil
      refine wp_append_run (.tmp 21) (.tmp 29) rfl rfl rfl hrun9 ?_
      refine hK.out _ _ trivial (fun _ => ?_)
      clear hK K
      try simp only [Act.put, List.setIfInBounds_toArray, List.set_cons_zero, List.set_cons_succ]
      refine takeD (i := 14) (d := some 31) (v := ?_) rfl rfl (by kernel_rfl) (by kernel_rfl) (by kernel_rfl) (fun _ _ _ h => h) (Or.inl ⟨by rfl, ?_⟩) trivial ?_
      rotate_left
      · intro w hSw
        go_simp
        try (with_reducible rfl)
      try simp only [Act.put, List.setIfInBounds_toArray, List.set_cons_zero, List.set_cons_succ]
      refine takeD (i := 15) (d := some 32) (v := ?_) rfl rfl (by kernel_rfl) (by kernel_rfl) (by kernel_rfl) (fun _ _ _ h => h) (Or.inl ⟨by rfl, ?_⟩) trivial ?_
      rotate_left
      · intro w hSw
        go_simp
        try (with_reducible rfl)
      try simp only [Act.put, List.setIfInBounds_toArray, List.set_cons_zero, List.set_cons_succ]
      refine wpAnyH_ready (rs := [16]) (by kernel_rfl) (by simp) ?_
      refine AllReadyH.cons rfl (fun K hK => ?_) AllReadyH.nil
      go_simp
      go_wp2_with fail
      refine hK.out _ _ trivial (fun _ => ?_)
      clear hK K
      try simp only [Act.put, List.setIfInBounds_toArray, List.set_cons_zero, List.set_cons_succ]
      refine wpAnyH_done (by kernel_rfl) ?_ _
      refine NoPanic.normal ?_
      have HE := hide (show NetP (Ex D w (w9.setCell ⟨cb, 0, none⟩ (.slice a2 (n + 1) c2))) (w9.setCell ⟨cb, 0, none⟩ (.slice a2 (n + 1) c2)) cb R ∧ Kp D w (w9.setCell ⟨cb, 0, none⟩ (.slice a2 (n + 1) c2)) from ⟨⟨_, HMS.out, HN9.out.mono (fun q h => h.elim .inl fun h' => .inr ⟨h'.1, by simpa [World.setCell] using h'.2⟩) (fun q h => h.elim (fun h' => HN9.out.1.2.2 q (.inl h')) fun h' => h'.2)⟩, ⟨HK9.out.os, HK9.out.tape, HK9.out.output, HK9.out.size, HK9.out.block⟩⟩)
      generalize w9.setCell ⟨cb, 0, none⟩ (.slice a2 (n + 1) c2) = w10 at HE ⊢
      clear hrun9 hc9 hf9 hs2 hs3 hs4 hd0 hd1 hd2 hd3
      go_wp2
      go_ret
      exact ⟨rfl, HE.out.1, HE.out.2⟩
    · go_simp
      go_wp2_with fail
      refine hK.out _ _ trivial (fun _ => ?_)
      clear hK K
      try simp only [Act.put, List.setIfInBounds_toArray, List.set_cons_zero, List.set_cons_succ]
      refine wpAnyH_ready (rs := [4, 12]) (by kernel_rfl) (by simp) ?_
      refine AllReadyH.cons rfl (fun K hK => ?_) (AllReadyH.cons rfl (fun K hK => ?_) AllReadyH.nil)
      · go_simp
        go_wp2_with fail
        refine hK.out _ _ trivial (fun _ => ?_)
        clear hK K
        try simp only [Act.put, List.setIfInBounds_toArray, List.set_cons_zero, List.set_cons_succ]
        refine wpAnyH_ready (rs := [12]) (by kernel_rfl) (by simp) ?_
        refine AllReadyH.cons rfl (fun K hK => ?_) AllReadyH.nil
        go_simp
        go_wp2_with fail
        refine hK.out _ _ trivial (fun _ => ?_)
        clear hK K
        try simp only [Act.put, List.setIfInBounds_toArray, List.set_cons_zero, List.set_cons_succ]
        refine wpAnyH_ready (rs := [13]) (by kernel_rfl) (by simp) ?_
        refine AllReadyH.cons rfl (fun K hK => ?_) AllReadyH.nil
        refine wp_append_run (.tmp 21) (.tmp 29) rfl rfl rfl hrun9 ?_
        refine hK.out _ _ trivial (fun _ => ?_)
        clear hK K
        try simp only [Act.put, List.setIfInBounds_toArray, List.set_cons_zero, List.set_cons_succ]
        refine takeD (i := 14) (d := some 31) (v := ?_) rfl rfl (by kernel_rfl) (by kernel_rfl) (by kernel_rfl) (fun _ _ _ h => h) (Or.inl ⟨by rfl, ?_⟩) trivial ?_
        rotate_left
        · intro w hSw
          go_simp
          try (with_reducible rfl)
        try simp only [Act.put, List.setIfInBounds_toArray, List.set_cons_zero, List.set_cons_succ]
        refine takeD (i := 15) (d := some 32) (v := ?_) rfl rfl (by kernel_rfl) (by kernel_rfl) (by kernel_rfl) (fun _ _ _ h => h) (Or.inl ⟨by rfl, ?_⟩) trivial ?_
        rotate_left
        · intro w hSw
          go_simp
          try (with_reducible rfl)
        try simp only [Act.put, List.setIfInBounds_toArray, List.set_cons_zero, List.set_cons_succ]
        refine wpAnyH_ready (rs := [16]) (by kernel_rfl) (by simp) ?_
        refine AllReadyH.cons rfl (fun K hK => ?_) AllReadyH.nil
        go_simp
        go_wp2_with fail
        refine hK.out _ _ trivial (fun _ => ?_)
        clear hK K
        try simp only [Act.put, List.setIfInBounds_toArray, List.set_cons_zero, List.set_cons_succ]
        refine wpAnyH_done (by kernel_rfl) ?_ _
        refine NoPanic.normal ?_
        have HE := hide (show NetP (Ex D w (w9.setCell ⟨cb, 0, none⟩ (.slice a2 (n + 1) c2))) (w9.setCell ⟨cb, 0, none⟩ (.slice a2 (n + 1) c2)) cb R ∧ Kp D w (w9.setCell ⟨cb, 0, none⟩ (.slice a2 (n + 1) c2)) from ⟨⟨_, HMS.out, HN9.out.mono (fun q h => h.elim .inl fun h' => .inr ⟨h'.1, by simpa [World.setCell] using h'.2⟩) (fun q h => h.elim (fun h' => HN9.out.1.2.2 q (.inl h')) fun h' => h'.2)⟩, ⟨HK9.out.os, HK9.out.tape, HK9.out.output, HK9.out.size, HK9.out.block⟩⟩)
        generalize w9.setCell ⟨cb, 0, none⟩ (.slice a2 (n + 1) c2) = w10 at HE ⊢
        clear hrun9 hc9 hf9 hs2 hs3 hs4 hd0 hd1 hd2 hd3
        go_wp2
        go_ret
        exact ⟨rfl, HE.out.1, HE.out.2⟩
      · go_simp
        go_wp2_with fail
        refine hK.out _ _ trivial (fun _ => ?_)
        clear hK K
        try simp only [Act.put, List.setIfInBounds_toArray, List.set_cons_zero, List.set_cons_succ]
        refine wpAnyH_ready (rs := [4]) (by kernel_rfl) (by simp) ?_
        refine AllReadyH.cons rfl (fun K hK => ?_) AllReadyH.nil
        go_simp
        go_wp2_with fail
        refine hK.out _ _ trivial (fun _ => ?_)
        clear hK K
        try simp only [Act.put, List.setIfInBounds_toArray, List.set_cons_zero, List.set_cons_succ]
        refine wpAnyH_ready (rs := [13]) (by kernel_rfl) (by simp) ?_
        refine AllReadyH.cons rfl (fun K hK => ?_) AllReadyH.nil
        refine wp_append_run (.tmp 21) (.tmp 29) rfl rfl rfl hrun9 ?_
        refine hK.out _ _ trivial (fun _ => ?_)
        clear hK K
        try simp only [Act.put, List.setIfInBounds_toArray, List.set_cons_zero, List.set_cons_succ]
        refine takeD (i := 14) (d := some 31) (v := ?_) rfl rfl (by kernel_rfl) (by kernel_rfl) (by kernel_rfl) (fun _ _ _ h => h) (Or.inl ⟨by rfl, ?_⟩) trivial ?_
        rotate_left
        · intro w hSw
          go_simp
          try (with_reducible rfl)
        try simp only [Act.put, List.setIfInBounds_toArray, List.set_cons_zero, List.set_cons_succ]
        refine takeD (i := 15) (d := some 32) (v := ?_) rfl rfl (by kernel_rfl) (by kernel_rfl) (by kernel_rfl) (fun _ _ _ h => h) (Or.inl ⟨by rfl, ?_⟩) trivial ?_
        rotate_left
        · intro w hSw
          go_simp
          try (with_reducible rfl)
        try simp only [Act.put, List.setIfInBounds_toArray, List.set_cons_zero, List.set_cons_succ]
        refine wpAnyH_ready (rs := [16]) (by kernel_rfl) (by simp) ?_
        refine AllReadyH.cons rfl (fun K hK => ?_) AllReadyH.nil
        go_simp
        go_wp2_with fail
        refine hK.out _ _ trivial (fun _ => ?_)
        clear hK K
        try simp only [Act.put, List.setIfInBounds_toArray, List.set_cons_zero, List.set_cons_succ]
        refine wpAnyH_done (by kernel_rfl) ?_ _
        refine NoPanic.normal ?_
        have HE := hide (show NetP (Ex D w (w9.setCell ⟨cb, 0, none⟩ (.slice a2 (n + 1) c2))) (w9.setCell ⟨cb, 0, none⟩ (.slice a2 (n + 1) c2)) cb R ∧ Kp D w (w9.setCell ⟨cb, 0, none⟩ (.slice a2 (n + 1) c2)) from ⟨⟨_, HMS.out, HN9.out.mono (fun q h => h.elim .inl fun h' => .inr ⟨h'.1, by simpa [World.setCell] using h'.2⟩) (fun q h => h.elim (fun h' => HN9.out.1.2.2 q (.inl h')) fun h' => h'.2)⟩, ⟨HK9.out.os, HK9.out.tape, HK9.out.output, HK9.out.size, HK9.out.block⟩⟩)
        generalize w9.setCell ⟨cb, 0, none⟩ (.slice a2 (n + 1) c2) = w10 at HE ⊢
        clear hrun9 hc9 hf9 hs2 hs3 hs4 hd0 hd1 hd2 hd3
        go_wp2
        go_ret
        exact ⟨rfl, HE.out.1, HE.out.2⟩
end Go.Proofs.Ytmjglgdihlomlaa
