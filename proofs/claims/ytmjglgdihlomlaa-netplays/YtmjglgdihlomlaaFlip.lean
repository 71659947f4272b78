/- (*net.Net).Flip. -/
import Derived.Test.YtmjglgdihlomlaaDup
namespace Go.Proofs.Ytmjglgdihlomlaa
open Go.RowKit Go.ChangeShapes Go.WideShapes Go.ChangeAt Go.Deep

/-- Bit d of bytes is turned. -/
def flipL (bs : List Nat) (d : Nat) : List Nat := bs.set (d / 8) (bs.getD (d / 8) 0 ^^^ 2 ^ (d % 8))
def flipP (x : Pc) (d : Nat) : Pc := (x.1, x.2.1, flipL x.2.2 d)
theorem pow_lt {r : Nat} (h : r < 8) : 2 ^ r < 256 := by
  have : 2 ^ r ≤ 2 ^ 7 := Nat.pow_le_pow_right (by omega) (by omega)
  omega
theorem flip_lt {x r : Nat} (h : x < 256) (hr : r < 8) : x ^^^ 2 ^ r < 256 := Nat.xor_lt_two_pow (n := 8) h (pow_lt hr)
theorem flip_byt {bs : List Nat} (h : Byt bs) (d : Nat) (hd : d / 8 < bs.length) : Byt (flipL bs d) := by
  intro z hz
  rcases List.mem_or_eq_of_mem_set hz with h1 | h1
  · exact h z h1
  · subst h1
    refine flip_lt ?_ (Nat.mod_lt _ (by omega))
    simp only [List.getD, List.getElem?_eq_getElem hd, Option.getD_some]
    exact h _ (List.getElem_mem _)

/-- The k-th parcel of a row of one's own is stored anew. -/
theorem row_set {D : Nat → Prop} {w : World} {g off n c k : Nat} {l : List Pm} (h : RowO D w (some ⟨g, off, none⟩) n c l) (hk : k < n) (x : Pm) (hx : x.ok D w) (hxg : ∀ ad, x.a = some ad → ad.block ≠ g) :
    RowO D (put3 w g (off + k * 3) (.int .i64 x.p.1) (.int .i64 x.p.2.1) (.slice x.a x.n x.c)) (some ⟨g, off, none⟩) n c (l.set k x) := by
  have hl := h.1.1
  have hnc := h.1.2.1
  obtain ⟨hroom, hap⟩ := h.room
  have hfz : ∀ y, (put3 w g (off + k * 3) (.int .i64 x.p.1) (.int .i64 x.p.2.1) (.slice x.a x.n x.c)).frozen? y = w.frozen? y := fun y => by
    unfold put3
    rw [World.frozen?_setCell, World.frozen?_setCell, World.frozen?_setCell]
  have hout : ∀ j, j < k * 3 ∨ k * 3 + 3 ≤ j → (put3 w g (off + k * 3) (.int .i64 x.p.1) (.int .i64 x.p.2.1) (.slice x.a x.n x.c)).cell? ⟨g, off + j, none⟩ = w.cell? ⟨g, off + j, none⟩ := fun j hj => by
    unfold put3
    rw [World.cell?_setCell_other _ _ _ _ (by intro e; simp only [Addr.mk.injEq] at e; omega), World.cell?_setCell_other _ _ _ _ (by intro e; simp only [Addr.mk.injEq] at e; omega), World.cell?_setCell_other _ _ _ _ (by intro e; simp only [Addr.mk.injEq] at e; omega)]
  have hin : ∀ i, i < 3 → ∃ v, w.cell? ⟨g, off + k * 3 + i, none⟩ = some v := fun i hi => by
    have := (hroom (k * 3 + i) (by omega)).1
    rw [← Nat.add_assoc] at this
    exact Option.isSome_iff_exists.1 this
  obtain ⟨v0, h0⟩ := hin 0 (by omega)
  obtain ⟨v1, h1⟩ := hin 1 (by omega)
  obtain ⟨v2, h2⟩ := hin 2 (by omega)
  rw [Nat.add_zero] at h0
  have n0 : (put3 w g (off + k * 3) (.int .i64 x.p.1) (.int .i64 x.p.2.1) (.slice x.a x.n x.c)).cell? ⟨g, off + k * 3, none⟩ = some (.int .i64 x.p.1) := by
    unfold put3
    rw [World.cell?_setCell_other _ _ _ _ (by intro e; simp only [Addr.mk.injEq] at e; omega), World.cell?_setCell_other _ _ _ _ (by intro e; simp only [Addr.mk.injEq] at e; omega), World.cell?_setCell_same _ _ _ h0]
  have n1 : (put3 w g (off + k * 3) (.int .i64 x.p.1) (.int .i64 x.p.2.1) (.slice x.a x.n x.c)).cell? ⟨g, off + k * 3 + 1, none⟩ = some (.int .i64 x.p.2.1) := by
    unfold put3
    rw [World.cell?_setCell_other _ _ _ _ (by intro e; simp only [Addr.mk.injEq] at e; omega), World.cell?_setCell_same _ _ _ (u := v1) (by rw [World.cell?_setCell_other _ _ _ _ (by intro e; simp only [Addr.mk.injEq] at e; omega)]; exact h1)]
  have n2 : (put3 w g (off + k * 3) (.int .i64 x.p.1) (.int .i64 x.p.2.1) (.slice x.a x.n x.c)).cell? ⟨g, off + k * 3 + 2, none⟩ = some (.slice x.a x.n x.c) := by
    unfold put3
    rw [World.cell?_setCell_same _ _ _ (u := v2) (by rw [World.cell?_setCell_other _ _ _ _ (by intro e; simp only [Addr.mk.injEq] at e; omega), World.cell?_setCell_other _ _ _ _ (by intro e; simp only [Addr.mk.injEq] at e; omega)]; exact h2)]
  refine h.turn (fun q hq _ => put3_keep hq _ _ _) (fun j hj => ⟨?_, ?_⟩) (by rw [List.length_set]; exact hl) hnc.1 ?_ (fun y hy => ?_)
  · by_cases hj2 : j < k * 3 ∨ k * 3 + 3 ≤ j
    · rw [hout j hj2]; exact (hroom j hj).1
    · have : j = k * 3 ∨ j = k * 3 + 1 ∨ j = k * 3 + 2 := by omega
      rcases this with rfl | rfl | rfl
      · rw [n0]; rfl
      · rw [← Nat.add_assoc, n1]; rfl
      · rw [← Nat.add_assoc, n2]; rfl
  · rw [hfz]; exact (hroom j hj).2
  · refine cV_of (f := fun j => (put3 w g (off + k * 3) (.int .i64 x.p.1) (.int .i64 x.p.2.1) (.slice x.a x.n x.c)).cell? ⟨g, off + j, none⟩) (fun i hi => ?_)
    rw [List.length_set] at hi
    by_cases e : k = i
    · subst e
      simp only [List.getElem_set_self]
      rw [Nat.mul_comm 3 k, ← Nat.add_assoc, ← Nat.add_assoc]
      exact ⟨n0, n1, n2⟩
    · simp only [List.getElem_set_ne e]
      obtain ⟨c0, c1, c2⟩ := cV_at l i (by omega)
      rw [hout _ (by omega), hout _ (by omega), hout _ (by omega)]
      exact ⟨h.cells _ _ c0, h.cells _ _ c1, h.cells _ _ c2⟩
  · rcases List.mem_or_eq_of_mem_set hy with h1 | h1
    · exact ⟨h.1.2.2.2.2.2 y h1, hap y h1⟩
    · subst h1; exact ⟨hx, hxg⟩
/-- The net with its k-th parcel stored anew. -/
theorem net_set {D : Nat → Prop} {w : World} {cb g off n c k : Nat} {l : List Pm} (hc : D cb ∧ w.frozen? ⟨cb, 0, none⟩ = false ∧ ∀ k, D k → k < w.heap.size) (hcell : w.cell? ⟨cb, 0, none⟩ = some (.slice (some ⟨g, off, none⟩) n c)) (h : RowO D w (some ⟨g, off, none⟩) n c l) (hne : g ≠ cb) (hxs : ∀ x ∈ l, ∀ ad, x.a = some ad → ad.block ≠ cb) (hk : k < n) (x : Pm) (hx : x.ok D w) (hxg : ∀ ad, x.a = some ad → ad.block ≠ g ∧ ad.block ≠ cb) :
    NetM D (put3 w g (off + k * 3) (.int .i64 x.p.1) (.int .i64 x.p.2.1) (.slice x.a x.n x.c)) cb (l.set k x) ∧ Kp D w (put3 w g (off + k * 3) (.int .i64 x.p.1) (.int .i64 x.p.2.1) (.slice x.a x.n x.c)) := by
  have hb := put3_keep (w := w) (o := off + k * 3) (fun e => hne (Eq.symm e)) (.int .i64 x.p.1) (.int .i64 x.p.2.1) (.slice x.a x.n x.c) (k := cb)
  have hDg : D g := h.1.2.2.2.2.1 _ rfl
  refine ⟨⟨⟨hc.1, by rw [World.frozen?_of_block (w := w) (a := ⟨cb, 0, none⟩) hb]; exact hc.2.1, fun q hq => by rw [put3_size]; exact hc.2.2 q hq⟩, _, _, _, by rw [World.cell?_of_block (w := w) (a := ⟨cb, 0, none⟩) hb]; exact hcell, row_set h hk x hx (fun ad e => (hxg ad e).1), fun ad e => by cases e; exact hne, fun y hy ad e => ?_⟩, (((Kp.refl D w).put (.inl hDg) _).put (.inl hDg) _).put (.inl hDg) _⟩
  rcases List.mem_or_eq_of_mem_set hy with h1 | h1
  · exact hxs y h1 ad e
  · subst h1; exact (hxg ad e).2

set_option maxRecDepth 100000 in
set_option maxHeartbeats 1000000 in
theorem flip_no (D : Nat → Prop) (w : World) (cb : Nat) (L : List Pc) (k d : Int) (hN : NetP D w cb L) (hk : hasB L.length k = false) :
    Calls Try.prog 18 #[.pointer (some ⟨cb, 0, none⟩), .int .i64 k, .int .i64 d] w fun e w' => e = .returned (.bool false) ∧ w' = w := by
  obtain ⟨l, hl, hM⟩ := hN
  obtain ⟨a, n, c, hcell, hn⟩ := hM.head
  have hkn : hasB n k = false := by rw [← hn, ← hk, ← hl, List.length_map]
  have C25 := hide (has_any cb a n c k w hcell)
  rw [hkn] at C25
  clear hM hkn hk hn hl
  go_enter Try.func18, Try.ntmps18
  go_wp2_with (go_at_call 25; go_must ((with_reducible refine C25.out.mono ?_); rintro e w1 ⟨rfl, rfl⟩))
  go_ret
  exact ⟨rfl, rfl⟩
set_option maxRecDepth 100000 in
set_option maxHeartbeats 1000000 in
theorem flip_neg (D : Nat → Prop) (w : World) (cb : Nat) (L : List Pc) (k d : Int) (hN : NetP D w cb L) (hd : d < 0) :
    Calls Try.prog 18 #[.pointer (some ⟨cb, 0, none⟩), .int .i64 k, .int .i64 d] w fun e w' => e = .returned (.bool false) ∧ w' = w := by
  by_cases hk : hasB L.length k = false
  · exact flip_no D w cb L k d hN hk
  · obtain ⟨l, hl, hM⟩ := hN
    obtain ⟨a, n, c, hcell, hn⟩ := hM.head
    have hkn : hasB n k = true := by rw [← hn, ← List.length_map (f := Pm.p), hl]; simpa using hk
    have C25 := hide (has_any cb a n c k w hcell)
    rw [hkn] at C25
    clear hM hkn hk hn hl
    go_enter Try.func18, Try.ntmps18
    go_wp2_with (go_at_call 25; go_must ((with_reducible refine C25.out.mono ?_); rintro e w1 ⟨rfl, rfl⟩))
    go_ret
    exact ⟨rfl, rfl⟩
set_option maxRecDepth 100000 in
set_option maxHeartbeats 1000000 in
theorem flip_far (D : Nat → Prop) (w : World) (cb : Nat) (L : List Pc) (k d : Nat) (hN : NetP D w cb L) (hk : k < L.length) (hd : L[k].2.2.length ≤ d / 8) (hd2 : d ≤ 9223372036854775807) :
    Calls Try.prog 18 #[.pointer (some ⟨cb, 0, none⟩), .int .i64 (k : Int), .int .i64 (d : Int)] w fun e w' => e = .returned (.bool false) ∧ w' = w := by
  obtain ⟨l, rfl, hM⟩ := hN
  have hkl : k < l.length := by simpa using hk
  obtain ⟨_, a, n, c, hcell, hro, _⟩ := hM
  have hn := hro.1.1
  obtain ⟨g, off, har, y0, y1, y2⟩ := hro.1.at hkl
  subst har
  have hxn := (hro.1.2.2.2.2.2 l[k] (List.getElem_mem _)).1
  rw [List.getElem_map, hxn] at hd
  have C25 := hide (has_any cb (some ⟨g, off, none⟩) n c (k : Int) w hcell)
  rw [show hasB n (k : Int) = true by simp [hasB]; omega] at C25
  have hkn : k < n := by omega
  generalize l[k].n = xn at y2 hd
  generalize l[k].a = xa at y2
  generalize l[k].c = xc at y2
  have hd3 : (xn : Int) ≤ (d : Int) / 8 := by omega
  clear hro hn hkl hk y0 y1 hxn
  go_enter Try.func18, Try.ntmps18
  go_wp2_with (go_at_call 25; go_must ((with_reducible refine C25.out.mono ?_); rintro e w1 ⟨rfl, rfl⟩))
  go_ret
  exact ⟨rfl, rfl⟩

theorem own_set {w : World} {B g n cap : Nat} {zs : List Nat} (ho : w.ownsRow B 5 1 (.slice (some ⟨g, 0, none⟩) n cap) n (bV zs)) (j y : Nat) :
    (w.setCell ⟨g, j, none⟩ (.int .u8 (y : Nat))).ownsRow B 5 1 (.slice (some ⟨g, 0, none⟩) n cap) n (bV (zs.set j y)) := by
  have h := ho.stored j (.int .u8 (y : Nat))
  have e : (bV zs).set j (.int .u8 (y : Nat)) = bV (zs.set j y) := by simp [bV, List.map_set]
  rw [← e]; exact h.1
theorem shl_wrap (r : Nat) (hr : r < 8) : IntKind.u8.wrap ((2 : Int) ^ r) = ((2 ^ r : Nat) : Int) := by
  rcases (by omega : r = 0 ∨ r = 1 ∨ r = 2 ∨ r = 3 ∨ r = 4 ∨ r = 5 ∨ r = 6 ∨ r = 7) with rfl | rfl | rfl | rfl | rfl | rfl | rfl | rfl <;> kernel_rfl
theorem map_set (l : List Pm) (k : Nat) (x : Pm) : (l.set k x).map Pm.p = (l.map Pm.p).set k x.p := by simp
set_option linter.unusedSimpArgs false in
set_option maxRecDepth 100000 in
set_option maxHeartbeats 4000000 in
theorem flip_yes (D : Nat → Prop) (w : World) (cb : Nat) (L : List Pc) (k d : Nat) (hN : NetP D w cb L) (hk : k < L.length) (hd : d / 8 < L[k].2.2.length) (hb : L[k].2.2.length ≤ 1000000) :
    Calls Try.prog 18 #[.pointer (some ⟨cb, 0, none⟩), .int .i64 (k : Int), .int .i64 (d : Int)] w fun e w' => e = .returned (.bool true) ∧ NetP (Ex D w w') w' cb (L.set k (flipP L[k] d)) ∧ Kp D w w' := by
  obtain ⟨l, rfl, hM⟩ := hN
  have hkl : k < l.length := by simpa using hk
  have HNM := hide hM
  obtain ⟨hcc, a, n, c, hcell, hro, hne, hxs⟩ := hM
  have hn := hro.1.1
  obtain ⟨g, off, har, y0, y1, y2⟩ := hro.1.at hkl
  subst har
  have hok := hro.1.2.2.2.2.2 l[k] (List.getElem_mem _)
  have HSet := hide (fun x => map_set l k x)
  rw [List.getElem_map] at hd hb ⊢
  have C25 := hide (has_any cb (some ⟨g, off, none⟩) n c (k : Int) w hcell)
  rw [show hasB n (k : Int) = true by simp [hasB]; omega] at C25
  have hkn : k < n := by omega
  have hki : (k : Int) < (n : Int) := by omega
  obtain ⟨⟨⟨f, t, bs⟩, xa, xn, xc⟩, hx⟩ : ∃ x, x = l[k] := ⟨_, rfl⟩
  rw [← hx] at y0 y1 y2 hok hd hb ⊢
  simp only at y0 y1 y2 hd hb
  have hxn : bs.length = xn := hok.1
  have CK := hide (copy_any (f, t, bs) xa xn xc w hok.1 hok.2.2.2.2.1 hok.2.2.2.1 (by have h1 := hok.1; simp only at h1; omega))
  have HBy := hide (show Byt bs from hok.2.1)
  have hd3 : (d : Int) / 8 < (xn : Int) := by omega
  have HXN := hide hxn
  have hxn2 : xn ≤ 1000000 := by omega
  clear hx hok hn hkl hk hd hb hxn hro hcc hne hxs
  have hdn : d / 8 < xn := by omega
  obtain ⟨R, hR⟩ : ∃ R, R = (l.map Pm.p).set k (flipP (f, t, bs) d) := ⟨_, rfl⟩
  rw [← hR]
  have HRE := hide hR.symm
  clear hR
  go_enter Try.func18, Try.ntmps18
  go_upto_region 4 with (first
    | (go_at_call 25; go_must ((with_reducible refine C25.out.mono ?_); rintro e w0 ⟨rfl, hw0⟩; have hw0' : w = w0 := hw0.symm; subst hw0'))
    | (go_at_call 23; go_must ((with_reducible refine CK.out.mono ?_); rintro e w1 ⟨a1, n1, c1, rfl, ho1, hb1⟩)))
  obtain ⟨rfl, hok1, hfr1⟩ := pm_new (x := (f, t, bs)) ho1 HBy.out
  have hl1 : bs.length = xn := HXN.out
  simp only [hl1] at ho1 hok1
  have hbx := BoxL.new w1 [.int .i64 f, .int .i64 t, .slice a1 xn c1] 37
  have hb2 := below_new w1 (.cells #[.int .i64 f, .int .i64 t, .slice a1 xn c1] 37)
  have ho2 := own_below ho1 hb2
  simp only [hl1]
  have hVsz : (w1.alloc (.cells #[.int .i64 f, .int .i64 t, .slice a1 xn c1] 37)).heap.size = w1.heap.size + 1 := by simp
  generalize w1.alloc (.cells #[.int .i64 f, .int .i64 t, .slice a1 xn c1] 37) = V at hbx hb2 ho2 hVsz ⊢
  obtain ⟨a1', c1', e1, _, hq1⟩ := own_form ho2
  simp only [Value.slice.injEq] at e1
  obtain ⟨rfl, _, rfl⟩ := e1
  obtain ⟨q, rfl, hq2, hq3⟩ := hq1 (by omega)
  obtain ⟨j, hj⟩ : ∃ j, j = d / 8 := ⟨_, rfl⟩
  obtain ⟨r, hr⟩ : ∃ r, r = d % 8 := ⟨_, rfl⟩
  have hjx : j < xn := by omega
  have hr8 : r < 8 := by omega
  have tq : (d : Int).tdiv 8 = (j : Int) := by rw [hj]; simp [Int.tdiv_eq_ediv_of_nonneg]
  have tr : (d : Int).tmod 8 = (r : Int) := by rw [hr]; simp [Int.tmod_eq_emod_of_nonneg]
  have HJ := hide hj
  have HRr := hide hr
  clear hj hr
  have hjl : j < bs.length := by omega
  have hxc : V.cell? ⟨q, j, none⟩ = some (.int .u8 (bs[j] : Nat)) := by rw [ho2.cellAt j (by omega)]; simp [bV, hjl]
  have hx256 : bs[j] < 256 := HBy.out _ (List.getElem_mem _)
  have HFL := hide (show flipL bs d = bs.set j (bs[j] ^^^ 2 ^ r) by unfold flipL; rw [← HJ.out, ← HRr.out]; simp [List.getD, hjl])
  obtain ⟨x, hxe⟩ : ∃ x, x = bs[j] := ⟨_, rfl⟩
  rw [← hxe] at hxc hx256 HFL
  clear hxe
  have ks := shl_wrap r hr8
  have kj : IntKind.i64.wrap (j : Int) = (j : Int) := wrapi (by omega)
  have kx : bits .xor .u8 (x : Int) ((2 ^ r : Nat) : Int) = ((x ^^^ 2 ^ r : Nat) : Int) := u8_xor_nat x (2 ^ r) hx256 (pow_lt hr8)
  have hy256 := flip_lt hx256 hr8
  have ho3 := own_set ho2 j (x ^^^ 2 ^ r)
  generalize hpr : (2 ^ r : Nat) = pr at ks kx hy256 HFL ho3
  clear hpr
  generalize x ^^^ pr = y at kx hy256 HFL ho3
  have hxf : V.frozen? ⟨q, j, none⟩ = false := ho2.frozenAt j
  obtain ⟨z0, z1, z2⟩ := hbx.c3
  have hz2 : V.drew.cell? ⟨w1.heap.size, 2, none⟩ = some (.slice (some ⟨q, 0, none⟩) xn c1) := z2
  have hxc' : V.drew.cell? ⟨q, j, none⟩ = some (.int .u8 (x : Nat)) := hxc
  have hxf' : V.drew.frozen? ⟨q, j, none⟩ = false := hxf
  have hbV : Below w.heap.size w V := hb1.trans (hb2.mono hb1.size)
  have hNX : NetM D (V.setCell ⟨q, j, none⟩ (.int .u8 (y : Nat))) cb l := (HNM.out.below hbV).keep (by simp [World.setCell]) (fun i h1 _ => Below.heap_setCell _ _ _ _ (by show i ≠ q; have := HNM.out.1.2.2 i h1; omega))
  have hbX := (Kp.of_below (D := D) hbV).put (g := q) (o := j) (.inr hq2) (.int .u8 (y : Nat))
  have hBX : BoxL (V.setCell ⟨q, j, none⟩ (.int .u8 (y : Nat))) w1.heap.size [.int .i64 f, .int .i64 t, .slice (some ⟨q, 0, none⟩) xn c1] := by
    refine hbx.keep (by simp [World.setCell]) (Below.heap_setCell _ _ _ _ ?_)
    show w1.heap.size ≠ q
    have h1 := hok1.2.2.2.2.2 ⟨q, 0, none⟩ rfl
    exact fun e => by have h2 : q < w1.heap.size := h1.2; omega
  have hVs : V.heap.size = w1.heap.size + 1 := hVsz
  generalize hXe : V.setCell ⟨q, j, none⟩ (.int .u8 (y : Nat)) = X at hNX hbX hBX ho3
  obtain ⟨-, hokX, -⟩ := pm_new (x := (f, t, flipL bs d)) (W := w) (w1 := X) (a1 := some ⟨q, 0, none⟩) (n1 := xn) (c1 := c1) (by rw [HFL.out]; simp only [List.length_set, hl1]; exact ho3) (by
    rw [HFL.out]
    intro z hz
    rcases List.mem_or_eq_of_mem_set hz with h1 | h1
    · exact HBy.out z h1
    · omega)
  have hNX2 : NetM (Ex D w X) X cb l := hNX.mono (fun i hi => .inl hi) (fun i hi => hi.elim (hNX.1.2.2 i) fun h' => h'.2)
  obtain ⟨hcc, aX, nX, cX, hcellX, hroX, hneX, hxsX⟩ := hNX2
  have hcellW : X.cell? ⟨cb, 0, none⟩ = some (.slice (some ⟨g, off, none⟩) n c) := by
    rw [World.cell?_of_block (w := w) (a := ⟨cb, 0, none⟩) (by rw [← hXe, Below.heap_setCell _ _ _ _ (by show cb ≠ q; have := HNM.out.1.2.2 cb HNM.out.1.1; omega)]; exact hbV.block cb (HNM.out.1.2.2 cb HNM.out.1.1))]
    exact hcell
  rw [hcellW] at hcellX
  simp only [Option.some.injEq, Value.slice.injEq] at hcellX
  obtain ⟨rfl, rfl, rfl⟩ := hcellX
  have hgD := hroX.1.2.2.2.2.1 _ rfl
  obtain ⟨hroomX, _⟩ := hroX.room
  have hncX := hroX.1.2.1
  have hgold : g < w.heap.size := cell_some_lt y0
  have HE := hide (net_set hcc hcellW hroX (hneX _ rfl) hxsX hkn ⟨(f, t, flipL bs d), some ⟨q, 0, none⟩, xn, c1⟩ (hokX.mono fun i hi => .inr hi) (fun ad e => by cases e; exact ⟨fun e => by simp only at e; omega, fun e => by have := HNM.out.1.2.2 cb HNM.out.1.1; simp only at e; omega⟩))
  have HMS := hide (show (l.set k ⟨(f, t, flipL bs d), some ⟨q, 0, none⟩, xn, c1⟩).map Pm.p = R by rw [HSet.out]; exact HRE.out)
  have HBX := hide hbX
  obtain ⟨p0, p0'⟩ := hroomX (k * 3) (by omega)
  obtain ⟨p1, p1'⟩ := hroomX (k * 3 + 1) (by omega)
  obtain ⟨p2, p2'⟩ := hroomX (k * 3 + 2) (by omega)
  rw [← Nat.add_assoc] at p1 p1' p2 p2'
  obtain ⟨o0, p0⟩ := Option.isSome_iff_exists.1 p0
  obtain ⟨o1, p1⟩ := Option.isSome_iff_exists.1 p1
  obtain ⟨o2, p2⟩ := Option.isSome_iff_exists.1 p2
  obtain ⟨b0, b1, b2⟩ := hBX.c3
  have d0 : X.drew.drew.cell? ⟨cb, 0, none⟩ = some (.slice (some ⟨g, off, none⟩) n c) := hcellW
  have d1 : X.drew.drew.cell? ⟨w1.heap.size, 0, none⟩ = some (.int .i64 f) := b0
  have d2 : X.drew.drew.cell? ⟨w1.heap.size, 1, none⟩ = some (.int .i64 t) := b1
  have d3 : X.drew.drew.cell? ⟨w1.heap.size, 2, none⟩ = some (.slice (some ⟨q, 0, none⟩) xn c1) := b2
  have hXE := hide hXe
  clear hXe hNX hbX hBX hcc hroX hneX hxsX hroomX hncX hokX ho3 hbV hgD y0 y1 y2 hok1 hfr1 ho1 ho2
  refine wp_region_noPanic ?_
  refine wp_region_held_drew (S := fun _ => True) (by kernel_rfl) trivial (fun _ => ?_)
  refine takeD (i := 0) (d := some 38) (v := ?_) rfl rfl (by kernel_rfl) (by kernel_rfl) (by kernel_rfl) (fun _ _ _ h => h) (Or.inl ⟨by rfl, ?_⟩) trivial ?_
  rotate_left
  · intro w hSw
    go_simp
    try (with_reducible rfl)
  try simp only [Act.put, List.setIfInBounds_toArray, List.set_cons_zero, List.set_cons_succ]
  refine takeD (i := 2) (d := some 40) (v := ?_) rfl rfl (by kernel_rfl) (by kernel_rfl) (by kernel_rfl) (fun _ _ _ h => h) (Or.inl ⟨by rfl, ?_⟩) trivial ?_
  rotate_left
  · intro w hSw
    go_simp
    try (with_reducible rfl)
  try simp only [Act.put, List.setIfInBounds_toArray, List.set_cons_zero, List.set_cons_succ]
  refine takeD (i := 3) (d := some 41) (v := ?_) rfl rfl (by kernel_rfl) (by kernel_rfl) (by kernel_rfl) (fun _ _ _ h => h) (Or.inl ⟨by rfl, ?_⟩) trivial ?_
  rotate_left
  · intro w hSw
    go_simp
    try (with_reducible rfl)
  try simp only [Act.put, List.setIfInBounds_toArray, List.set_cons_zero, List.set_cons_succ]
  refine takeD (i := 6) (d := some 44) (v := ?_) rfl rfl (by kernel_rfl) (by kernel_rfl) (by kernel_rfl) (fun _ _ _ h => h) (Or.inl ⟨by rfl, ?_⟩) trivial ?_
  rotate_left
  · intro w hSw
    go_simp
    try (with_reducible rfl)
  try simp only [Act.put, List.setIfInBounds_toArray, List.set_cons_zero, List.set_cons_succ]
  refine takeD (i := 7) (d := some 45) (v := ?_) rfl rfl (by kernel_rfl) (by kernel_rfl) (by kernel_rfl) (fun _ _ _ h => h) (Or.inl ⟨by rfl, ?_⟩) trivial ?_
  rotate_left
  · intro w hSw
    go_simp
    try (with_reducible rfl)
  try simp only [Act.put, List.setIfInBounds_toArray, List.set_cons_zero, List.set_cons_succ]
  refine takeD (i := 8) (d := some 46) (v := ?_) rfl rfl (by kernel_rfl) (by kernel_rfl) (by kernel_rfl) (fun _ _ _ h => h) (Or.inl ⟨by rfl, ?_⟩) trivial ?_
  rotate_left
  · intro w hSw
    go_simp
    try (with_reducible rfl)
  try simp only [Act.put, List.setIfInBounds_toArray, List.set_cons_zero, List.set_cons_succ]
  refine wpAnyH_ready (rs := [1]) (by kernel_rfl) (by simp) ?_
  refine AllReadyH.cons rfl (fun K hK => ?_) AllReadyH.nil
  go_simp
  go_wp2_with fail
  refine hK.out _ _ trivial (fun _ => ?_)
  clear hK K
  try simp only [Act.put, List.setIfInBounds_toArray, List.set_cons_zero, List.set_cons_succ]
  refine takeD (i := 4) (d := some 42) (v := ?_) rfl rfl (by kernel_rfl) (by kernel_rfl) (by kernel_rfl) (fun _ _ _ h => h) (Or.inl ⟨by rfl, ?_⟩) trivial ?_
  rotate_left
  · intro w hSw
    go_simp
    try (with_reducible rfl)
  try simp only [Act.put, List.setIfInBounds_toArray, List.set_cons_zero, List.set_cons_succ]
  refine wpAnyH_ready (rs := [5]) (by kernel_rfl) (by simp) ?_
  refine AllReadyH.cons rfl (fun K hK => ?_) AllReadyH.nil
  go_simp
  go_wp2_with fail
  refine hK.out _ _ trivial (fun _ => ?_)
  clear hK K
  try simp only [Act.put, List.setIfInBounds_toArray, List.set_cons_zero, List.set_cons_succ]
  refine takeD (i := 9) (d := some 47) (v := ?_) rfl rfl (by kernel_rfl) (by kernel_rfl) (by kernel_rfl) (fun _ _ _ h => h) (Or.inl ⟨by rfl, ?_⟩) trivial ?_
  rotate_left
  · intro w hSw
    go_simp
    try (with_reducible rfl)
  try simp only [Act.put, List.setIfInBounds_toArray, List.set_cons_zero, List.set_cons_succ]
  refine takeD (i := 10) (d := some 48) (v := ?_) rfl rfl (by kernel_rfl) (by kernel_rfl) (by kernel_rfl) (fun _ _ _ h => h) (Or.inl ⟨by rfl, ?_⟩) trivial ?_
  rotate_left
  · intro w hSw
    go_simp
    try (with_reducible rfl)
  try simp only [Act.put, List.setIfInBounds_toArray, List.set_cons_zero, List.set_cons_succ]
  refine wpAnyH_ready (rs := [11]) (by kernel_rfl) (by simp) ?_
  refine AllReadyH.cons rfl (fun K hK => ?_) AllReadyH.nil
  go_simp
  go_wp2_with fail
  refine hK.out _ _ trivial (fun _ => ?_)
  clear hK K
  try simp only [Act.put, List.setIfInBounds_toArray, List.set_cons_zero, List.set_cons_succ]
  refine wpAnyH_done (by kernel_rfl) ?_ _
  refine NoPanic.normal ?_
  go_wp2_with fail
  rw [hXE.out]
  refine wp_region_noPanic ?_
  refine wp_region_held_drew (S := fun _ => True) (by kernel_rfl) trivial (fun _ => ?_)
  refine takeD (i := 0) (d := some 49) (v := ?_) rfl rfl (by kernel_rfl) (by kernel_rfl) (by kernel_rfl) (fun _ _ _ h => h) (Or.inl ⟨by rfl, ?_⟩) trivial ?_
  rotate_left
  · intro w hSw
    go_simp
    try (with_reducible rfl)
  try simp only [Act.put, List.setIfInBounds_toArray, List.set_cons_zero, List.set_cons_succ]
  refine takeD (i := 1) (d := some 50) (v := ?_) rfl rfl (by kernel_rfl) (by kernel_rfl) (by kernel_rfl) (fun _ _ _ h => h) (Or.inl ⟨by rfl, ?_⟩) trivial ?_
  rotate_left
  · intro w hSw
    go_simp
    try (with_reducible rfl)
  try simp only [Act.put, List.setIfInBounds_toArray, List.set_cons_zero, List.set_cons_succ]
  refine takeD (i := 2) (d := some 51) (v := ?_) rfl rfl (by kernel_rfl) (by kernel_rfl) (by kernel_rfl) (fun _ _ _ h => h) (Or.inl ⟨by rfl, ?_⟩) trivial ?_
  rotate_left
  · intro w hSw
    go_simp
    try (with_reducible rfl)
  try simp only [Act.put, List.setIfInBounds_toArray, List.set_cons_zero, List.set_cons_succ]
  refine takeD (i := 4) (d := some 53) (v := ?_) rfl rfl (by kernel_rfl) (by kernel_rfl) (by kernel_rfl) (fun _ _ _ h => h) (Or.inl ⟨by rfl, ?_⟩) trivial ?_
  rotate_left
  · intro w hSw
    go_simp
    try (with_reducible rfl)
  try simp only [Act.put, List.setIfInBounds_toArray, List.set_cons_zero, List.set_cons_succ]
  refine wpAnyH_ready (rs := [3, 5]) (by kernel_rfl) (by simp) ?_
  refine AllReadyH.cons rfl (fun K hK => ?_) (AllReadyH.cons rfl (fun K hK => ?_) AllReadyH.nil)
  · go_simp
    go_wp2_with fail
    refine hK.out _ _ trivial (fun _ => ?_)
    clear hK K
    try simp only [Act.put, List.setIfInBounds_toArray, List.set_cons_zero, List.set_cons_succ]
    refine wpAnyH_ready (rs := [5]) (by kernel_rfl) (by simp) ?_
    refine AllReadyH.cons rfl (fun K hK => ?_) AllReadyH.nil
    go_simp
    go_wp2_with fail
    refine hK.out _ _ trivial (fun _ => ?_)
    clear hK K
    try simp only [Act.put, List.setIfInBounds_toArray, List.set_cons_zero, List.set_cons_succ]
    refine takeD (i := 6) (d := some 55) (v := ?_) rfl rfl (by kernel_rfl) (by kernel_rfl) (by kernel_rfl) (fun _ _ _ h => h) (Or.inl ⟨by rfl, ?_⟩) trivial ?_
    rotate_left
    · intro w hSw
      go_simp
      try (with_reducible rfl)
    try simp only [Act.put, List.setIfInBounds_toArray, List.set_cons_zero, List.set_cons_succ]
    refine wpAnyH_ready (rs := [7]) (by kernel_rfl) (by simp) ?_
    refine AllReadyH.cons rfl (fun K hK => ?_) AllReadyH.nil
    go_simp
    go_wp2_with fail
    refine hK.out _ _ trivial (fun _ => ?_)
    clear hK K
    try simp only [Act.put, List.setIfInBounds_toArray, List.set_cons_zero, List.set_cons_succ]
    refine wpAnyH_done (by kernel_rfl) ?_ _
    refine NoPanic.normal ?_
    have HFin := hide (show NetP (Ex D w (put3 X g (off + k * 3) (.int .i64 f) (.int .i64 t) (.slice (some ⟨q, 0, none⟩) xn c1))) (put3 X g (off + k * 3) (.int .i64 f) (.int .i64 t) (.slice (some ⟨q, 0, none⟩) xn c1)) cb R ∧ Kp D w (put3 X g (off + k * 3) (.int .i64 f) (.int .i64 t) (.slice (some ⟨q, 0, none⟩) xn c1)) from ⟨⟨_, HMS.out, HE.out.1.mono (fun i h => h.elim .inl fun h' => .inr ⟨h'.1, by rw [put3_size]; exact h'.2⟩) (fun i h => h.elim (fun h' => HE.out.1.1.2.2 i (.inl h')) fun h' => h'.2)⟩, HBX.out.trans' HE.out.2 (fun i hi => hi.elim .inl fun h => .inr h.1)⟩)
    go_wp2
    go_ret
    exact ⟨rfl, HFin.out.1, HFin.out.2.drew.drew⟩
  · go_simp
    go_wp2_with fail
    refine hK.out _ _ trivial (fun _ => ?_)
    clear hK K
    try simp only [Act.put, List.setIfInBounds_toArray, List.set_cons_zero, List.set_cons_succ]
    refine wpAnyH_ready (rs := [3]) (by kernel_rfl) (by simp) ?_
    refine AllReadyH.cons rfl (fun K hK => ?_) AllReadyH.nil
    go_simp
    go_wp2_with fail
    refine hK.out _ _ trivial (fun _ => ?_)
    clear hK K
    try simp only [Act.put, List.setIfInBounds_toArray, List.set_cons_zero, List.set_cons_succ]
    refine takeD (i := 6) (d := some 55) (v := ?_) rfl rfl (by kernel_rfl) (by kernel_rfl) (by kernel_rfl) (fun _ _ _ h => h) (Or.inl ⟨by rfl, ?_⟩) trivial ?_
    rotate_left
    · intro w hSw
      go_simp
      try (with_reducible rfl)
    try simp only [Act.put, List.setIfInBounds_toArray, List.set_cons_zero, List.set_cons_succ]
    refine wpAnyH_ready (rs := [7]) (by kernel_rfl) (by simp) ?_
    refine AllReadyH.cons rfl (fun K hK => ?_) AllReadyH.nil
    go_simp
    go_wp2_with fail
    refine hK.out _ _ trivial (fun _ => ?_)
    clear hK K
    try simp only [Act.put, List.setIfInBounds_toArray, List.set_cons_zero, List.set_cons_succ]
    refine wpAnyH_done (by kernel_rfl) ?_ _
    refine NoPanic.normal ?_
    have HFin := hide (show NetP (Ex D w (put3 X g (off + k * 3) (.int .i64 f) (.int .i64 t) (.slice (some ⟨q, 0, none⟩) xn c1))) (put3 X g (off + k * 3) (.int .i64 f) (.int .i64 t) (.slice (some ⟨q, 0, none⟩) xn c1)) cb R ∧ Kp D w (put3 X g (off + k * 3) (.int .i64 f) (.int .i64 t) (.slice (some ⟨q, 0, none⟩) xn c1)) from ⟨⟨_, HMS.out, HE.out.1.mono (fun i h => h.elim .inl fun h' => .inr ⟨h'.1, by rw [put3_size]; exact h'.2⟩) (fun i h => h.elim (fun h' => HE.out.1.1.2.2 i (.inl h')) fun h' => h'.2)⟩, HBX.out.trans' HE.out.2 (fun i hi => hi.elim .inl fun h => .inr h.1)⟩)
    go_wp2
    go_ret
    exact ⟨rfl, HFin.out.1, HFin.out.2.drew.drew⟩
end Go.Proofs.Ytmjglgdihlomlaa
