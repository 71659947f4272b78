/- (*gleanerref10.Net).Flip. -/
import Derived.Test.YtmjglgdihlomlaaRDup
namespace Go.Proofs.Ytmjglgdihlomlaa
open Go.RowKit Go.ChangeShapes Go.WideShapes Go.ChangeAt Go.Deep

theorem own_keep {w w' : World} {B n m c : Nat} {a : Option Addr} {xs : List Value} (h : w.ownsRow B 5 1 (.slice a m c) n xs) (hk : ∀ ad, a = some ad → w'.heap[ad.block]? = w.heap[ad.block]?) : w'.ownsRow B 5 1 (.slice a m c) n xs := by
  refine ⟨h.1, ?_⟩
  rcases h.2 with h2 | ⟨g, cap, cur, e, h1, h2, h3⟩
  · exact .inl h2
  · have e' := e
    simp only [Value.slice.injEq] at e
    have h4 := hk _ e.1
    exact .inr ⟨g, cap, cur, e', h1, h4.trans h2, h3⟩
theorem cV_same {l : List Pm} {k : Nat} (hk : k < l.length) {x : Pm} (hx : x.cs = l[k].cs) : cV (l.set k x) = cV l := by
  unfold cV
  rw [List.flatMap_def, List.flatMap_def, List.map_set, hx]
  congr 1
  rw [show l[k].cs = (l.map Pm.cs)[k]'(by simpa using hk) from by simp, List.set_getElem_self]
theorem mem_set_or {l : List Pm} {k : Nat} {X x : Pm} (hx : x ∈ l.set k X) : (∃ i, ∃ hi : i < l.length, i ≠ k ∧ x = l[i]) ∨ x = X := by
  obtain ⟨i, hi, rfl⟩ := List.getElem_of_mem hx
  rw [List.getElem_set]
  by_cases e : k = i
  · exact .inr (by simp [e])
  · exact .inl ⟨i, by simpa using hi, fun e' => e e'.symm, by simp [e]⟩

/-- A byte of one parcel is turned in its place. -/
theorem net_flip {D : Nat → Prop} {w : World} {cb k q j y : Nat} {l : List Pm} (hM : NetM D w cb l) (hE : Exc w l) (hk : k < l.length) (hq : l[k].a = some ⟨q, 0, none⟩) (hy : y < 256) (X : Pm) (hX : X = ⟨(l[k].p.1, l[k].p.2.1, l[k].p.2.2.set j y), l[k].a, l[k].n, l[k].c⟩) :
    NetM D (w.setCell ⟨q, j, none⟩ (.int .u8 (y : Nat))) cb (l.set k X) ∧ Exc (w.setCell ⟨q, j, none⟩ (.int .u8 (y : Nat))) (l.set k X) := by
  obtain ⟨⟨c1, c2, c3⟩, a, n, c, hcell, hro, hne, hxs⟩ := hM
  have hmem : l[k] ∈ l := List.getElem_mem _
  have hown := hE.2 _ hmem
  rw [hq] at hown
  have hown2 := own_set hown j y
  have hkeep : ∀ b, b ≠ q → (w.setCell ⟨q, j, none⟩ (.int .u8 (y : Nat))).heap[b]? = w.heap[b]? := fun b hb => Below.heap_setCell _ _ _ _ hb
  have hsz : (w.setCell ⟨q, j, none⟩ (.int .u8 (y : Nat))).heap.size = w.heap.size := by simp [World.setCell]
  generalize w.setCell ⟨q, j, none⟩ (.int .u8 (y : Nat)) = w' at hown2 hkeep hsz ⊢
  have hp := List.pairwise_iff_getElem.1 hE.1
  have hoth : ∀ i (hi : i < l.length), i ≠ k → ∀ ad, l[i].a = some ad → ad.block ≠ q := fun i hi hik ad e => by
    rcases Nat.lt_or_gt_of_ne hik with h | h
    · exact hp i k hi hk h ad _ e hq
    · exact fun e2 => hp k i hk hi h _ ad hq e e2.symm
  have hcq : cb ≠ q := fun e => hxs _ hmem _ hq e.symm
  have hXa : X.a = l[k].a := by rw [hX]
  have hcs : X.cs = l[k].cs := by rw [hX]; rfl
  have hoks := hro.1.2.2.2.2.2
  have hok0 := hoks _ hmem
  have hok' : ∀ x ∈ l.set k X, x.ok D w' := fun x hx => by
    rcases mem_set_or hx with ⟨i, hi, hik, rfl⟩ | rfl
    · obtain ⟨h1, h2, h3, h4, h5, h6⟩ := hoks _ (List.getElem_mem hi)
      exact ⟨h1, h2, h3, h4, h5.keepN (g := q) (hoth i hi hik) (fun b hb _ => hkeep b hb), h6⟩
    · obtain ⟨h1, h2, h3, h4, h5, h6⟩ := hok0
      subst hX
      refine ⟨by simpa using h1, ?_, h3, h4, ?_, h6⟩
      · intro z hz
        rcases List.mem_or_eq_of_mem_set hz with h | h
        · exact h2 z h
        · omega
      · show Reads w' l[k].a (bV (l[k].p.2.2.set j y))
        rw [hq]
        refine .inr ⟨q, 0, rfl, fun i u hu => ?_⟩
        have := hown2.cells (g := q) rfl i u hu
        rwa [add_none] at this
  have haq : ∀ ad, a = some ad → ad.block ≠ q := fun ad e => by
    obtain ⟨g, off, e1, _, h3⟩ := hro.2 ad e
    rw [e1]
    exact fun e2 => h3 _ hmem _ hq e2.symm
  refine ⟨⟨⟨c1, ?_, fun i hi => by rw [hsz]; exact c3 i hi⟩, a, n, c, ?_, ⟨⟨by rw [List.length_set]; exact hro.1.1, hro.1.2.1, hro.1.2.2.1, ?_, hro.1.2.2.2.2.1, hok'⟩, ?_⟩, hne, ?_⟩, ?_, ?_⟩
  · rw [World.frozen?_of_block (w := w) (a := ⟨cb, 0, none⟩) (hkeep cb hcq)]; exact c2
  · rw [World.cell?_of_block (w := w) (a := ⟨cb, 0, none⟩) (hkeep cb hcq)]; exact hcell
  · rw [cV_same hk hcs]
    exact hro.1.2.2.2.1.keepN (g := q) haq (fun b hb _ => hkeep b hb)
  · intro ad e
    obtain ⟨g, off, e1, h2, h3⟩ := hro.2 ad e
    have hgq : g ≠ q := by have := haq ad e; rw [e1] at this; exact this
    refine ⟨g, off, e1, fun i hi => ?_, fun x hx ad' e' => ?_⟩
    · rw [World.cell?_of_block (w := w) (a := ⟨g, off + i, none⟩) (hkeep g hgq), World.frozen?_of_block (w := w) (a := ⟨g, off + i, none⟩) (hkeep g hgq)]
      exact h2 i hi
    · rcases mem_set_or hx with ⟨i, hi, hik, rfl⟩ | rfl
      · exact h3 _ (List.getElem_mem hi) ad' e'
      · rw [hXa] at e'; exact h3 _ hmem ad' e'
  · intro x hx ad' e'
    rcases mem_set_or hx with ⟨i, hi, hik, rfl⟩ | rfl
    · exact hxs _ (List.getElem_mem hi) ad' e'
    · rw [hXa] at e'; exact hxs _ hmem ad' e'
  · rw [List.pairwise_iff_getElem]
    have ha : ∀ i (hi : i < (l.set k X).length), (l.set k X)[i].a = (l[i]'(by simpa using hi)).a := fun i hi => by
      rw [List.getElem_set]
      split
      · rename_i e; subst e; exact hXa
      · rfl
    intro i i' hi hi' hlt ad ad' e e'
    rw [ha] at e e'
    exact hp i i' _ _ hlt ad ad' e e'
  · intro x hx
    rcases mem_set_or hx with ⟨i, hi, hik, rfl⟩ | rfl
    · exact own_keep (hE.2 _ (List.getElem_mem hi)) fun ad e => hkeep _ (hoth i hi hik ad e)
    · subst hX
      show w'.ownsRow 0 5 1 (.slice l[k].a l[k].n l[k].c) l[k].n (bV (l[k].p.2.2.set j y))
      rw [hq]
      exact hown2

set_option maxRecDepth 100000 in
set_option maxHeartbeats 1000000 in
theorem rflip_no (D : Nat → Prop) (w : World) (cb : Nat) (L : List Pc) (k d : Int) (hN : NetR D w cb L) (hk : hasB L.length k = false) :
    Calls Try.prog 19 #[.pointer (some ⟨cb, 0, none⟩), .int .i64 k, .int .i64 d] w fun e w' => e = .returned (.bool false) ∧ w' = w := by
  obtain ⟨a, n, c, hcell, hn⟩ := hN.head
  rw [hn] at hk
  clear hN hn
  by_cases h0 : k < 0
  · clear hk
    go_enter Try.func19, Try.ntmps19
    go_wp2
    go_ret
    exact ⟨rfl, rfl⟩
  · have h1 : (n : Int) ≤ k := by simp [hasB] at hk; omega
    clear hk
    go_enter Try.func19, Try.ntmps19
    go_wp2
    go_ret
    exact ⟨rfl, rfl⟩
set_option maxRecDepth 100000 in
set_option maxHeartbeats 1000000 in
theorem rflip_neg (D : Nat → Prop) (w : World) (cb : Nat) (L : List Pc) (k d : Int) (hN : NetR D w cb L) (hd : d < 0) :
    Calls Try.prog 19 #[.pointer (some ⟨cb, 0, none⟩), .int .i64 k, .int .i64 d] w fun e w' => e = .returned (.bool false) ∧ w' = w := by
  by_cases hk : hasB L.length k = false
  · exact rflip_no D w cb L k d hN hk
  · obtain ⟨a, n, c, hcell, hn⟩ := hN.head
    rw [hn] at hk
    have h0 : 0 ≤ k := by simp [hasB] at hk; omega
    have h1 : k < (n : Int) := by simp [hasB] at hk; omega
    clear hN hn hk
    go_enter Try.func19, Try.ntmps19
    go_wp2
    go_ret
    exact ⟨rfl, rfl⟩
set_option maxRecDepth 100000 in
set_option maxHeartbeats 1000000 in
theorem rflip_far (D : Nat → Prop) (w : World) (cb : Nat) (L : List Pc) (k d : Nat) (hN : NetR D w cb L) (hk : k < L.length) (hd : L[k].2.2.length ≤ d / 8) (hd2 : d ≤ 9223372036854775807) :
    Calls Try.prog 19 #[.pointer (some ⟨cb, 0, none⟩), .int .i64 (k : Int), .int .i64 (d : Int)] w fun e w' => e = .returned (.bool false) ∧ w' = w := by
  obtain ⟨l, rfl, hM, -⟩ := hN
  have hkl : k < l.length := by simpa using hk
  obtain ⟨_, a, n, c, hcell, hro, _⟩ := hM
  have hn := hro.1.1
  obtain ⟨g, off, har, y0, y1, y2⟩ := hro.1.at hkl
  subst har
  have hxn := (hro.1.2.2.2.2.2 l[k] (List.getElem_mem _)).1
  rw [List.getElem_map, hxn] at hd
  have hkn : k < n := by omega
  have hki : (k : Int) < (n : Int) := by omega
  generalize l[k].n = xn at y2 hd
  generalize l[k].a = xa at y2
  generalize l[k].c = xc at y2
  have hd3 : (xn : Int) ≤ (d : Int) / 8 := by omega
  clear hro hn hkl hk y0 y1 hxn
  go_enter Try.func19, Try.ntmps19
  go_wp2
  go_ret
  exact ⟨rfl, rfl⟩
set_option maxRecDepth 100000 in
set_option maxHeartbeats 1000000 in
theorem rflip_yes (D : Nat → Prop) (w : World) (cb : Nat) (L : List Pc) (k d : Nat) (hN : NetR D w cb L) (hk : k < L.length) (hd : d / 8 < L[k].2.2.length) (hb : L[k].2.2.length ≤ 1000000) :
    Calls Try.prog 19 #[.pointer (some ⟨cb, 0, none⟩), .int .i64 (k : Int), .int .i64 (d : Int)] w fun e w' => e = .returned (.bool true) ∧ NetR D w' cb (L.set k (flipP L[k] d)) ∧ Kp D w w' := by
  obtain ⟨l, rfl, hM, hE⟩ := hN
  have hkl : k < l.length := by simpa using hk
  have HM := hide hM
  obtain ⟨_, a, n, c, hcell, hro, _⟩ := hM
  have hn := hro.1.1
  obtain ⟨g, off, har, y0, y1, y2⟩ := hro.1.at hkl
  subst har
  have hok := hro.1.2.2.2.2.2 l[k] (List.getElem_mem _)
  have hxn := hok.1
  rw [List.getElem_map] at hd hb ⊢
  obtain ⟨q, hq⟩ : ∃ q, l[k].a = some ⟨q, 0, none⟩ := by
    obtain ⟨a', cap, e, _, h3⟩ := own_form (hE.2 _ (List.getElem_mem hkl))
    simp only [Value.slice.injEq] at e
    obtain ⟨q, h4, _⟩ := h3 (by omega)
    exact ⟨q, e.1.trans h4⟩
  obtain ⟨j, hj⟩ : ∃ j, j = d / 8 := ⟨_, rfl⟩
  obtain ⟨r, hr⟩ : ∃ r, r = d % 8 := ⟨_, rfl⟩
  have hr8 : r < 8 := by omega
  have hjl : j < l[k].p.2.2.length := by omega
  have hown := hE.2 _ (List.getElem_mem hkl)
  rw [hq] at hown
  have hxc : w.cell? ⟨q, j, none⟩ = some (.int .u8 (l[k].p.2.2[j] : Nat)) := by rw [hown.cellAt j (by omega)]; simp [bV, hjl]
  have hxf : w.frozen? ⟨q, j, none⟩ = false := hown.frozenAt j
  have hx256 : l[k].p.2.2[j] < 256 := hok.2.1 _ (List.getElem_mem _)
  have HFL := hide (show flipP l[k].p d = (l[k].p.1, l[k].p.2.1, l[k].p.2.2.set j (l[k].p.2.2[j] ^^^ 2 ^ r)) by unfold flipP flipL; rw [← hj, ← hr]; simp [List.getD, hjl])
  have hDq : D q := HM.out.blocks _ (List.getElem_mem hkl) _ hq
  have hnf := net_flip (j := j) HM.out hE hkl hq (flip_lt hx256 hr8) _ rfl
  have HN := hide (show NetR D (w.setCell ⟨q, j, none⟩ (.int .u8 ((l[k].p.2.2[j] ^^^ 2 ^ r : Nat) : Nat))) cb ((l.map Pm.p).set k (flipP l[k].p d)) from ⟨_, by rw [map_set, HFL.out], hnf.1, hnf.2⟩)
  have HK := hide ((Kp.refl D w).put (g := q) (o := j) (.inl hDq) (.int .u8 ((l[k].p.2.2[j] ^^^ 2 ^ r : Nat) : Nat)))
  rw [hq] at y2
  obtain ⟨x, hxe⟩ : ∃ x, x = l[k].p.2.2[j] := ⟨_, rfl⟩
  rw [← hxe] at hxc hx256 HN HK
  have hkn : k < n := by omega
  have hki : (k : Int) < (n : Int) := by omega
  have hd3 : (d : Int) / 8 < (l[k].n : Int) := by omega
  have hjn : j < l[k].n := by omega
  have hn2 : l[k].n ≤ 1000000 := by omega
  generalize l[k].n = xn at y2 hd3 hjn hn2
  generalize l[k].c = xc at y2
  have ks := shl_wrap r hr8
  have kx : bits .xor .u8 (x : Int) ((2 ^ r : Nat) : Int) = ((x ^^^ 2 ^ r : Nat) : Int) := u8_xor_nat x (2 ^ r) hx256 (pow_lt hr8)
  have tq0 : (d : Int) / 8 = (j : Int) := by omega
  have tr0 : (d : Int) % 8 = (r : Int) := by omega
  have tq : (d : Int).tdiv 8 = (j : Int) := by rw [hj]; simp [Int.tdiv_eq_ediv_of_nonneg]
  have tr : (d : Int).tmod 8 = (r : Int) := by rw [hr]; simp [Int.tmod_eq_emod_of_nonneg]
  generalize (flipP l[k].p d) = FP at HN HFL ⊢
  generalize hpr : (2 ^ r : Nat) = pr at ks kx HN HK HFL
  clear hpr
  generalize hyy : x ^^^ pr = y at kx HN HK
  generalize hSS : (l.map Pm.p).set k FP = SS at HN ⊢
  clear hro hn hkl hk y0 y1 hxn hE HM hown hok hq hnf hxe hj hr hd hb HFL hjl hyy hSS
  go_enter Try.func19, Try.ntmps19
  go_wp2
  go_ret
  exact ⟨rfl, HN.out, HK.out⟩
end Go.Proofs.Ytmjglgdihlomlaa
