/- (*net.Net).Way. -/
import Derived.Test.YtmjglgdihlomlaaFlip
namespace Go.Proofs.Ytmjglgdihlomlaa
open Go.RowKit Go.ChangeShapes Go.WideShapes Go.ChangeAt Go.Deep

def pm0 : Pm := ⟨(0, 0, []), none, 0, 0⟩
theorem made3 (n : Nat) : (madeCells (Value.agg #[.int .i64 0, .int .i64 0, .slice none 0 0]).cells (n * 3)).toList = cV (List.replicate n pm0) := by
  apply List.ext_getElem?
  intro j
  by_cases hj : j < n * 3
  · have hl : (cV (List.replicate n pm0))[j]? = some (cV (List.replicate n pm0))[j]! := by
      rw [List.getElem?_eq_getElem (by rw [cV_len, List.length_replicate]; exact hj), getElem!_pos _ j (by rw [cV_len, List.length_replicate]; exact hj)]
    have h1 : ∀ j u, (cV (List.replicate n pm0))[j]? = some u → (fun i => some ((#[Value.int .i64 0, .int .i64 0, .slice none 0 0] : Array Value)[i % 3]!)) j = some u := by
      refine cV_of (fun k hk => ?_)
      simp only [List.getElem_replicate, pm0]
      rw [show 3 * k % 3 = 0 by omega, show (3 * k + 1) % 3 = 1 by omega, show (3 * k + 2) % 3 = 2 by omega]
      exact ⟨rfl, rfl, rfl⟩
    have h2 := h1 j _ hl
    rw [hl, ← h2]
    simp [madeCells, Value.cells, hj]
  · rw [List.getElem?_eq_none (by simp [madeCells]; omega), List.getElem?_eq_none (by rw [cV_len, List.length_replicate]; omega)]

/-- A row of parcels, all of it in memory of one's own from B on; its bytes may be turned. -/
def RowF (B : Nat) (w : World) (a : Option Addr) (n c : Nat) (l : List Pm) : Prop :=
  RowO (fun k => B ≤ k ∧ k < w.heap.size) w a n c l ∧ ∀ x ∈ l, w.ownsRow B 5 1 (.slice x.a x.n x.c) x.n (bV x.p.2.2)
theorem RowF.below {B : Nat} {w w' : World} {a : Option Addr} {n c : Nat} {l : List Pm} (h : RowF B w a n c l) (hb : Below w.heap.size w w') : RowF B w' a n c l :=
  ⟨(h.1.keep (fun _ hk => hk.2) (fun k _ hk => hb.block k hk)).mono (fun _ hk => ⟨hk.1, Nat.lt_of_lt_of_le hk.2 hb.size⟩), fun x hx => own_below (h.2 x hx) hb⟩
theorem RowF.mono {B B' : Nat} {w : World} {a : Option Addr} {n c : Nat} {l : List Pm} (h : RowF B w a n c l) (hB : B' ≤ B) : RowF B' w a n c l :=
  ⟨h.1.mono (fun _ hk => ⟨by omega, hk.2⟩), fun x hx => own_mono (h.2 x hx) hB⟩
theorem pm0_own (B : Nat) (w : World) : w.ownsRow B 5 1 (.slice pm0.a pm0.n pm0.c) pm0.n (bV pm0.p.2.2) := World.ownsRow_nil _ _ _ _
theorem pm0_ok (D : Nat → Prop) (w : World) : pm0.ok D w := ⟨rfl, fun x hx => by simp [pm0] at hx, ⟨Nat.le_refl _, Nat.zero_le _⟩, fun _ => ⟨rfl, rfl⟩, .inl rfl, fun ad e => by cases e⟩
/-- The row that 'make' leaves. -/
theorem rowF_make {B : Nat} {w : World} {g n : Nat} (h : w.ownsRow B 37 3 (.slice (some ⟨g, 0, none⟩) n n) n (cV (List.replicate n pm0))) (hn : n ≤ maxLen) : RowF B w (some ⟨g, 0, none⟩) n n (List.replicate n pm0) := by
  have hg := h.lt g rfl
  have hmem : ∀ x ∈ List.replicate n pm0, x = pm0 := fun x hx => List.eq_of_mem_replicate hx
  refine ⟨⟨⟨List.length_replicate, ⟨Nat.le_refl _, hn⟩, (fun e => by cases e), .inr ⟨g, 0, rfl, fun j u hu => ?_⟩, fun ad e => by cases e; exact hg, fun x hx => by rw [hmem x hx]; exact pm0_ok _ _⟩, fun ad e => ?_⟩, fun x hx => by rw [hmem x hx]; exact pm0_own _ _⟩
  · have := h.cells (g := g) rfl j u hu
    rwa [add_none] at this
  · cases e
    refine ⟨g, 0, rfl, fun j hj => ⟨?_, h.frozenAt _⟩, fun x hx ad e => by rw [hmem x hx] at e; cases e⟩
    have hlt : j < (cV (List.replicate n pm0)).length := by rw [cV_len, List.length_replicate]; exact hj
    have := h.cells (g := g) rfl j _ (List.getElem?_eq_getElem hlt)
    rw [add_none] at this
    rw [this]; rfl
/-- The k-th parcel is put. -/
theorem RowF.put {B : Nat} {w : World} {g n c k : Nat} {l : List Pm} (h : RowF B w (some ⟨g, 0, none⟩) n c l) (hk : k < n) (x : Pm) (hx : x.ok (fun k => B ≤ k ∧ k < w.heap.size) w) (ho : w.ownsRow B 5 1 (.slice x.a x.n x.c) x.n (bV x.p.2.2)) (hxg : ∀ ad, x.a = some ad → ad.block ≠ g) :
    RowF B (put3 w g (k * 3) (.int .i64 x.p.1) (.int .i64 x.p.2.1) (.slice x.a x.n x.c)) (some ⟨g, 0, none⟩) n c (l.set k x) := by
  have h1 := row_set h.1 hk x hx hxg
  rw [Nat.zero_add] at h1
  have hs := put3_size w g (k * 3) (.int .i64 x.p.1) (.int .i64 x.p.2.1) (.slice x.a x.n x.c)
  obtain ⟨_, hap⟩ := h.1.room
  refine ⟨h1.mono (fun q hq => ⟨hq.1, by rw [hs]; exact hq.2⟩), fun y hy => ?_⟩
  have key : ∀ y : Pm, (∀ ad, y.a = some ad → ad.block ≠ g) → w.ownsRow B 5 1 (.slice y.a y.n y.c) y.n (bV y.p.2.2) → (put3 w g (k * 3) (.int .i64 x.p.1) (.int .i64 x.p.2.1) (.slice x.a x.n x.c)).ownsRow B 5 1 (.slice y.a y.n y.c) y.n (bV y.p.2.2) := fun y hn ho => by
    refine ⟨ho.1, ?_⟩
    rcases ho.2 with h2 | ⟨q, cap, cur, e, q1, q2, q3⟩
    · exact .inl h2
    · simp only [Value.slice.injEq] at e
      have hq : q ≠ g := hn _ e.1
      exact .inr ⟨q, cap, cur, by simp only [Value.slice.injEq]; exact e, q1, by rw [put3_keep hq]; exact q2, q3⟩
  rcases List.mem_or_eq_of_mem_set hy with h2 | h2
  · exact key y (hap y h2) (h.2 y h2)
  · subst h2; exact key y hxg ho

def WayPost (w : World) (L : List Pc) (e : Ending) (w' : World) : Prop := ∃ a n c l, e = .returned (.slice a n c) ∧ RowF w.heap.size w' a n c l ∧ l.map Pm.p = L ∧ Below w.heap.size w w'
theorem set_take {l : List Pm} {L : List Pc} {k : Nat} {x : Pm} (h : (l.take k).map Pm.p = L.take k) (hk : k < l.length) (hL : k < L.length) (hx : x.p = L[k]) : ((l.set k x).take (k + 1)).map Pm.p = L.take (k + 1) := by
  rw [List.take_succ_eq_append_getElem (by simpa using hk), List.take_succ_eq_append_getElem hL, List.map_append, List.getElem_set_self, List.take_set_of_le (Nat.le_refl _), h]
  simp [hx]

set_option maxRecDepth 100000 in
set_option maxHeartbeats 4000000 in
theorem way_any (D : Nat → Prop) (w : World) (cb : Nat) (L : List Pc) (hN : NetP D w cb L) (hL : L.length ≤ 20000) (hb : ∀ p ∈ L, p.2.2.length ≤ 1000000) :
    Calls Try.prog 22 #[.pointer (some ⟨cb, 0, none⟩)] w (WayPost w L) := by
  obtain ⟨l0, hl0, hNM⟩ := hN
  have HNM := hide hNM
  obtain ⟨_, a, n, c, hcell, hro, -⟩ := hNM
  have hn := hro.1.1
  have hLn : L.length = n := by rw [← hl0, List.length_map, hn]
  have hn2 : n ≤ 20000 := by omega
  obtain ⟨i0, hi, hz0, hz1, hz2⟩ := info_parts Try.info37
  have HRO := hide hro.1
  have HB := hide hb
  have HLn := hide hLn
  have HL0 := hide hl0
  have HN := hide hn
  clear hro hb hLn hl0 hL hn
  unfold WayPost
  go_enter Try.func22, Try.ntmps22
  go_wp2_with (at_make; go_must (refine wpList_make_full _ rfl (.tmp 10) (.tmp 10) 28 rfl w.heap.size 37 i0 (.agg #[.int .i64 0, .int .i64 0, .slice none 0 0]) 3 Try.underlying28 hi hz0 hz1 .i64 .i64 _ _ n rfl rfl rfl rfl (by rw [hz2]; omega) (by unfold maxLen; omega) (Nat.le_refl _) ?_; intro w1 ho1 hg1; rw [made3] at ho1; have hb1 : Below w.heap.size w w1 := (Below.refl _ _).grown hg1 (Nat.le_refl _) (fun k hk => by cases hk); have HF1 := hide (rowF_make ho1 (by unfold maxLen; omega)); have hc1 := keep_cell hcell hb1; have HB1 := hide hb1; clear ho1 hg1 hb1))
  go_loopw [17] (fun i wr => Hid (Below w.heap.size w wr) ∧ ∃ (k : Nat) (lr : List Pm), k ≤ n ∧ i = .int .i64 (k : Nat) ∧ Hid (RowF w.heap.size wr (some ⟨w.heap.size, 0, none⟩) n n lr) ∧ Hid ((lr.take k).map Pm.p = L.take k)) (fun i _ => n - (intOf i).toNat)
  case atStart => exact ⟨HB1, 0, _, Nat.zero_le _, rfl, HF1, hide (by simp)⟩
  case round =>
    obtain ⟨hbr, k, lr, hk, rfl, hRF, hTk⟩ := hrel
    by_cases hlt : k < n
    · have hkl : k < l0.length := by have := HN.out; omega
      have hrow := HRO.out.below hbr.out
      obtain ⟨b, off, har, y0, y1, y2⟩ := hrow.at hkl
      subst har
      have hok := hrow.2.2.2.2.2 l0[k] (List.getElem_mem _)
      have hkL : k < L.length := by have := HLn.out; omega
      have hpx : l0[k].p = L[k] := by
        have h := HL0.out
        subst h
        rw [List.getElem_map]
      have hxb : l0[k].n ≤ 1000000 := by have h1 := HB.out L[k] (List.getElem_mem _); rw [← hpx, hok.1] at h1; exact h1
      have CK := hide (fun W (hb : Below wr.heap.size wr W) => copy_any l0[k].p l0[k].a l0[k].n l0[k].c W hok.1 (hok.2.2.2.2.1.below hb) hok.2.2.2.1 hxb)
      have HBy := hide hok.2.1
      have HPX := hide hpx
      have hlrl := hRF.out.1.1.1
      obtain ⟨⟨⟨f, t, bs⟩, xa, xn, xc⟩, hx⟩ : ∃ x, x = l0[k] := ⟨_, rfl⟩
      rw [← hx] at y0 y1 y2 CK HBy HPX
      simp only at y0 y1 y2 CK HBy HPX
      have hV := below_new wr (.cells #[.int .i64 f, .int .i64 t, .slice xa xn xc] 37)
      have hBox := BoxL.new wr [.int .i64 f, .int .i64 t, .slice xa xn xc] 37
      have hVs : (wr.alloc (.cells #[.int .i64 f, .int .i64 t, .slice xa xn xc] 37)).heap.size = wr.heap.size + 1 := by simp
      obtain ⟨V, hVe⟩ : ∃ V, V = wr.alloc (.cells #[.int .i64 f, .int .i64 t, .slice xa xn xc] 37) := ⟨_, rfl⟩
      rw [← hVe] at hV hBox hVs
      have HV := hide hVe
      have HVB := hide hV
      have HVS := hide hVs
      clear hx hok hxb hrow hpx hV hVs hVe
      obtain ⟨z0, z1, z2⟩ := hBox.c3
      have hw0 : w.heap.size < wr.heap.size := by
        have := hRF.out.1.1.2.2.2.2.1 _ rfl
        exact this.2
      clear hBox
      have HLRL := hide hlrl
      clear hlrl
      go_wp2_with (first
        | (go_at_call 23; go_must (rw [← HV.out]; (with_reducible refine (CK.out V HVB.out).mono ?_); rintro e w2 ⟨a2, n2, c2, rfl, ho2, hb2⟩; have HO2 := hide ho2; have HB2 := hide hb2; have HRF2 := hide ((hRF.out.below HVB.out).below hb2); have hrm := HRF2.out.1.room.1; obtain ⟨p0, p0'⟩ := hrm (k * 3) (by omega); obtain ⟨p1, p1'⟩ := hrm (k * 3 + 1) (by omega); obtain ⟨p2, p2'⟩ := hrm (k * 3 + 2) (by omega); rw [Nat.zero_add] at p0 p0' p1 p1' p2 p2'; obtain ⟨o0, p0⟩ := Option.isSome_iff_exists.1 p0; obtain ⟨o1, p1⟩ := Option.isSome_iff_exists.1 p1; obtain ⟨o2, p2⟩ := Option.isSome_iff_exists.1 p2; clear ho2 hb2 hrm)))
      obtain ⟨hn2e, hok2, hfr2⟩ := pm_new (x := (f, t, bs)) HO2.out HBy.out
      simp only at hn2e
      have hs2 := HB2.out.size
      have hsV := HVS.out
      have hO2 := HO2.out
      simp only [← hn2e] at hO2
      have HP := hide (HRF2.out.put hlt ⟨(f, t, bs), a2, n2, c2⟩ (hok2.mono fun q hq => ⟨by omega, hq.2⟩) (own_mono hO2 (by omega)) (fun ad e => by have := hfr2 ad e; omega))
      have HBP := hide (put3_below (g := w.heap.size) (o := k * 3) ((hbr.out.trans (HVB.out.mono (by have := hbr.out.size; omega))).trans (HB2.out.mono (by omega))) (Nat.le_refl _) (.int .i64 f) (.int .i64 t) (.slice a2 n2 c2))
      have HTS := hide (set_take (x := ⟨(f, t, bs), a2, n2, c2⟩) hTk.out (by have := HLRL.out; omega) hkL HPX.out)
      clear hok2 hfr2 hO2 hn2e hs2 hsV p0 p1 p2 p0' p1' p2'
      obtain ⟨X, hX⟩ : ∃ X, X = put3 w2 w.heap.size (k * 3) (.int .i64 f) (.int .i64 t) (.slice a2 n2 c2) := ⟨_, rfl⟩
      simp only at HP
      rw [← hX] at HP HBP
      unfold put3 at hX
      rw [← hX]
      clear hX
      go_wp2
      go_roundw
      case rel => exact ⟨HBP, k + 1, _, by omega, by go_num, HP, HTS⟩
      case measure => simp [intOf]; omega
    · obtain rfl : k = n := by omega
      have HFin := hide (show lr.map Pm.p = L by
        have h1 := hTk.out
        rw [List.take_of_length_le (by rw [hRF.out.1.1.1]; exact Nat.le_refl _), List.take_of_length_le (by rw [HLn.out]; exact Nat.le_refl _)] at h1
        exact h1)
      go_wp2
      go_ret
      exact ⟨_, _, _, lr, rfl, hRF.out, HFin.out, hbr.out⟩

end Go.Proofs.Ytmjglgdihlomlaa
