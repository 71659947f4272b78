/- LinkOrder answers true. -/
import Derived.Test.YtofigofaiadffaaOrP
namespace Go.Proofs.Ytofigofaiadffaa
open Go.RowKit Go.ChangeShapes Go.WideShapes Go.ChangeAt Go.Deep

theorem i64_mask (m : Nat) (hm : m < 63) (n : Int) : bits .and .i64 n ((2 ^ m - 1 : Nat) : Int) = n % ((2 ^ m : Nat) : Int) := by
  have hle : 2 ^ m ≤ 2 ^ 62 := Nat.pow_le_pow_right (by decide) (by omega)
  have h1 : (BitVec.ofInt 64 ((2 ^ m - 1 : Nat) : Int)).toNat = 2 ^ m - 1 := by
    rw [BitVec.ofInt_natCast, BitVec.toNat_ofNat]; exact Nat.mod_eq_of_lt (by omega)
  have key : (BitVec.ofInt 64 n &&& BitVec.ofInt 64 ((2 ^ m - 1 : Nat) : Int)).toNat = (n % ((2 ^ 64 : Nat) : Int)).toNat % 2 ^ m := by
    rw [BitVec.toNat_and, BitVec.toNat_ofInt, h1, Nat.and_two_pow_sub_one_eq_mod]
  show IntKind.i64.wrap ((BitVec.ofInt 64 n &&& BitVec.ofInt 64 ((2 ^ m - 1 : Nat) : Int)).toNat : Nat) = _
  have hp : 0 < 2 ^ m := Nat.two_pow_pos m
  have hd : (2 ^ m) ∣ 2 ^ 64 := Nat.pow_dvd_pow 2 (by omega)
  have h2 : (((n % ((2 ^ 64 : Nat) : Int)).toNat % 2 ^ m : Nat) : Int) = n % ((2 ^ m : Nat) : Int) := by
    rw [Int.natCast_emod, Int.toNat_of_nonneg (Int.emod_nonneg _ (by decide))]
    exact Int.emod_emod_of_dvd n (Int.natCast_dvd_natCast.2 hd)
  have h3 : (n % ((2 ^ 64 : Nat) : Int)).toNat % 2 ^ m < 2 ^ m := Nat.mod_lt _ hp
  rw [key, IntKind.wrap_i64, h2]
  have h4 : n % ((2 ^ m : Nat) : Int) < ((2 ^ m : Nat) : Int) := Int.emod_lt_of_pos _ (by omega)
  have h5 : 0 ≤ n % ((2 ^ m : Nat) : Int) := Int.emod_nonneg _ (by omega)
  omega

theorem LX.gP {P : Nat → Prop} {w0 w : World} {g : Nat} {s : Lk} (h : LX P w0 w g s) : P g ∧ g < w.heap.size := by
  obtain ⟨⟨D, h1, h2⟩, _⟩ := h
  exact ⟨h2 _ h1.dg, h1.lt _ h1.dg⟩
namespace linkOrder
theorem mask15 (n : Int) : bits .and .i64 n 15 = n % 16 := i64_mask 4 (by decide) n
theorem rep_getD (m k : Nat) : (List.replicate m false).getD k false = false := by
  simp only [List.getD, List.getElem?_replicate]
  split <;> rfl
theorem made10 : (madeCells (Value.bool false).cells (10 * 1)).toList = tV (List.replicate 10 false) := by kernel_rfl
theorem sO_new : newL 1 0 1 1 100 = sO 0 (List.replicate 10 false) false := by
  unfold sO newL
  simp only [Lk.mk.injEq, true_and, and_true]
  funext k
  unfold eaI
  rw [rep_getD]
  rfl
/-- The blocks of the link: behind w, and not the row of bools. -/
def PO (w : World) (gb : Nat) (k : Nat) : Prop := w.heap.size ≤ k ∧ k ≠ gb
/-- The state in the loop. -/
def St (w wr : World) (g gb n C : Nat) (L : List Bool) : Prop := LX (PO w gb) w wr g (sO C L false) ∧ wr.ownsRow w.heap.size 4 1 (.slice (some ⟨gb, 0, none⟩) 10 10) 10 (tV L) ∧ OI n C L
/-- The row of bools is written: the link is as it was. -/
theorem lxset {w0 w : World} {g gb o : Nat} {s : Lk} (h : LX (PO w0 gb) w0 w g s) (hb : w0.heap.size ≤ gb) (v : Value) : LX (PO w0 gb) w0 (w.setCell ⟨gb, o, none⟩ v) g s := by
  obtain ⟨⟨D, h1, h2⟩, h3⟩ := h
  exact ⟨⟨D, h1.keep (by rw [size_set]; exact Nat.le_refl _) (fun k hk => Below.heap_setCell _ _ _ _ (h2 k hk).2), h2⟩, h3.setCell (p := ⟨gb, o, none⟩) hb v⟩
theorem bool_at {w : World} {B gb : Nat} {L : List Bool} (h : w.ownsRow B 4 1 (.slice (some ⟨gb, 0, none⟩) 10 10) 10 (tV L)) {j : Nat} (hj : j < 10) : w.cell? ⟨gb, j, none⟩ = some (.bool (L.getD j false)) ∧ w.frozen? ⟨gb, j, none⟩ = false := by
  refine ⟨?_, h.frozenAt j⟩
  rw [h.cellAt j (by omega)]
  have hl := h.1
  simp [tV] at hl
  simp [tV, List.getD, show j < L.length by omega]
theorem Try.info4 : (Try.prog.info? 4).map (fun i => (i.zero, i.size, i.bytes)) = some (some (.bool false), 1, 1) := by kernel_rfl
/-- What In leaves, and the store behind it. -/
theorem in_st {w wr W w2 : World} {g gb n C K m : Nat} {L : List Bool} {b2 : Option Addr} {d2 : Nat} {l : List Txt} (hS : St w wr g gb n C L) (hb : Below wr.heap.size wr W) (h1 : 1 ≤ K) (h2 : K ≤ n) (hm : (inF (sO C L false) (fO K)).length = m) (hR : RowT (PO w gb) W.heap.size w2 b2 m d2 l) (hl : l.map Txt.bs = inF (sO C L false) (fO K)) (hX : LX (PO w gb) w w2 g (inL (sO C L false) (fO K))) (hK : Kp (fun k => k = g) W w2) :
    OI n (C + m) (L.set K true) ∧ (∃ v, w2.cell? ⟨gb, K, none⟩ = some v) ∧ w2.frozen? ⟨gb, K, none⟩ = false ∧ ∃ w3, w3 = w2.setCell ⟨gb, K, none⟩ (.bool true) ∧ LX (PO w gb) w w3 g (sO (C + m) (L.set K true) true) ∧ w3.ownsRow w.heap.size 4 1 (.slice (some ⟨gb, 0, none⟩) 10 10) 10 (tV (L.set K true)) ∧ RowT (PO w gb) W.heap.size w3 b2 m d2 l ∧ (∀ j, j < m → (l.map Txt.bs)[j]? = some [C + 1 + j] ∧ (L.set K true).getD (C + 1 + j) false = true) := by
  obtain ⟨hX0, hO, hI⟩ := hS
  obtain ⟨m', e1, e2, e3, e4⟩ := step hI h1 h2
  rw [hm] at e1
  subst e1
  have hg := hX0.gP
  have hgb := hO.lt gb rfl
  have hsz := hb.size
  have hO2 : w2.ownsRow w.heap.size 4 1 (.slice (some ⟨gb, 0, none⟩) 10 10) 10 (tV L) := own_keep (own_keep hO fun ad e => by cases e; exact hb.block gb hgb.2) fun ad e => by cases e; exact hK.block gb (Nat.lt_of_lt_of_le hgb.2 hsz) (fun e => hg.1.2 e.symm)
  have hb3 := bool_at hO2 (j := K) (by have := hI.2.2.1; omega)
  have hst := hO2.stored K (.bool true)
  rw [e3] at hX
  have hT : (tV L).set K (.bool true) = tV (L.set K true) := by simp [tV, List.map_set]
  refine ⟨e4, ⟨_, hb3.1⟩, hb3.2, _, rfl, lxset hX hgb.1 _, hT ▸ hst.1, ?_, fun j hj => ?_⟩
  · refine hR.keep (fun k hk _ => Below.heap_setCell _ _ _ _ (by show k ≠ gb; omega)) (fun t ht ad e => Below.heap_setCell _ _ _ _ ((hR.2.2 t ht).2.2 ad e).2)
  · have hj' : j < (inF (sO C L false) (fO K)).length := by rw [hm]; exact hj
    have h3 := e2 j hj'
    refine ⟨?_, h3.2⟩
    rw [hl, List.getElem?_eq_getElem hj', h3.1]
/-- A load of one byte, in a row of loads. -/
theorem rowt_byte {P : Nat → Prop} {B : Nat} {w : World} {a : Option Addr} {n c j x : Nat} {l : List Txt} (h : RowT P B w a n c l) (hj : j < n) (hx : (l.map Txt.bs)[j]? = some [x]) : ∃ b tb tc, a = some ⟨b, 0, none⟩ ∧ w.cell? ⟨b, j, none⟩ = some (.slice (some ⟨tb, 0, none⟩) 1 tc) ∧ w.cell? ⟨tb, 0, none⟩ = some (.int .u8 (x : Int)) := by
  have hjl : j < l.length := by rw [h.1]; exact hj
  have hbs : l[j].bs = [x] := by simpa [hjl] using hx
  have hT := h.2.2 l[j] (List.getElem_mem _)
  have hlen : l[j].len = 1 := by have := hT.1.1; rw [hbs] at this; simpa using this.symm
  rcases h.2.1.2 with ⟨e, h1⟩ | ⟨b, cap, cur, e, _⟩
  · omega
  simp only [Value.slice.injEq] at e
  rcases hT.2.1.2 with ⟨e2, h1⟩ | ⟨tb, tc, cur2, e2, _⟩
  · omega
  simp only [Value.slice.injEq] at e2
  refine ⟨b, tb, l[j].cap, e.1, ?_, ?_⟩
  · have := h.2.1.cells (g := b) (by rw [e.1]; rfl) j (.slice l[j].a l[j].len l[j].cap) (by simp [sV, Txt.val, hjl])
    rw [add_none, Nat.zero_add, e2.1, hlen] at this
    exact this
  · have := hT.2.1.cells (g := tb) (by rw [e2.1]; rfl) 0 (.int .u8 (x : Int)) (by rw [hbs]; rfl)
    rw [add_none] at this
    exact this

set_option linter.unusedSimpArgs false in
set_option maxRecDepth 100000 in
set_option maxHeartbeats 8000000 in
theorem walk_main (n : Nat) (a : Option Addr) (p c : Nat) (ps : List Int) (w : World) (hn1 : 1 ≤ n) (hn8 : n ≤ 8) (hp : p ≤ 60) (hl : ps.length = p) (hr : Reads w a (iV ps)) :
    Calls Try.prog 6 #[.int .i64 (n : Int), .slice a p c] w fun e w' => e = .returned (.bool true) ∧ Below w.heap.size w w' := by
  have C11 := hide (fun W => new_any 1 0 1 1 100 W)
  have HR := hide hr
  have HL := hide hl
  obtain ⟨i0, hi0, hz0, hz1, hz2⟩ := info_parts Try.info4
  clear hr hl
  go_enter Try.func6, Try.ntmps6
  go_wp2_with (first
    | (go_at_call 9; go_must ((with_reducible refine (alive_any w).mono ?_); rintro e w1 ⟨rfl, hb1⟩; have HB1 := hide hb1; clear hb1))
    | (go_at_call 11; go_must ((with_reducible refine (C11.out w1).mono ?_); rintro e w2 ⟨g, rfl, hN2, hg, hb2⟩; have HB2 := hide (HB1.out.trans (hb2.mono HB1.out.size)); have HN2 := hide hN2; have HG := hide hg; clear hN2 hg hb2))
    | (at_make; go_must (refine wpList_make_full _ rfl (.const (.int .i64 10)) (.const (.int .i64 10)) 73 rfl w2.heap.size 4 i0 (.bool false) 1 Try.underlying73 hi0 hz0 hz1 .i64 .i64 _ _ 10 rfl rfl rfl rfl (by rw [hz2]; omega) (by unfold maxLen; omega) (Nat.le_refl _) ?_; intro w3 ho3 hg3; have hb3 : Below w2.heap.size w2 w3 := (Below.refl _ _).grown hg3 (Nat.le_refl _) (fun k hk => by cases hk); have HS3 := hide (show St w w3 g w2.heap.size n 0 (List.replicate 10 false) from ⟨⟨⟨fun k => k = g, sO_new ▸ HN2.out.below hb3, fun k hk => by subst hk; exact ⟨Nat.le_trans HB1.out.size HG.out, by have := HN2.out.lt k rfl; omega⟩⟩, HB2.out.trans (hb3.mono HB2.out.size)⟩, own_base (made10 ▸ ho3) HB2.out.size, ⟨rfl, Nat.zero_le _, hn8, fun k _ => rep_getD 10 k, fun k h1 h2 => by omega, rfl⟩⟩); clear ho3 hg3 hb3)))
  go_loopw [8, 9] (fun nx iv wr => ∃ (i C : Nat), i ≤ p ∧ C ≤ n ∧ nx = .int .i64 ((C + 1 : Nat) : Int) ∧ iv = .int .i64 (i : Nat) ∧ Hid (∃ L, St w wr g w2.heap.size n C L)) (fun _ iv _ => p - (intOf iv).toNat)
  case atStart => exact ⟨0, 0, Nat.zero_le _, Nat.zero_le _, rfl, rfl, hide ⟨_, HS3.out⟩⟩
  case round =>
    obtain ⟨i, C, hi, hC, rfl, rfl, HSt⟩ := hrel
    obtain ⟨L, hSt⟩ := HSt.out
    have hBw : Below w.heap.size w wr := hSt.1.2
    by_cases hlt : i < p
    · have hil : i < ps.length := by have := HL.out; omega
      obtain ⟨b, off, har, hcs⟩ := reads_at (HR.out.below hBw) hil
      subst har
      have hcell := hcs.out i (.int .i64 ps[i]) (by simp [iV, hil])
      have hmk := mask15 ps[i]
      obtain ⟨y, hy⟩ : ∃ y : Nat, ps[i] % 16 = (y : Int) := ⟨(ps[i] % 16).toNat, by omega⟩
      rw [hy] at hmk
      generalize ps[i] = x at hcell hmk hy
      have hyn : (y : Int).tmod (n : Int) = ((y % n : Nat) : Int) := by rw [Int.tmod_eq_emod_of_nonneg (by omega)]; simp
      have hn0 : (n : Int) ≠ 0 := by omega
      have hmod : y % n < n := Nat.mod_lt _ (by omega)
      generalize y % n = kk at hyn hmod
      obtain ⟨K, hKe⟩ : ∃ K, K = kk + 1 := ⟨_, rfl⟩
      have hK : (1 : Int) + (kk : Int) = (K : Int) := by omega
      have hK1 : 1 ≤ K := by omega
      have hK2 : K ≤ n := by omega
      have kw : IntKind.u8.wrap (K : Int) = (K : Int) := by
        unfold IntKind.wrap
        simp [IntKind.signed, IntKind.bits]
        omega
      have hgb := hSt.2.1.lt w2.heap.size rfl
      have hgg := hSt.1.gP
      have HW := hide (below_new wr (.cells #[.int .u8 (K : Int)] 5))
      have C18 := hide (show Calls Try.prog 18 #[.pointer (some ⟨g, 0, none⟩), .agg #[.int .i64 0, .int .i64 1, .int .i64 1, .int .i64 (K : Int), .int .i64 0, .slice (some ⟨wr.heap.size, 0, none⟩) 1 1]] (wr.alloc (.cells #[.int .u8 (K : Int)] 5)) _ from inX (PO w w2.heap.size) w _ g (sO C L false) (fO K) (some ⟨wr.heap.size, 0, none⟩) 1 1 (fun k hk => hk.1) (fun k hk => ⟨by have := HW.out.size; have := hBw.size; omega, by have := HW.out.size; omega⟩) (hSt.1.below HW.out) (sO_used _ _ _) (show C ≤ 1000000 by omega) rfl (by intro z hz; simp [fO] at hz; omega) (reads_new wr (bV [K]) 5) (fun e => by cases e) (fun ad e _ => by cases e; show wr.heap.size ≠ g; omega))
      have HST := hide hSt
      have hF := sO_for C L K
      rw [hF] at C18
      obtain ⟨m, hm⟩ : ∃ m, m = (inF (sO C L false) (fO K)).length := ⟨_, rfl⟩
      rw [← hm] at C18
      have HM := hide hm
      have hgbl : w2.heap.size < wr.heap.size := hgb.2
      have hgne : g ≠ w2.heap.size := hgg.1.2
      clear hcs hil hy hSt hgb hgg hF hm hKe
      have HBW := hide hBw
      clear hBw
      go_upto_region 12 with (go_at_call 18; go_must ((with_reducible refine C18.out.mono ?_); rintro e w4 ⟨b4, d4, rfl, ⟨l4, hR4, hl4⟩, hX4, hK4⟩; have HI4 := hide (in_st HST.out HW.out hK1 hK2 HM.out.symm hR4 hl4 hX4 hK4); clear hR4 hl4 hX4 hK4))
      obtain ⟨hOI, ⟨v4, z4⟩, f4, w5, hw5, hX5, hO5, hR5, hall⟩ := HI4.out
      have HOI := hide hOI
      have hCm : C + m ≤ n := hOI.2.1
      go_upto_region 13 with fail
      rw [← hw5]
      have C15 := hide (outX (PO w w2.heap.size) w w5 g (sO (C + m) (L.set K true) true) (i : Int) (fun k hk => hk.1) (fun k hk => ⟨by have := hX5.2.size; omega, by have := (hO5.lt w2.heap.size rfl).2; omega⟩) hX5 (sO_used _ _ _) (by unfold I64; omega))
      rw [(out1 (C + m) (L.set K true) (i : Int)).1, (out1 (C + m) (L.set K true) (i : Int)).2, show ([(⟨1, 0, 1, 0, ((C + m : Nat) : Int), []⟩ : Fr)]).length = 1 from rfl] at C15
      have HBO := hide (fun j (hj : j < 10) => (bool_at hO5 hj).1)
      have HALL := hide hall
      have HR5 := hide hR5
      have HO5 := hide hO5
      have zN : w5.cell? ⟨w2.heap.size, C + 1 + m, none⟩ = some (.bool false) := by
        rw [HBO.out (C + 1 + m) (by omega), show C + 1 + m = C + m + 1 by omega, hOI.2.2.2.2.2]
      clear hw5 hX5 hO5 hR5 hall hOI z4 f4 hcell HI4
      go_wp2_with fail
      go_loopw [8, 13] (fun nx jv wv => w5 = wv ∧ ∃ j : Nat, j ≤ m ∧ nx = .int .i64 ((C + 1 + j : Nat) : Int) ∧ jv = .int .i64 (j : Nat)) (fun _ jv _ => m - (intOf jv).toNat)
      case atStart => exact ⟨rfl, 0, Nat.zero_le _, by go_num, rfl⟩
      case round =>
        obtain ⟨rfl, j, hj, rfl, rfl⟩ := hrel
        by_cases hjm : j < m
        · obtain ⟨rb, tb, tc, hab, r0, r1⟩ := rowt_byte HR5.out hjm (HALL.out j hjm).1
          subst hab
          have r2 := HBO.out (C + 1 + j) (by omega)
          rw [(HALL.out j hjm).2] at r2
          have hnb : C + 1 + j ≤ 9 := by omega
          have HNX := hide (show C + 1 + (j + 1) = C + 1 + j + 1 from rfl)
          generalize C + 1 + j = nx at r1 r2 hnb HNX
          go_wp2
          go_roundw
          case rel => exact ⟨by first | rfl | trivial, j + 1, by omega, by rw [HNX.out]; go_num, by go_num⟩
          case measure => simp [intOf]; omega
        · obtain rfl : j = m := by omega
          have hCj : C + 1 + j ≤ 9 := by omega
          have HCJ := hide (show C + j + 1 = C + 1 + j by omega)
          generalize C + 1 + j = nx at zN hCj HCJ
          go_upto_region 22 with (go_at_call 15; go_must ((with_reducible refine C15.out.mono ?_); rintro e w6 ⟨a6, c6, rfl, ⟨l6, hR6, hl6⟩, hX6, hK6⟩; have HR6 := hide hR6; have HL6 := hide hl6; have HX6 := hide hX6; have HK6 := hide hK6; clear hR6 hl6 hX6 hK6))
          obtain ⟨y6, hy6⟩ : ∃ y, l6 = [y] := List.length_eq_one_iff.1 HR6.out.1
          subst hy6
          obtain ⟨rb, hab, -, -⟩ := HR6.out.isAt (by omega)
          subst hab
          obtain ⟨-, -, -, r3, r4, -⟩ := HR6.out.at (k := 0) (by simp)
          have hy := HL6.out
          simp only [List.map_cons, List.map_nil, List.cons.injEq, and_true, Fm.p, Fr.mk.injEq] at hy
          simp only [List.getElem_cons_zero, hy.2.2.2.1, hy.2.2.2.2.1, Nat.zero_mul, Nat.zero_add] at r3 r4
          have hgb6 := hide (HO5.out.lt w2.heap.size rfl)
          have C15b := hide (outX (PO w w2.heap.size) w w6 g (sO (C + j) (L.set K true) false) (i : Int) (fun k hk => hk.1) (fun k hk => ⟨by have := HX6.out.2.size; omega, by have := hgb6.out.2; have := HK6.out.size; omega⟩) HX6.out (sO_used _ _ _) (by unfold I64; omega))
          rw [(out2 (C + j) (L.set K true) (i : Int)).1, (out2 (C + j) (L.set K true) (i : Int)).2, show ([] : List Fr).length = 0 from rfl] at C15b
          have hak : ((nx : Int) - 1) = ((C + j : Nat) : Int) := by have := HCJ.out; omega
          clear hy
          generalize hcj : C + j = cj at hak HCJ r4 hCm
          have HCC := hide hcj
          clear hcj
          go_wp2_with (go_at_call 15; go_must ((with_reducible refine C15b.out.mono ?_); rintro e w7 ⟨a7, c7, rfl, -, hX7, hK7⟩; have HX7 := hide hX7; have HK7 := hide hK7; clear hX7 hK7))
          have HSN := hide (show St w w7 g w2.heap.size n cj (L.set K true) from by
            rw [HCC.out] at HX7 HOI
            refine ⟨HX7.out, own_keep (w := w6) (own_keep HO5.out fun ad e => ?_) fun ad e => ?_, HOI.out⟩
            · cases e; exact HK6.out.block _ hgb6.out.2 (fun e => hgne e.symm)
            · cases e; exact HK7.out.block _ (Nat.lt_of_lt_of_le hgb6.out.2 HK6.out.size) (fun e => hgne e.symm))
          go_roundw
          case rel => exact ⟨i + 1, cj, by omega, hCm, by rw [HCJ.out], by go_num, hide ⟨_, HSN.out⟩⟩
          case measure => simp [intOf]; omega
    · obtain rfl : i = p := by omega
      have HB := hide hBw
      clear hSt hBw
      go_wp2
      go_ret
      exact ⟨rfl, HB.out⟩
set_option maxRecDepth 100000 in
set_option maxHeartbeats 1000000 in
theorem walk_skip (n : Int) (a : Option Addr) (m c : Nat) (w : World) (h : n < 1 ∨ 8 < n ∨ 60 < m) : Calls Try.prog 6 #[.int .i64 n, .slice a m c] w fun e w' => e = .returned (.bool true) ∧ Below w.heap.size w w' := by
  by_cases h1 : n < 1
  · clear h
    go_enter Try.func6, Try.ntmps6
    go_wp2_with (go_at_call 9; go_must ((with_reducible refine (alive_any w).mono ?_); rintro e w1 ⟨rfl, hb1⟩))
    go_ret
    exact ⟨rfl, hb1⟩
  · by_cases h2 : 8 < n
    · clear h
      go_enter Try.func6, Try.ntmps6
      go_wp2_with (go_at_call 9; go_must ((with_reducible refine (alive_any w).mono ?_); rintro e w1 ⟨rfl, hb1⟩))
      go_ret
      exact ⟨rfl, hb1⟩
    · have h3 : (60 : Int) < (m : Int) := by omega
      clear h
      go_enter Try.func6, Try.ntmps6
      go_wp2_with (go_at_call 9; go_must ((with_reducible refine (alive_any w).mono ?_); rintro e w1 ⟨rfl, hb1⟩))
      go_ret
      exact ⟨rfl, hb1⟩
/-- LinkOrder answers true for every input. -/
theorem walk (x0 : Int) (a1 : Option Addr) (l1 c1 : Nat) (x1 : List Int) (W : World) (_h0 : -9223372036854775808 ≤ x0 ∧ x0 ≤ 9223372036854775807) (hl : x1.length = l1) (_hB : In64 x1) (hr : Reads W a1 (iV x1)) : Calls Try.prog 6 #[.int .i64 x0, .slice a1 l1 c1] W fun e w' => e = .returned (.bool true) ∧ Below W.heap.size W w' := by
  by_cases h : x0 < 1 ∨ 8 < x0 ∨ 60 < l1
  · exact walk_skip x0 a1 l1 c1 W h
  · obtain ⟨n, rfl⟩ : ∃ n : Nat, x0 = (n : Int) := ⟨x0.toNat, by omega⟩
    exact walk_main n a1 l1 c1 x1 W (by omega) (by omega) (by omega) hl hr
end linkOrder
end Go.Proofs.Ytofigofaiadffaa
