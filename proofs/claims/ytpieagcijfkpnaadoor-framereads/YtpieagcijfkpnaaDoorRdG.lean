/- gleanerref10.ReadFrame, where the sum is right. -/
import Derived.Test.YtpieagcijfkpnaaDoorRdF
namespace Go.Proofs.YtpieagcijfkpnaaDoor
open Go.RowKit Go.ChangeShapes Go.WideShapes Go.ChangeAt Go.Deep

theorem rpack_some (f : Fr) (a : Option Addr) (l c : Nat) (w : World) (hok : Txt.ok w ⟨a, l, c, f.load⟩) : Calls Tryd.prog 10 #[f.val a l c] w fun e w' => ∃ v e0, e = .returned (.tuple #[v, .int .i64 e0]) ∧ Below w.heap.size w w' := by
  by_cases hw : wrongL f = 0
  · refine (rpackQ f a l c w hok hw).mono ?_
    rintro e w' ⟨q, m, cp, rfl, _, hb⟩
    exact ⟨_, _, rfl, hb⟩
  · have hlm : l ≤ 9223372036854775807 := by
      have h1 : l ≤ c ∧ c ≤ maxLen := hok.2.2.1
      have := h1.2
      unfold maxLen at this
      omega
    refine (rpack_no f a l c w hok.1 hlm hw).mono ?_
    rintro e w' ⟨rfl, hb⟩
    exact ⟨_, _, rfl, hb⟩

theorem reads_put {w : World} {g o : Nat} {u v : Value} {a : Option Addr} {xs : List Nat} (h : Reads w a (bV xs)) (hc : w.cell? ⟨g, o, none⟩ = some u) (hu : ∀ x, u ≠ .int .u8 x) : Reads (w.setCell ⟨g, o, none⟩ v) a (bV xs) := by
  rcases h with h | ⟨b, off, e, h⟩
  · exact .inl h
  · refine .inr ⟨b, off, e, fun j y hy => ?_⟩
    have hj := h j y hy
    by_cases hq : (⟨b, off + j, none⟩ : Addr) = ⟨g, o, none⟩
    · rw [hq, hc] at hj
      simp only [bV, List.getElem?_map, Option.map_eq_some_iff] at hy
      obtain ⟨x, _, hx⟩ := hy
      exact absurd ((Option.some.inj hj).trans hx.symm) (hu _)
    · rw [World.cell?_setCell_other (h := fun e => hq (by simpa using e.symm))]
      exact hj

theorem box_other {w : World} {g0 g o : Nat} {v : Value} {xs : List Value} (h : BoxL w g0 xs) (hg : g0 ≠ g) : BoxL (w.setCell ⟨g, o, none⟩ v) g0 xs :=
  h.grown (grown_setCell _ _ _ _) hg

theorem txt_put {w : World} {g o m p : Nat} {u v : Value} {a : Option Addr} {ld : List Nat} (hm : ld.length = m) (ht : TxtB a m p) (hB : Byt ld) (hr : Reads w a (bV ld)) (hc : w.cell? ⟨g, o, none⟩ = some u) (hu : ∀ x, u ≠ .int .u8 x) : Txt.ok (w.setCell ⟨g, o, none⟩ v) ⟨a, m, p, ld⟩ :=
  ⟨hm, hB, ht.1, ht.2, reads_put hr hc hu⟩

theorem put6_keep {W : World} {g : Nat} {a : Option Addr} {xs : List Nat} {x0 x1 x2 x3 x4 x5 : Value} (h : BoxL W g [x0, x1, x2, x3, x4, x5]) (hu : ∀ y ∈ [x0, x1, x2, x3, x4, x5], ∀ x, y ≠ .int .u8 x) (hr : Reads W a (bV xs)) (v0 v1 v2 v3 v4 v5 : Value) : Reads (put6 W g v0 v1 v2 v3 v4 v5) a (bV xs) := by
  unfold put6
  have h1 := h.put 0 v0
  have h2 := h1.put 1 v1
  have h3 := h2.put 2 v2
  have h4 := h3.put 3 v3
  have h5 := h4.put 4 v4
  have s0 := reads_put (v := v0) hr (h.2 0 (by simp)).1 (hu _ (by simp))
  have s1 := reads_put (v := v1) s0 (u := x1) (h1.2 1 (by simp)).1 (hu _ (by simp))
  have s2 := reads_put (v := v2) s1 (u := x2) (h2.2 2 (by simp)).1 (hu _ (by simp))
  have s3 := reads_put (v := v3) s2 (u := x3) (h3.2 3 (by simp)).1 (hu _ (by simp))
  have s4 := reads_put (v := v4) s3 (u := x4) (h4.2 4 (by simp)).1 (hu _ (by simp))
  exact reads_put (v := v5) s4 (u := x5) (h5.2 5 (by simp)).1 (hu _ (by simp))

theorem rdInt_byt {bs : List Nat} {bad b : Bool} {n : Int} {r : List Nat} (h : Byt bs) (e : rdInt bs bad = (n, r, b)) : Byt r := by
  unfold rdInt at e
  cases hd : dec bs with
  | none => rw [hd] at e; simp at e; obtain ⟨_, rfl, _⟩ := e; intro y hy; cases hy
  | some uk => rw [hd] at e; simp at e; obtain ⟨_, rfl, _⟩ := e; exact h.drop _

theorem rdBytes_byt {bs : List Nat} {bad b : Bool} {x r : List Nat} (h : Byt bs) (e : rdBytes bs bad = (x, r, b)) : Byt x := by
  obtain ⟨⟨n, s, c⟩, hR⟩ : ∃ z, rdInt bs bad = z := ⟨_, rfl⟩
  have hs := rdInt_byt h hR
  unfold rdBytes at e
  rw [hR] at e
  simp only at e
  split at e
  · simp at e; obtain ⟨rfl, _⟩ := e; intro y hy; cases hy
  · simp at e; obtain ⟨rfl, _⟩ := e; exact hs.take _

theorem txtB_le {a : Option Addr} {m p : Nat} (h : TxtB a m p) : m ≤ 9223372036854775807 := by
  have h1 := h.1.1
  have h2 := h.1.2
  unfold maxLen at h2
  omega

theorem rc_new (w1 : World) (a : Option Addr) (l c : Nat) (o : Obj) : RC ((w1.alloc (.cells #[.slice a l c, .int .i64 1, .bool false] 65)).alloc o) w1.heap.size a l c 1 false := by
  have h := (BoxL.new w1 [.slice a l c, .int .i64 1, .bool false] 65).below ((Below.refl _ _).alloc (Nat.le_refl _) o)
  exact ⟨(h.2 0 (by simp)).1, (h.2 1 (by simp)).1, (h.2 2 (by simp)).1, (h.2 0 (by simp)).2, (h.2 1 (by simp)).2, (h.2 2 (by simp)).2⟩

set_option maxRecDepth 100000 in
set_option maxHeartbeats 4000000 in
theorem rread_parse (a : Option Addr) (len cap : Nat) (bs : List Nat) (w : World) (hl : bs.length = len) (h5 : 5 ≤ len) (hlen : len ≤ 1000000) (hlc : len ≤ cap) (hcm : cap ≤ maxLen) (hB : Byt bs) (hr : Reads w a (bV bs)) (hm : bs.head? = some 70) (hs : bs.drop (bs.length - 4) = tail4 (crcSum (bs.take (bs.length - 4)))) :
    Calls Tryd.prog 14 #[.slice a len cap] w (ReadPost bs w) := by
  have HRR := hide (show readL bs = if (rdFrame ((bs.take (bs.length - 4)).drop 1)).2.2 = true ∨ (rdFrame ((bs.take (bs.length - 4)).drop 1)).2.1 ≠ [] ∨ wrongL (rdFrame ((bs.take (bs.length - 4)).drop 1)).1 ≠ 0 then (fr0, 4) else ((rdFrame ((bs.take (bs.length - 4)).drop 1)).1, 0) by unfold readL; rw [if_neg (by rw [hm]; simp; omega), if_neg (by simpa using hs)])
  rw [hl] at HRR
  have h0 : 0 < bs.length := by omega
  obtain ⟨b, off, har, hcell⟩ := reads_byte hr h0
  subst har
  have hx : bs[0] = 70 := by cases bs with | nil => simp at h0 | cons y l => simpa using hm
  rw [hx] at hcell
  have HB0 := hide ((Below.refl w.heap.size w).alloc (Nat.le_refl _) (.cells [.int .i64 0, .int .i64 0, .int .i64 0, .int .i64 0, .int .i64 0, .slice none 0 0].toArray 24))
  have HX0 := hide (BoxL.new w [.int .i64 0, .int .i64 0, .int .i64 0, .int .i64 0, .int .i64 0, .slice none 0 0] 24)
  have hc1 := keep_cell hcell (HB0.out)
  have hc2 : (w.alloc (.cells #[.int .i64 0, .int .i64 0, .int .i64 0, .int .i64 0, .int .i64 0, .slice none 0 0] 24)).cell? ⟨b, off, none⟩ = some (.int .u8 70) := by simpa using hc1
  clear hcell hc1 hx
  obtain ⟨V, hV⟩ : ∃ V, V = w.alloc (.cells #[.int .i64 0, .int .i64 0, .int .i64 0, .int .i64 0, .int .i64 0, .slice none 0 0] 24) := ⟨_, rfl⟩
  have hb0 : Below w.heap.size w V := by rw [hV]; exact HB0.out
  have CO := hide (open_any (some ⟨b, off, none⟩) len cap bs V hl h5 hlen hlc hcm hB (hr.below hb0))
  rw [← hV] at HX0
  have HV := hide hV
  have HBV := hide hb0
  rw [show decide (sealL (bs.take (len - 4)) = bs) = true by rw [← hl]; exact decide_eq_true ((seal_iff bs).2 hs)] at CO
  have HBK := hide (fun f (h : readL bs = (f, 0)) => read_back hB h)
  have HSB := hide (fun (W : World) (h : Below w.heap.size w W) => run_str (S := bstr bs) rfl hl (hr.below h) cap)
  have HSR := hide (fun (r : Nat) (W : World) (hrw : w.heap.size ≤ r) (hb : Below w.heap.size w W) => src_of (r := r) (l := len - 4) (c := cap) (W := W) (bs := bs.take (len - 4)) (by simp; omega) (hB.take _) (by omega) (by omega) (fun h => by cases h) hcm (hr.take (len - 4)) hrw hb)
  have HRC := hide (fun (w1 : World) (o : Obj) => (show RCur ((w1.alloc (.cells #[.slice (some ⟨b, off, none⟩) (len - 4) cap, .int .i64 1, .bool false] 65)).alloc o) w1.heap.size (some ⟨b, off, none⟩) (len - 4) cap (bs.take (len - 4)) ((bs.take (len - 4)).drop 1) false from ⟨1, by omega, rc_new w1 _ _ _ o, rfl⟩))
  have HBX := hide (hB.take (len - 4))
  generalize bs.take (len - 4) = xs at HRR HSR HRC HBX
  generalize len - 4 = l' at CO HSR HRC
  have K1 := hide (fun r W hrw (h : RCur W r (some ⟨b, off, none⟩) l' cap xs (xs.drop 1) false) hb => refcInt_any r _ l' cap xs _ _ W h (HSR.out r W hrw hb))
  obtain ⟨⟨n1, r1, b1⟩, e1⟩ : ∃ z, rdInt (xs.drop 1) false = z := ⟨_, rfl⟩
  have q1 := rdInt_bad (xs.drop 1) false (fun h => by cases h)
  rw [e1] at K1 q1
  have K2 := hide (fun r W hrw (h : RCur W r (some ⟨b, off, none⟩) l' cap xs r1 b1) hb => refcInt_any r _ l' cap xs _ _ W h (HSR.out r W hrw hb))
  obtain ⟨⟨n2, r2, b2⟩, e2⟩ : ∃ z, rdInt r1 b1 = z := ⟨_, rfl⟩
  have q2 := rdInt_bad r1 b1 q1
  rw [e2] at K2 q2
  have K3 := hide (fun r W hrw (h : RCur W r (some ⟨b, off, none⟩) l' cap xs r2 b2) hb => refcInt_any r _ l' cap xs _ _ W h (HSR.out r W hrw hb))
  obtain ⟨⟨n3, r3, b3⟩, e3⟩ : ∃ z, rdInt r2 b2 = z := ⟨_, rfl⟩
  have q3 := rdInt_bad r2 b2 q2
  rw [e3] at K3 q3
  have K4 := hide (fun r W hrw (h : RCur W r (some ⟨b, off, none⟩) l' cap xs r3 b3) hb => refcInt_any r _ l' cap xs _ _ W h (HSR.out r W hrw hb))
  obtain ⟨⟨n4, r4, b4⟩, e4⟩ : ∃ z, rdInt r3 b3 = z := ⟨_, rfl⟩
  have q4 := rdInt_bad r3 b3 q3
  rw [e4] at K4 q4
  have K5 := hide (fun r W hrw (h : RCur W r (some ⟨b, off, none⟩) l' cap xs r4 b4) hb => refcInt_any r _ l' cap xs _ _ W h (HSR.out r W hrw hb))
  obtain ⟨⟨n5, r5, b5⟩, e5⟩ : ∃ z, rdInt r4 b4 = z := ⟨_, rfl⟩
  have q5 := rdInt_bad r4 b4 q4
  rw [e5] at K5 q5
  have K6 := hide (fun r W hrw (h : RCur W r (some ⟨b, off, none⟩) l' cap xs r5 b5) hb => refcBytes_any r _ l' cap xs _ _ W h (HSR.out r W hrw hb) q5)
  obtain ⟨⟨ld, r6, b6⟩, e6⟩ : ∃ z, rdBytes r5 b5 = z := ⟨_, rfl⟩
  rw [e6] at K6
  have KL := hide (fun r W hrw (h : RCur W r (some ⟨b, off, none⟩) l' cap xs r6 b6) hb => (show Calls Tryd.prog 31 #[.pointer (some ⟨r, 0, none⟩)] W fun e w' => e = .returned (.int .i64 (r6.length : Nat)) ∧ Below W.heap.size W w' from by
    refine (refLeft_any r _ l' cap xs _ _ W h (HSR.out r W hrw hb)).mono ?_
    rintro e w' ⟨rfl, rfl | rfl⟩
    · exact ⟨rfl, Below.refl _ _⟩
    · exact ⟨rfl, (Below.refl _ _).drew⟩))
  have HBY := hide (rdBytes_byt (rdInt_byt (rdInt_byt (rdInt_byt (rdInt_byt (rdInt_byt (HBX.out.drop 1) e1) e2) e3) e4) e5) e6)
  rw [show rdFrame (xs.drop 1) = (⟨n1, n2, n3, n4, n5, ld⟩, r6, b6) by unfold rdFrame; simp only [e1, e2, e3, e4, e5, e6]] at HRR
  simp only at HRR
  clear e1 e2 e3 e4 e5 e6 q1 q2 q3 q4 q5 hV hb0 hs hr hl hB hcm h0 HSR
  simp only at K1 K2 K3 K4 K5 K6
  have hl5 : 5 ≤ len := h5
  by_cases hb6 : b6 = true
  · subst hb6
    have HR := hide (show readL bs = (fr0, 4) by rw [HRR.out, if_pos (.inl rfl)])
    have KP := hide (fun a' l' c' W ok => rpack_some ⟨n1, n2, n3, n4, n5, ld⟩ a' l' c' W ok)
    simp only [Fr.val] at KP
    go_enter Tryd.func14, Tryd.ntmps14
    go_wp2_with (first
        | (go_at_call 28; go_must (rw [← HV.out]; (with_reducible refine CO.out.mono ?_); rintro e w1 ⟨rfl, hb1⟩; have HX1 := hide (HX0.out.below hb1); have HB1 := hide (HBV.out.trans (hb1.mono HBV.out.size)); have HLT := hide (show w.heap.size < w1.heap.size from Nat.lt_of_lt_of_le HX0.out.1 hb1.size); have HC := hide (HRC.out w1 (.cells #[.int .i64 0, .int .i64 0, .int .i64 0, .int .i64 0, .int .i64 0, .slice none 0 0] 24)); have HBd := hide (show Below w.heap.size w ((w1.alloc (.cells #[.slice (some ⟨b, off, none⟩) l' cap, .int .i64 1, .bool false] 65)).alloc (.cells #[.int .i64 0, .int .i64 0, .int .i64 0, .int .i64 0, .int .i64 0, .slice none 0 0] 24)) from (HB1.out.alloc HB1.out.size _).alloc (by simp; exact Nat.le_succ_of_le HB1.out.size) _); have HF := hide (show BoxL ((w1.alloc (.cells #[.slice (some ⟨b, off, none⟩) l' cap, .int .i64 1, .bool false] 65)).alloc (.cells #[.int .i64 0, .int .i64 0, .int .i64 0, .int .i64 0, .int .i64 0, .slice none 0 0] 24)) (w1.heap.size + 1) [.int .i64 0, .int .i64 0, .int .i64 0, .int .i64 0, .int .i64 0, .slice none 0 0] from (by have := BoxL.new (w1.alloc (.cells #[.slice (some ⟨b, off, none⟩) l' cap, .int .i64 1, .bool false] 65)) [.int .i64 0, .int .i64 0, .int .i64 0, .int .i64 0, .int .i64 0, .slice none 0 0] 24; rwa [show (w1.alloc (.cells #[.slice (some ⟨b, off, none⟩) l' cap, .int .i64 1, .bool false] 65)).heap.size = w1.heap.size + 1 by simp] at this)); have HXz := hide (HX1.out.below (((Below.refl w1.heap.size w1).alloc (Nat.le_refl _) (.cells #[.slice (some ⟨b, off, none⟩) l' cap, .int .i64 1, .bool false] 65)).alloc (by simp) (.cells #[.int .i64 0, .int .i64 0, .int .i64 0, .int .i64 0, .int .i64 0, .slice none 0 0] 24)))))
        | (go_at_call 29; first
          | ((with_reducible refine (K1.out w1.heap.size _ (Nat.le_of_lt HLT.out) HC.out HBd.out).mono ?_); rintro e w2 ⟨rfl, hC1, hg1⟩; have HC1 := hide hC1; have HB_1 := hide (below_grown HBd.out hg1 (Nat.le_of_lt HLT.out)); have HF1 := hide (HF.out.grown hg1 (by omega)); have HX_1 := hide (HXz.out.grown hg1 (by have := HLT.out; omega)); clear hC1; obtain ⟨⟨c0, d0⟩, ⟨c1, d1⟩, ⟨c2, d2⟩, ⟨c3, d3⟩, ⟨c4, d4⟩, ⟨c5, d5⟩⟩ := (show BoxL w2 (w1.heap.size + 1) [.int .i64 0, .int .i64 0, .int .i64 0, .int .i64 0, .int .i64 0, .slice none 0 0] from HF1.out).six)
          | ((with_reducible refine (K2.out w1.heap.size _ (Nat.le_of_lt HLT.out) (HC1.out.put (w1.heap.size + 1) 0 (.int .i64 n1) (by omega)) (below_put (g := w1.heap.size + 1) (o := 0) (v := (.int .i64 n1)) HB_1.out (Nat.le_of_lt (Nat.lt_succ_of_lt HLT.out)))).mono ?_); rintro e w3 ⟨rfl, hC2, hg2⟩; have HC2 := hide hC2; have HB_2 := hide (below_grown (below_put (g := w1.heap.size + 1) (o := 0) (v := (.int .i64 n1)) HB_1.out (Nat.le_of_lt (Nat.lt_succ_of_lt HLT.out))) hg2 (Nat.le_of_lt HLT.out)); have HF2 := hide ((HF1.out.put 0 (.int .i64 n1)).grown hg2 (by omega)); have HX_2 := hide ((box_other (g := w1.heap.size + 1) (o := 0) (v := (.int .i64 n1)) HX_1.out (by have := HLT.out; omega)).grown hg2 (by have := HLT.out; omega)); clear hC2; obtain ⟨⟨c0, d0⟩, ⟨c1, d1⟩, ⟨c2, d2⟩, ⟨c3, d3⟩, ⟨c4, d4⟩, ⟨c5, d5⟩⟩ := (show BoxL w3 (w1.heap.size + 1) [.int .i64 n1, .int .i64 0, .int .i64 0, .int .i64 0, .int .i64 0, .slice none 0 0] from HF2.out).six)
          | ((with_reducible refine (K3.out w1.heap.size _ (Nat.le_of_lt HLT.out) (HC2.out.put (w1.heap.size + 1) 1 (.int .i64 n2) (by omega)) (below_put (g := w1.heap.size + 1) (o := 1) (v := (.int .i64 n2)) HB_2.out (Nat.le_of_lt (Nat.lt_succ_of_lt HLT.out)))).mono ?_); rintro e w4 ⟨rfl, hC3, hg3⟩; have HC3 := hide hC3; have HB_3 := hide (below_grown (below_put (g := w1.heap.size + 1) (o := 1) (v := (.int .i64 n2)) HB_2.out (Nat.le_of_lt (Nat.lt_succ_of_lt HLT.out))) hg3 (Nat.le_of_lt HLT.out)); have HF3 := hide ((HF2.out.put 1 (.int .i64 n2)).grown hg3 (by omega)); have HX_3 := hide ((box_other (g := w1.heap.size + 1) (o := 1) (v := (.int .i64 n2)) HX_2.out (by have := HLT.out; omega)).grown hg3 (by have := HLT.out; omega)); clear hC3; obtain ⟨⟨c0, d0⟩, ⟨c1, d1⟩, ⟨c2, d2⟩, ⟨c3, d3⟩, ⟨c4, d4⟩, ⟨c5, d5⟩⟩ := (show BoxL w4 (w1.heap.size + 1) [.int .i64 n1, .int .i64 n2, .int .i64 0, .int .i64 0, .int .i64 0, .slice none 0 0] from HF3.out).six)
          | ((with_reducible refine (K4.out w1.heap.size _ (Nat.le_of_lt HLT.out) (HC3.out.put (w1.heap.size + 1) 2 (.int .i64 n3) (by omega)) (below_put (g := w1.heap.size + 1) (o := 2) (v := (.int .i64 n3)) HB_3.out (Nat.le_of_lt (Nat.lt_succ_of_lt HLT.out)))).mono ?_); rintro e w5 ⟨rfl, hC4, hg4⟩; have HC4 := hide hC4; have HB_4 := hide (below_grown (below_put (g := w1.heap.size + 1) (o := 2) (v := (.int .i64 n3)) HB_3.out (Nat.le_of_lt (Nat.lt_succ_of_lt HLT.out))) hg4 (Nat.le_of_lt HLT.out)); have HF4 := hide ((HF3.out.put 2 (.int .i64 n3)).grown hg4 (by omega)); have HX_4 := hide ((box_other (g := w1.heap.size + 1) (o := 2) (v := (.int .i64 n3)) HX_3.out (by have := HLT.out; omega)).grown hg4 (by have := HLT.out; omega)); clear hC4; obtain ⟨⟨c0, d0⟩, ⟨c1, d1⟩, ⟨c2, d2⟩, ⟨c3, d3⟩, ⟨c4, d4⟩, ⟨c5, d5⟩⟩ := (show BoxL w5 (w1.heap.size + 1) [.int .i64 n1, .int .i64 n2, .int .i64 n3, .int .i64 0, .int .i64 0, .slice none 0 0] from HF4.out).six)
          | ((with_reducible refine (K5.out w1.heap.size _ (Nat.le_of_lt HLT.out) (HC4.out.put (w1.heap.size + 1) 3 (.int .i64 n4) (by omega)) (below_put (g := w1.heap.size + 1) (o := 3) (v := (.int .i64 n4)) HB_4.out (Nat.le_of_lt (Nat.lt_succ_of_lt HLT.out)))).mono ?_); rintro e w6 ⟨rfl, hC5, hg5⟩; have HC5 := hide hC5; have HB_5 := hide (below_grown (below_put (g := w1.heap.size + 1) (o := 3) (v := (.int .i64 n4)) HB_4.out (Nat.le_of_lt (Nat.lt_succ_of_lt HLT.out))) hg5 (Nat.le_of_lt HLT.out)); have HF5 := hide ((HF4.out.put 3 (.int .i64 n4)).grown hg5 (by omega)); have HX_5 := hide ((box_other (g := w1.heap.size + 1) (o := 3) (v := (.int .i64 n4)) HX_4.out (by have := HLT.out; omega)).grown hg5 (by have := HLT.out; omega)); clear hC5; obtain ⟨⟨c0, d0⟩, ⟨c1, d1⟩, ⟨c2, d2⟩, ⟨c3, d3⟩, ⟨c4, d4⟩, ⟨c5, d5⟩⟩ := (show BoxL w6 (w1.heap.size + 1) [.int .i64 n1, .int .i64 n2, .int .i64 n3, .int .i64 n4, .int .i64 0, .slice none 0 0] from HF5.out).six))
        | (go_at_call 30; go_must ((with_reducible refine (K6.out w1.heap.size _ (Nat.le_of_lt HLT.out) (HC5.out.put (w1.heap.size + 1) 4 (.int .i64 n5) (by omega)) (below_put (g := w1.heap.size + 1) (o := 4) (v := (.int .i64 n5)) HB_5.out (Nat.le_of_lt (Nat.lt_succ_of_lt HLT.out)))).mono ?_); rintro e w7 ⟨a7, p7, m7, rfl, hm7, ht7, hr7, hC7, hg7⟩; have HC7 := hide (RCur.put hC7 (w1.heap.size + 1) 5 (.slice a7 m7 p7) (by omega)); have HB_7 := hide (below_put (g := w1.heap.size + 1) (o := 5) (v := (.slice a7 m7 p7)) (below_grown (below_put (g := w1.heap.size + 1) (o := 4) (v := (.int .i64 n5)) HB_5.out (Nat.le_of_lt (Nat.lt_succ_of_lt HLT.out))) hg7 (Nat.le_of_lt HLT.out)) (Nat.le_of_lt (Nat.lt_succ_of_lt HLT.out))); have HX_7 := hide (box_other (g := w1.heap.size + 1) (o := 5) (v := (.slice a7 m7 p7)) ((box_other (g := w1.heap.size + 1) (o := 4) (v := (.int .i64 n5)) HX_5.out (by have := HLT.out; omega)).grown hg7 (by have := HLT.out; omega)) (by have := HLT.out; omega)); have HF7 := hide ((HF5.out.put 4 (.int .i64 n5)).grown hg7 (by omega)); obtain ⟨⟨c0, d0⟩, ⟨c1, d1⟩, ⟨c2, d2⟩, ⟨c3, d3⟩, ⟨c4, d4⟩, ⟨c5, d5⟩⟩ := (show BoxL w7 (w1.heap.size + 1) [.int .i64 n1, .int .i64 n2, .int .i64 n3, .int .i64 n4, .int .i64 n5, .slice none 0 0] from HF7.out).six; have HOK := hide (txt_put (g := w1.heap.size + 1) (o := 5) (v := (.slice a7 m7 p7)) hm7.out ht7 HBY.out hr7 c5 (fun x h => by cases h)); clear hr7 hC7 ht7))
        | (go_at_call 10; go_must ((with_reducible refine (KP.out a7 m7 p7 _ HOK.out).mono ?_); rintro e w8 ⟨v8, e8, rfl, hb8⟩; have HX_8 := hide (HX_7.out.below hb8); have HB_8 := hide (HB_7.out.trans (hb8.mono HB_7.out.size)); have HC8 := hide (HC7.out.below hb8); have kb := HC8.out.bad; obtain ⟨⟨y0, z0⟩, ⟨y1, z1⟩, ⟨y2, z2⟩, ⟨y3, z3⟩, ⟨y4, z4⟩, ⟨y5, z5⟩⟩ := HX_8.out.six))
        | (go_at_call 31; go_must ((with_reducible refine (KL.out w1.heap.size _ (Nat.le_of_lt HLT.out) HC8.out HB_8.out).mono ?_); rintro e w9 ⟨rfl, hb9⟩; have HX_9 := hide (HX_8.out.below hb9); have HB_9 := hide (HB_8.out.trans (hb9.mono HB_8.out.size)))))
    have HX8 := hide (put6_box HX_8.out (.int .i64 0) (.int .i64 0) (.int .i64 0) (.int .i64 0) (.int .i64 0) (.slice none 0 0))
    have HB8 := hide (put6_below HB_8.out (Nat.le_refl _) (.int .i64 0) (.int .i64 0) (.int .i64 0) (.int .i64 0) (.int .i64 0) (.slice none 0 0))
    obtain ⟨X, hX⟩ : ∃ X, X = put6 w8 w.heap.size (.int .i64 0) (.int .i64 0) (.int .i64 0) (.int .i64 0) (.int .i64 0) (.slice none 0 0) := ⟨_, rfl⟩
    rw [← hX] at HX8 HB8
    unfold put6 at hX
    rw [← hX]
    clear hX
    obtain ⟨⟨x0, -⟩, ⟨x1, -⟩, ⟨x2, -⟩, ⟨x3, -⟩, ⟨x4, -⟩, ⟨x5, -⟩⟩ := HX8.out.six
    exact bodyPost_ret (v := .tuple #[.agg #[.int .i64 0, .int .i64 0, .int .i64 0, .int .i64 0, .int .i64 0, .slice none 0 0], .int .i64 (4 : Nat)]) (by simp [results, Tryd.results14, go_sem, x0, x1, x2, x3, x4, x5]) rfl (read_no HR.out HB8.out)
  · have hb6' : b6 = false := by cases b6 <;> simp_all
    subst hb6'
    clear hb6
    by_cases hr6 : r6 = []
    · subst hr6
      by_cases hw : wrongL ⟨n1, n2, n3, n4, n5, ld⟩ = 0
      · have HR := hide (show readL bs = (⟨n1, n2, n3, n4, n5, ld⟩, 0) by rw [HRR.out, if_neg (by simp [hw])])
        have HSE := hide ((HBK.out _ HR.out).2.1)
        have KP := hide (fun a' l' c' W ok => rpackQ ⟨n1, n2, n3, n4, n5, ld⟩ a' l' c' W ok hw)
        simp only [Fr.val] at KP
        rw [← HSE.out] at KP
        go_enter Tryd.func14, Tryd.ntmps14
        go_wp2_with (first
            | (go_at_call 28; go_must (rw [← HV.out]; (with_reducible refine CO.out.mono ?_); rintro e w1 ⟨rfl, hb1⟩; have HX1 := hide (HX0.out.below hb1); have HB1 := hide (HBV.out.trans (hb1.mono HBV.out.size)); have HLT := hide (show w.heap.size < w1.heap.size from Nat.lt_of_lt_of_le HX0.out.1 hb1.size); have HC := hide (HRC.out w1 (.cells #[.int .i64 0, .int .i64 0, .int .i64 0, .int .i64 0, .int .i64 0, .slice none 0 0] 24)); have HBd := hide (show Below w.heap.size w ((w1.alloc (.cells #[.slice (some ⟨b, off, none⟩) l' cap, .int .i64 1, .bool false] 65)).alloc (.cells #[.int .i64 0, .int .i64 0, .int .i64 0, .int .i64 0, .int .i64 0, .slice none 0 0] 24)) from (HB1.out.alloc HB1.out.size _).alloc (by simp; exact Nat.le_succ_of_le HB1.out.size) _); have HF := hide (show BoxL ((w1.alloc (.cells #[.slice (some ⟨b, off, none⟩) l' cap, .int .i64 1, .bool false] 65)).alloc (.cells #[.int .i64 0, .int .i64 0, .int .i64 0, .int .i64 0, .int .i64 0, .slice none 0 0] 24)) (w1.heap.size + 1) [.int .i64 0, .int .i64 0, .int .i64 0, .int .i64 0, .int .i64 0, .slice none 0 0] from (by have := BoxL.new (w1.alloc (.cells #[.slice (some ⟨b, off, none⟩) l' cap, .int .i64 1, .bool false] 65)) [.int .i64 0, .int .i64 0, .int .i64 0, .int .i64 0, .int .i64 0, .slice none 0 0] 24; rwa [show (w1.alloc (.cells #[.slice (some ⟨b, off, none⟩) l' cap, .int .i64 1, .bool false] 65)).heap.size = w1.heap.size + 1 by simp] at this)); have HXz := hide (HX1.out.below (((Below.refl w1.heap.size w1).alloc (Nat.le_refl _) (.cells #[.slice (some ⟨b, off, none⟩) l' cap, .int .i64 1, .bool false] 65)).alloc (by simp) (.cells #[.int .i64 0, .int .i64 0, .int .i64 0, .int .i64 0, .int .i64 0, .slice none 0 0] 24)))))
            | (go_at_call 29; first
              | ((with_reducible refine (K1.out w1.heap.size _ (Nat.le_of_lt HLT.out) HC.out HBd.out).mono ?_); rintro e w2 ⟨rfl, hC1, hg1⟩; have HC1 := hide hC1; have HB_1 := hide (below_grown HBd.out hg1 (Nat.le_of_lt HLT.out)); have HF1 := hide (HF.out.grown hg1 (by omega)); have HX_1 := hide (HXz.out.grown hg1 (by have := HLT.out; omega)); clear hC1; obtain ⟨⟨c0, d0⟩, ⟨c1, d1⟩, ⟨c2, d2⟩, ⟨c3, d3⟩, ⟨c4, d4⟩, ⟨c5, d5⟩⟩ := (show BoxL w2 (w1.heap.size + 1) [.int .i64 0, .int .i64 0, .int .i64 0, .int .i64 0, .int .i64 0, .slice none 0 0] from HF1.out).six)
              | ((with_reducible refine (K2.out w1.heap.size _ (Nat.le_of_lt HLT.out) (HC1.out.put (w1.heap.size + 1) 0 (.int .i64 n1) (by omega)) (below_put (g := w1.heap.size + 1) (o := 0) (v := (.int .i64 n1)) HB_1.out (Nat.le_of_lt (Nat.lt_succ_of_lt HLT.out)))).mono ?_); rintro e w3 ⟨rfl, hC2, hg2⟩; have HC2 := hide hC2; have HB_2 := hide (below_grown (below_put (g := w1.heap.size + 1) (o := 0) (v := (.int .i64 n1)) HB_1.out (Nat.le_of_lt (Nat.lt_succ_of_lt HLT.out))) hg2 (Nat.le_of_lt HLT.out)); have HF2 := hide ((HF1.out.put 0 (.int .i64 n1)).grown hg2 (by omega)); have HX_2 := hide ((box_other (g := w1.heap.size + 1) (o := 0) (v := (.int .i64 n1)) HX_1.out (by have := HLT.out; omega)).grown hg2 (by have := HLT.out; omega)); clear hC2; obtain ⟨⟨c0, d0⟩, ⟨c1, d1⟩, ⟨c2, d2⟩, ⟨c3, d3⟩, ⟨c4, d4⟩, ⟨c5, d5⟩⟩ := (show BoxL w3 (w1.heap.size + 1) [.int .i64 n1, .int .i64 0, .int .i64 0, .int .i64 0, .int .i64 0, .slice none 0 0] from HF2.out).six)
              | ((with_reducible refine (K3.out w1.heap.size _ (Nat.le_of_lt HLT.out) (HC2.out.put (w1.heap.size + 1) 1 (.int .i64 n2) (by omega)) (below_put (g := w1.heap.size + 1) (o := 1) (v := (.int .i64 n2)) HB_2.out (Nat.le_of_lt (Nat.lt_succ_of_lt HLT.out)))).mono ?_); rintro e w4 ⟨rfl, hC3, hg3⟩; have HC3 := hide hC3; have HB_3 := hide (below_grown (below_put (g := w1.heap.size + 1) (o := 1) (v := (.int .i64 n2)) HB_2.out (Nat.le_of_lt (Nat.lt_succ_of_lt HLT.out))) hg3 (Nat.le_of_lt HLT.out)); have HF3 := hide ((HF2.out.put 1 (.int .i64 n2)).grown hg3 (by omega)); have HX_3 := hide ((box_other (g := w1.heap.size + 1) (o := 1) (v := (.int .i64 n2)) HX_2.out (by have := HLT.out; omega)).grown hg3 (by have := HLT.out; omega)); clear hC3; obtain ⟨⟨c0, d0⟩, ⟨c1, d1⟩, ⟨c2, d2⟩, ⟨c3, d3⟩, ⟨c4, d4⟩, ⟨c5, d5⟩⟩ := (show BoxL w4 (w1.heap.size + 1) [.int .i64 n1, .int .i64 n2, .int .i64 0, .int .i64 0, .int .i64 0, .slice none 0 0] from HF3.out).six)
              | ((with_reducible refine (K4.out w1.heap.size _ (Nat.le_of_lt HLT.out) (HC3.out.put (w1.heap.size + 1) 2 (.int .i64 n3) (by omega)) (below_put (g := w1.heap.size + 1) (o := 2) (v := (.int .i64 n3)) HB_3.out (Nat.le_of_lt (Nat.lt_succ_of_lt HLT.out)))).mono ?_); rintro e w5 ⟨rfl, hC4, hg4⟩; have HC4 := hide hC4; have HB_4 := hide (below_grown (below_put (g := w1.heap.size + 1) (o := 2) (v := (.int .i64 n3)) HB_3.out (Nat.le_of_lt (Nat.lt_succ_of_lt HLT.out))) hg4 (Nat.le_of_lt HLT.out)); have HF4 := hide ((HF3.out.put 2 (.int .i64 n3)).grown hg4 (by omega)); have HX_4 := hide ((box_other (g := w1.heap.size + 1) (o := 2) (v := (.int .i64 n3)) HX_3.out (by have := HLT.out; omega)).grown hg4 (by have := HLT.out; omega)); clear hC4; obtain ⟨⟨c0, d0⟩, ⟨c1, d1⟩, ⟨c2, d2⟩, ⟨c3, d3⟩, ⟨c4, d4⟩, ⟨c5, d5⟩⟩ := (show BoxL w5 (w1.heap.size + 1) [.int .i64 n1, .int .i64 n2, .int .i64 n3, .int .i64 0, .int .i64 0, .slice none 0 0] from HF4.out).six)
              | ((with_reducible refine (K5.out w1.heap.size _ (Nat.le_of_lt HLT.out) (HC4.out.put (w1.heap.size + 1) 3 (.int .i64 n4) (by omega)) (below_put (g := w1.heap.size + 1) (o := 3) (v := (.int .i64 n4)) HB_4.out (Nat.le_of_lt (Nat.lt_succ_of_lt HLT.out)))).mono ?_); rintro e w6 ⟨rfl, hC5, hg5⟩; have HC5 := hide hC5; have HB_5 := hide (below_grown (below_put (g := w1.heap.size + 1) (o := 3) (v := (.int .i64 n4)) HB_4.out (Nat.le_of_lt (Nat.lt_succ_of_lt HLT.out))) hg5 (Nat.le_of_lt HLT.out)); have HF5 := hide ((HF4.out.put 3 (.int .i64 n4)).grown hg5 (by omega)); have HX_5 := hide ((box_other (g := w1.heap.size + 1) (o := 3) (v := (.int .i64 n4)) HX_4.out (by have := HLT.out; omega)).grown hg5 (by have := HLT.out; omega)); clear hC5; obtain ⟨⟨c0, d0⟩, ⟨c1, d1⟩, ⟨c2, d2⟩, ⟨c3, d3⟩, ⟨c4, d4⟩, ⟨c5, d5⟩⟩ := (show BoxL w6 (w1.heap.size + 1) [.int .i64 n1, .int .i64 n2, .int .i64 n3, .int .i64 n4, .int .i64 0, .slice none 0 0] from HF5.out).six))
            | (go_at_call 30; go_must ((with_reducible refine (K6.out w1.heap.size _ (Nat.le_of_lt HLT.out) (HC5.out.put (w1.heap.size + 1) 4 (.int .i64 n5) (by omega)) (below_put (g := w1.heap.size + 1) (o := 4) (v := (.int .i64 n5)) HB_5.out (Nat.le_of_lt (Nat.lt_succ_of_lt HLT.out)))).mono ?_); rintro e w7 ⟨a7, p7, m7, rfl, hm7, ht7, hr7, hC7, hg7⟩; have HC7 := hide (RCur.put hC7 (w1.heap.size + 1) 5 (.slice a7 m7 p7) (by omega)); have HB_7 := hide (below_put (g := w1.heap.size + 1) (o := 5) (v := (.slice a7 m7 p7)) (below_grown (below_put (g := w1.heap.size + 1) (o := 4) (v := (.int .i64 n5)) HB_5.out (Nat.le_of_lt (Nat.lt_succ_of_lt HLT.out))) hg7 (Nat.le_of_lt HLT.out)) (Nat.le_of_lt (Nat.lt_succ_of_lt HLT.out))); have HX_7 := hide (box_other (g := w1.heap.size + 1) (o := 5) (v := (.slice a7 m7 p7)) ((box_other (g := w1.heap.size + 1) (o := 4) (v := (.int .i64 n5)) HX_5.out (by have := HLT.out; omega)).grown hg7 (by have := HLT.out; omega)) (by have := HLT.out; omega)); have HF7 := hide ((HF5.out.put 4 (.int .i64 n5)).grown hg7 (by omega)); obtain ⟨⟨c0, d0⟩, ⟨c1, d1⟩, ⟨c2, d2⟩, ⟨c3, d3⟩, ⟨c4, d4⟩, ⟨c5, d5⟩⟩ := (show BoxL w7 (w1.heap.size + 1) [.int .i64 n1, .int .i64 n2, .int .i64 n3, .int .i64 n4, .int .i64 n5, .slice none 0 0] from HF7.out).six; have HOK := hide (txt_put (g := w1.heap.size + 1) (o := 5) (v := (.slice a7 m7 p7)) hm7.out ht7 HBY.out hr7 c5 (fun x h => by cases h)); clear hr7 hC7 ht7))
            | (go_at_call 10; go_must ((with_reducible refine (KP.out a7 m7 p7 _ HOK.out).mono ?_); rintro e w8 ⟨q8, m8, p8, rfl, ho8, hb8⟩; have HX_8 := hide (HX_7.out.below hb8); have HB_8 := hide (HB_7.out.trans (hb8.mono HB_7.out.size)); have HC8 := hide (HC7.out.below hb8); have kb := HC8.out.bad))
            | (go_at_call 31; go_must ((with_reducible refine (KL.out w1.heap.size _ (Nat.le_of_lt HLT.out) HC8.out HB_8.out).mono ?_); rintro e w9 ⟨rfl, hb9⟩; have HX_9 := hide (HX_8.out.below hb9); have HB_9 := hide (HB_8.out.trans (hb9.mono HB_8.out.size)); obtain ⟨⟨y0, z0⟩, ⟨y1, z1⟩, ⟨y2, z2⟩, ⟨y3, z3⟩, ⟨y4, z4⟩, ⟨y5, z5⟩⟩ := HX_9.out.six; have hs2 := HSB.out w9 HB_9.out; have HO9 := hide (ho8.below hb9); have hs1 := run_str (S := bstr bs) rfl HO9.out.len HO9.out.reads p8; have HF9 := hide (((show BoxL (w7.setCell ⟨w1.heap.size + 1, 5, none⟩ (.slice a7 m7 p7)) (w1.heap.size + 1) [.int .i64 n1, .int .i64 n2, .int .i64 n3, .int .i64 n4, .int .i64 n5, .slice a7 m7 p7] from HF7.out.put 5 (.slice a7 m7 p7)).below hb8).below hb9); obtain ⟨⟨u0, -⟩, ⟨u1, -⟩, ⟨u2, -⟩, ⟨u3, -⟩, ⟨u4, -⟩, ⟨u5, -⟩⟩ := HF9.out.six; have HRD := hide ((show Reads _ a7 (bV ld) from HOK.out.2.2.2.2).below hb8 |>.below hb9))))
        have HX8 := hide (put6_box HX_9.out (.int .i64 n1) (.int .i64 n2) (.int .i64 n3) (.int .i64 n4) (.int .i64 n5) (.slice a7 m7 p7))
        have HB8 := hide (put6_below HB_9.out (Nat.le_refl _) (.int .i64 n1) (.int .i64 n2) (.int .i64 n3) (.int .i64 n4) (.int .i64 n5) (.slice a7 m7 p7))
        have HRX := hide (put6_keep HX_9.out (by simp) HRD.out (.int .i64 n1) (.int .i64 n2) (.int .i64 n3) (.int .i64 n4) (.int .i64 n5) (.slice a7 m7 p7))
        obtain ⟨X, hX⟩ : ∃ X, X = put6 w9 w.heap.size (.int .i64 n1) (.int .i64 n2) (.int .i64 n3) (.int .i64 n4) (.int .i64 n5) (.slice a7 m7 p7) := ⟨_, rfl⟩
        rw [← hX] at HX8 HB8 HRX
        unfold put6 at hX
        rw [← hX]
        clear hX
        obtain ⟨⟨x0, -⟩, ⟨x1, -⟩, ⟨x2, -⟩, ⟨x3, -⟩, ⟨x4, -⟩, ⟨x5, -⟩⟩ := HX8.out.six
        exact bodyPost_ret (v := .tuple #[.agg #[.int .i64 n1, .int .i64 n2, .int .i64 n3, .int .i64 n4, .int .i64 n5, .slice a7 m7 p7], .int .i64 (0 : Nat)]) (by simp [results, Tryd.results14, go_sem, x0, x1, x2, x3, x4, x5]) rfl ⟨a7, m7, p7, by rw [HR.out]; rfl, by rw [HR.out]; exact hm7.out, by rw [HR.out]; exact HRX.out, HB8.out⟩
      · have HR := hide (show readL bs = (fr0, 4) by rw [HRR.out, if_pos (.inr (.inr hw))])
        have KP := hide (fun a' l' c' W (h1 : ld.length = l') (h2 : l' ≤ 9223372036854775807) => rpack_no ⟨n1, n2, n3, n4, n5, ld⟩ a' l' c' W h1 h2 hw)
        simp only [Fr.val] at KP
        generalize wrongL ⟨n1, n2, n3, n4, n5, ld⟩ = e0 at KP hw
        have he : ((e0 : Int) == 0) = false := by rw [beq_eq_false_iff_ne]; omega
        have he2 : ((e0 : Int) != 0) = true := by simp [bne, he]
        go_enter Tryd.func14, Tryd.ntmps14
        go_wp2_with (first
            | (go_at_call 28; go_must (rw [← HV.out]; (with_reducible refine CO.out.mono ?_); rintro e w1 ⟨rfl, hb1⟩; have HX1 := hide (HX0.out.below hb1); have HB1 := hide (HBV.out.trans (hb1.mono HBV.out.size)); have HLT := hide (show w.heap.size < w1.heap.size from Nat.lt_of_lt_of_le HX0.out.1 hb1.size); have HC := hide (HRC.out w1 (.cells #[.int .i64 0, .int .i64 0, .int .i64 0, .int .i64 0, .int .i64 0, .slice none 0 0] 24)); have HBd := hide (show Below w.heap.size w ((w1.alloc (.cells #[.slice (some ⟨b, off, none⟩) l' cap, .int .i64 1, .bool false] 65)).alloc (.cells #[.int .i64 0, .int .i64 0, .int .i64 0, .int .i64 0, .int .i64 0, .slice none 0 0] 24)) from (HB1.out.alloc HB1.out.size _).alloc (by simp; exact Nat.le_succ_of_le HB1.out.size) _); have HF := hide (show BoxL ((w1.alloc (.cells #[.slice (some ⟨b, off, none⟩) l' cap, .int .i64 1, .bool false] 65)).alloc (.cells #[.int .i64 0, .int .i64 0, .int .i64 0, .int .i64 0, .int .i64 0, .slice none 0 0] 24)) (w1.heap.size + 1) [.int .i64 0, .int .i64 0, .int .i64 0, .int .i64 0, .int .i64 0, .slice none 0 0] from (by have := BoxL.new (w1.alloc (.cells #[.slice (some ⟨b, off, none⟩) l' cap, .int .i64 1, .bool false] 65)) [.int .i64 0, .int .i64 0, .int .i64 0, .int .i64 0, .int .i64 0, .slice none 0 0] 24; rwa [show (w1.alloc (.cells #[.slice (some ⟨b, off, none⟩) l' cap, .int .i64 1, .bool false] 65)).heap.size = w1.heap.size + 1 by simp] at this)); have HXz := hide (HX1.out.below (((Below.refl w1.heap.size w1).alloc (Nat.le_refl _) (.cells #[.slice (some ⟨b, off, none⟩) l' cap, .int .i64 1, .bool false] 65)).alloc (by simp) (.cells #[.int .i64 0, .int .i64 0, .int .i64 0, .int .i64 0, .int .i64 0, .slice none 0 0] 24)))))
            | (go_at_call 29; first
              | ((with_reducible refine (K1.out w1.heap.size _ (Nat.le_of_lt HLT.out) HC.out HBd.out).mono ?_); rintro e w2 ⟨rfl, hC1, hg1⟩; have HC1 := hide hC1; have HB_1 := hide (below_grown HBd.out hg1 (Nat.le_of_lt HLT.out)); have HF1 := hide (HF.out.grown hg1 (by omega)); have HX_1 := hide (HXz.out.grown hg1 (by have := HLT.out; omega)); clear hC1; obtain ⟨⟨c0, d0⟩, ⟨c1, d1⟩, ⟨c2, d2⟩, ⟨c3, d3⟩, ⟨c4, d4⟩, ⟨c5, d5⟩⟩ := (show BoxL w2 (w1.heap.size + 1) [.int .i64 0, .int .i64 0, .int .i64 0, .int .i64 0, .int .i64 0, .slice none 0 0] from HF1.out).six)
              | ((with_reducible refine (K2.out w1.heap.size _ (Nat.le_of_lt HLT.out) (HC1.out.put (w1.heap.size + 1) 0 (.int .i64 n1) (by omega)) (below_put (g := w1.heap.size + 1) (o := 0) (v := (.int .i64 n1)) HB_1.out (Nat.le_of_lt (Nat.lt_succ_of_lt HLT.out)))).mono ?_); rintro e w3 ⟨rfl, hC2, hg2⟩; have HC2 := hide hC2; have HB_2 := hide (below_grown (below_put (g := w1.heap.size + 1) (o := 0) (v := (.int .i64 n1)) HB_1.out (Nat.le_of_lt (Nat.lt_succ_of_lt HLT.out))) hg2 (Nat.le_of_lt HLT.out)); have HF2 := hide ((HF1.out.put 0 (.int .i64 n1)).grown hg2 (by omega)); have HX_2 := hide ((box_other (g := w1.heap.size + 1) (o := 0) (v := (.int .i64 n1)) HX_1.out (by have := HLT.out; omega)).grown hg2 (by have := HLT.out; omega)); clear hC2; obtain ⟨⟨c0, d0⟩, ⟨c1, d1⟩, ⟨c2, d2⟩, ⟨c3, d3⟩, ⟨c4, d4⟩, ⟨c5, d5⟩⟩ := (show BoxL w3 (w1.heap.size + 1) [.int .i64 n1, .int .i64 0, .int .i64 0, .int .i64 0, .int .i64 0, .slice none 0 0] from HF2.out).six)
              | ((with_reducible refine (K3.out w1.heap.size _ (Nat.le_of_lt HLT.out) (HC2.out.put (w1.heap.size + 1) 1 (.int .i64 n2) (by omega)) (below_put (g := w1.heap.size + 1) (o := 1) (v := (.int .i64 n2)) HB_2.out (Nat.le_of_lt (Nat.lt_succ_of_lt HLT.out)))).mono ?_); rintro e w4 ⟨rfl, hC3, hg3⟩; have HC3 := hide hC3; have HB_3 := hide (below_grown (below_put (g := w1.heap.size + 1) (o := 1) (v := (.int .i64 n2)) HB_2.out (Nat.le_of_lt (Nat.lt_succ_of_lt HLT.out))) hg3 (Nat.le_of_lt HLT.out)); have HF3 := hide ((HF2.out.put 1 (.int .i64 n2)).grown hg3 (by omega)); have HX_3 := hide ((box_other (g := w1.heap.size + 1) (o := 1) (v := (.int .i64 n2)) HX_2.out (by have := HLT.out; omega)).grown hg3 (by have := HLT.out; omega)); clear hC3; obtain ⟨⟨c0, d0⟩, ⟨c1, d1⟩, ⟨c2, d2⟩, ⟨c3, d3⟩, ⟨c4, d4⟩, ⟨c5, d5⟩⟩ := (show BoxL w4 (w1.heap.size + 1) [.int .i64 n1, .int .i64 n2, .int .i64 0, .int .i64 0, .int .i64 0, .slice none 0 0] from HF3.out).six)
              | ((with_reducible refine (K4.out w1.heap.size _ (Nat.le_of_lt HLT.out) (HC3.out.put (w1.heap.size + 1) 2 (.int .i64 n3) (by omega)) (below_put (g := w1.heap.size + 1) (o := 2) (v := (.int .i64 n3)) HB_3.out (Nat.le_of_lt (Nat.lt_succ_of_lt HLT.out)))).mono ?_); rintro e w5 ⟨rfl, hC4, hg4⟩; have HC4 := hide hC4; have HB_4 := hide (below_grown (below_put (g := w1.heap.size + 1) (o := 2) (v := (.int .i64 n3)) HB_3.out (Nat.le_of_lt (Nat.lt_succ_of_lt HLT.out))) hg4 (Nat.le_of_lt HLT.out)); have HF4 := hide ((HF3.out.put 2 (.int .i64 n3)).grown hg4 (by omega)); have HX_4 := hide ((box_other (g := w1.heap.size + 1) (o := 2) (v := (.int .i64 n3)) HX_3.out (by have := HLT.out; omega)).grown hg4 (by have := HLT.out; omega)); clear hC4; obtain ⟨⟨c0, d0⟩, ⟨c1, d1⟩, ⟨c2, d2⟩, ⟨c3, d3⟩, ⟨c4, d4⟩, ⟨c5, d5⟩⟩ := (show BoxL w5 (w1.heap.size + 1) [.int .i64 n1, .int .i64 n2, .int .i64 n3, .int .i64 0, .int .i64 0, .slice none 0 0] from HF4.out).six)
              | ((with_reducible refine (K5.out w1.heap.size _ (Nat.le_of_lt HLT.out) (HC4.out.put (w1.heap.size + 1) 3 (.int .i64 n4) (by omega)) (below_put (g := w1.heap.size + 1) (o := 3) (v := (.int .i64 n4)) HB_4.out (Nat.le_of_lt (Nat.lt_succ_of_lt HLT.out)))).mono ?_); rintro e w6 ⟨rfl, hC5, hg5⟩; have HC5 := hide hC5; have HB_5 := hide (below_grown (below_put (g := w1.heap.size + 1) (o := 3) (v := (.int .i64 n4)) HB_4.out (Nat.le_of_lt (Nat.lt_succ_of_lt HLT.out))) hg5 (Nat.le_of_lt HLT.out)); have HF5 := hide ((HF4.out.put 3 (.int .i64 n4)).grown hg5 (by omega)); have HX_5 := hide ((box_other (g := w1.heap.size + 1) (o := 3) (v := (.int .i64 n4)) HX_4.out (by have := HLT.out; omega)).grown hg5 (by have := HLT.out; omega)); clear hC5; obtain ⟨⟨c0, d0⟩, ⟨c1, d1⟩, ⟨c2, d2⟩, ⟨c3, d3⟩, ⟨c4, d4⟩, ⟨c5, d5⟩⟩ := (show BoxL w6 (w1.heap.size + 1) [.int .i64 n1, .int .i64 n2, .int .i64 n3, .int .i64 n4, .int .i64 0, .slice none 0 0] from HF5.out).six))
            | (go_at_call 30; go_must ((with_reducible refine (K6.out w1.heap.size _ (Nat.le_of_lt HLT.out) (HC5.out.put (w1.heap.size + 1) 4 (.int .i64 n5) (by omega)) (below_put (g := w1.heap.size + 1) (o := 4) (v := (.int .i64 n5)) HB_5.out (Nat.le_of_lt (Nat.lt_succ_of_lt HLT.out)))).mono ?_); rintro e w7 ⟨a7, p7, m7, rfl, hm7, ht7, hr7, hC7, hg7⟩; have HC7 := hide (RCur.put hC7 (w1.heap.size + 1) 5 (.slice a7 m7 p7) (by omega)); have HB_7 := hide (below_put (g := w1.heap.size + 1) (o := 5) (v := (.slice a7 m7 p7)) (below_grown (below_put (g := w1.heap.size + 1) (o := 4) (v := (.int .i64 n5)) HB_5.out (Nat.le_of_lt (Nat.lt_succ_of_lt HLT.out))) hg7 (Nat.le_of_lt HLT.out)) (Nat.le_of_lt (Nat.lt_succ_of_lt HLT.out))); have HX_7 := hide (box_other (g := w1.heap.size + 1) (o := 5) (v := (.slice a7 m7 p7)) ((box_other (g := w1.heap.size + 1) (o := 4) (v := (.int .i64 n5)) HX_5.out (by have := HLT.out; omega)).grown hg7 (by have := HLT.out; omega)) (by have := HLT.out; omega)); have HF7 := hide ((HF5.out.put 4 (.int .i64 n5)).grown hg7 (by omega)); obtain ⟨⟨c0, d0⟩, ⟨c1, d1⟩, ⟨c2, d2⟩, ⟨c3, d3⟩, ⟨c4, d4⟩, ⟨c5, d5⟩⟩ := (show BoxL w7 (w1.heap.size + 1) [.int .i64 n1, .int .i64 n2, .int .i64 n3, .int .i64 n4, .int .i64 n5, .slice none 0 0] from HF7.out).six; have HOK := hide (txt_put (g := w1.heap.size + 1) (o := 5) (v := (.slice a7 m7 p7)) hm7.out ht7 HBY.out hr7 c5 (fun x h => by cases h)); have HOKl := hide (txtB_le ht7); clear hr7 hC7 ht7))
            | (go_at_call 10; go_must ((with_reducible refine (KP.out a7 m7 p7 _ hm7.out HOKl.out).mono ?_); rintro e w8 ⟨rfl, hb8⟩; have HX_8 := hide (HX_7.out.below hb8); have HB_8 := hide (HB_7.out.trans (hb8.mono HB_7.out.size)); have HC8 := hide (HC7.out.below hb8); have kb := HC8.out.bad))
            | (go_at_call 31; go_must ((with_reducible refine (KL.out w1.heap.size _ (Nat.le_of_lt HLT.out) HC8.out HB_8.out).mono ?_); rintro e w9 ⟨rfl, hb9⟩; have HX_9 := hide (HX_8.out.below hb9); have HB_9 := hide (HB_8.out.trans (hb9.mono HB_8.out.size)); obtain ⟨⟨y0, z0⟩, ⟨y1, z1⟩, ⟨y2, z2⟩, ⟨y3, z3⟩, ⟨y4, z4⟩, ⟨y5, z5⟩⟩ := HX_9.out.six)))
        have HX8 := hide (put6_box HX_9.out (.int .i64 0) (.int .i64 0) (.int .i64 0) (.int .i64 0) (.int .i64 0) (.slice none 0 0))
        have HB8 := hide (put6_below HB_9.out (Nat.le_refl _) (.int .i64 0) (.int .i64 0) (.int .i64 0) (.int .i64 0) (.int .i64 0) (.slice none 0 0))
        obtain ⟨X, hX⟩ : ∃ X, X = put6 w9 w.heap.size (.int .i64 0) (.int .i64 0) (.int .i64 0) (.int .i64 0) (.int .i64 0) (.slice none 0 0) := ⟨_, rfl⟩
        rw [← hX] at HX8 HB8
        unfold put6 at hX
        rw [← hX]
        clear hX
        obtain ⟨⟨x0, -⟩, ⟨x1, -⟩, ⟨x2, -⟩, ⟨x3, -⟩, ⟨x4, -⟩, ⟨x5, -⟩⟩ := HX8.out.six
        exact bodyPost_ret (v := .tuple #[.agg #[.int .i64 0, .int .i64 0, .int .i64 0, .int .i64 0, .int .i64 0, .slice none 0 0], .int .i64 (4 : Nat)]) (by simp [results, Tryd.results14, go_sem, x0, x1, x2, x3, x4, x5]) rfl (read_no HR.out HB8.out)
    · have HR := hide (show readL bs = (fr0, 4) by rw [HRR.out, if_pos (.inr (.inl hr6))])
      have KP := hide (fun a' l' c' W ok => rpack_some ⟨n1, n2, n3, n4, n5, ld⟩ a' l' c' W ok)
      simp only [Fr.val] at KP
      have hn0 : r6.length ≠ 0 := fun h => hr6 (List.eq_nil_of_length_eq_zero h)
      generalize r6.length = t6 at KL hn0
      have he : ((t6 : Int) == 0) = false := by rw [beq_eq_false_iff_ne]; omega
      have he2 : ((t6 : Int) != 0) = true := by simp [bne, he]
      go_enter Tryd.func14, Tryd.ntmps14
      go_wp2_with (first
          | (go_at_call 28; go_must (rw [← HV.out]; (with_reducible refine CO.out.mono ?_); rintro e w1 ⟨rfl, hb1⟩; have HX1 := hide (HX0.out.below hb1); have HB1 := hide (HBV.out.trans (hb1.mono HBV.out.size)); have HLT := hide (show w.heap.size < w1.heap.size from Nat.lt_of_lt_of_le HX0.out.1 hb1.size); have HC := hide (HRC.out w1 (.cells #[.int .i64 0, .int .i64 0, .int .i64 0, .int .i64 0, .int .i64 0, .slice none 0 0] 24)); have HBd := hide (show Below w.heap.size w ((w1.alloc (.cells #[.slice (some ⟨b, off, none⟩) l' cap, .int .i64 1, .bool false] 65)).alloc (.cells #[.int .i64 0, .int .i64 0, .int .i64 0, .int .i64 0, .int .i64 0, .slice none 0 0] 24)) from (HB1.out.alloc HB1.out.size _).alloc (by simp; exact Nat.le_succ_of_le HB1.out.size) _); have HF := hide (show BoxL ((w1.alloc (.cells #[.slice (some ⟨b, off, none⟩) l' cap, .int .i64 1, .bool false] 65)).alloc (.cells #[.int .i64 0, .int .i64 0, .int .i64 0, .int .i64 0, .int .i64 0, .slice none 0 0] 24)) (w1.heap.size + 1) [.int .i64 0, .int .i64 0, .int .i64 0, .int .i64 0, .int .i64 0, .slice none 0 0] from (by have := BoxL.new (w1.alloc (.cells #[.slice (some ⟨b, off, none⟩) l' cap, .int .i64 1, .bool false] 65)) [.int .i64 0, .int .i64 0, .int .i64 0, .int .i64 0, .int .i64 0, .slice none 0 0] 24; rwa [show (w1.alloc (.cells #[.slice (some ⟨b, off, none⟩) l' cap, .int .i64 1, .bool false] 65)).heap.size = w1.heap.size + 1 by simp] at this)); have HXz := hide (HX1.out.below (((Below.refl w1.heap.size w1).alloc (Nat.le_refl _) (.cells #[.slice (some ⟨b, off, none⟩) l' cap, .int .i64 1, .bool false] 65)).alloc (by simp) (.cells #[.int .i64 0, .int .i64 0, .int .i64 0, .int .i64 0, .int .i64 0, .slice none 0 0] 24)))))
          | (go_at_call 29; first
            | ((with_reducible refine (K1.out w1.heap.size _ (Nat.le_of_lt HLT.out) HC.out HBd.out).mono ?_); rintro e w2 ⟨rfl, hC1, hg1⟩; have HC1 := hide hC1; have HB_1 := hide (below_grown HBd.out hg1 (Nat.le_of_lt HLT.out)); have HF1 := hide (HF.out.grown hg1 (by omega)); have HX_1 := hide (HXz.out.grown hg1 (by have := HLT.out; omega)); clear hC1; obtain ⟨⟨c0, d0⟩, ⟨c1, d1⟩, ⟨c2, d2⟩, ⟨c3, d3⟩, ⟨c4, d4⟩, ⟨c5, d5⟩⟩ := (show BoxL w2 (w1.heap.size + 1) [.int .i64 0, .int .i64 0, .int .i64 0, .int .i64 0, .int .i64 0, .slice none 0 0] from HF1.out).six)
            | ((with_reducible refine (K2.out w1.heap.size _ (Nat.le_of_lt HLT.out) (HC1.out.put (w1.heap.size + 1) 0 (.int .i64 n1) (by omega)) (below_put (g := w1.heap.size + 1) (o := 0) (v := (.int .i64 n1)) HB_1.out (Nat.le_of_lt (Nat.lt_succ_of_lt HLT.out)))).mono ?_); rintro e w3 ⟨rfl, hC2, hg2⟩; have HC2 := hide hC2; have HB_2 := hide (below_grown (below_put (g := w1.heap.size + 1) (o := 0) (v := (.int .i64 n1)) HB_1.out (Nat.le_of_lt (Nat.lt_succ_of_lt HLT.out))) hg2 (Nat.le_of_lt HLT.out)); have HF2 := hide ((HF1.out.put 0 (.int .i64 n1)).grown hg2 (by omega)); have HX_2 := hide ((box_other (g := w1.heap.size + 1) (o := 0) (v := (.int .i64 n1)) HX_1.out (by have := HLT.out; omega)).grown hg2 (by have := HLT.out; omega)); clear hC2; obtain ⟨⟨c0, d0⟩, ⟨c1, d1⟩, ⟨c2, d2⟩, ⟨c3, d3⟩, ⟨c4, d4⟩, ⟨c5, d5⟩⟩ := (show BoxL w3 (w1.heap.size + 1) [.int .i64 n1, .int .i64 0, .int .i64 0, .int .i64 0, .int .i64 0, .slice none 0 0] from HF2.out).six)
            | ((with_reducible refine (K3.out w1.heap.size _ (Nat.le_of_lt HLT.out) (HC2.out.put (w1.heap.size + 1) 1 (.int .i64 n2) (by omega)) (below_put (g := w1.heap.size + 1) (o := 1) (v := (.int .i64 n2)) HB_2.out (Nat.le_of_lt (Nat.lt_succ_of_lt HLT.out)))).mono ?_); rintro e w4 ⟨rfl, hC3, hg3⟩; have HC3 := hide hC3; have HB_3 := hide (below_grown (below_put (g := w1.heap.size + 1) (o := 1) (v := (.int .i64 n2)) HB_2.out (Nat.le_of_lt (Nat.lt_succ_of_lt HLT.out))) hg3 (Nat.le_of_lt HLT.out)); have HF3 := hide ((HF2.out.put 1 (.int .i64 n2)).grown hg3 (by omega)); have HX_3 := hide ((box_other (g := w1.heap.size + 1) (o := 1) (v := (.int .i64 n2)) HX_2.out (by have := HLT.out; omega)).grown hg3 (by have := HLT.out; omega)); clear hC3; obtain ⟨⟨c0, d0⟩, ⟨c1, d1⟩, ⟨c2, d2⟩, ⟨c3, d3⟩, ⟨c4, d4⟩, ⟨c5, d5⟩⟩ := (show BoxL w4 (w1.heap.size + 1) [.int .i64 n1, .int .i64 n2, .int .i64 0, .int .i64 0, .int .i64 0, .slice none 0 0] from HF3.out).six)
            | ((with_reducible refine (K4.out w1.heap.size _ (Nat.le_of_lt HLT.out) (HC3.out.put (w1.heap.size + 1) 2 (.int .i64 n3) (by omega)) (below_put (g := w1.heap.size + 1) (o := 2) (v := (.int .i64 n3)) HB_3.out (Nat.le_of_lt (Nat.lt_succ_of_lt HLT.out)))).mono ?_); rintro e w5 ⟨rfl, hC4, hg4⟩; have HC4 := hide hC4; have HB_4 := hide (below_grown (below_put (g := w1.heap.size + 1) (o := 2) (v := (.int .i64 n3)) HB_3.out (Nat.le_of_lt (Nat.lt_succ_of_lt HLT.out))) hg4 (Nat.le_of_lt HLT.out)); have HF4 := hide ((HF3.out.put 2 (.int .i64 n3)).grown hg4 (by omega)); have HX_4 := hide ((box_other (g := w1.heap.size + 1) (o := 2) (v := (.int .i64 n3)) HX_3.out (by have := HLT.out; omega)).grown hg4 (by have := HLT.out; omega)); clear hC4; obtain ⟨⟨c0, d0⟩, ⟨c1, d1⟩, ⟨c2, d2⟩, ⟨c3, d3⟩, ⟨c4, d4⟩, ⟨c5, d5⟩⟩ := (show BoxL w5 (w1.heap.size + 1) [.int .i64 n1, .int .i64 n2, .int .i64 n3, .int .i64 0, .int .i64 0, .slice none 0 0] from HF4.out).six)
            | ((with_reducible refine (K5.out w1.heap.size _ (Nat.le_of_lt HLT.out) (HC4.out.put (w1.heap.size + 1) 3 (.int .i64 n4) (by omega)) (below_put (g := w1.heap.size + 1) (o := 3) (v := (.int .i64 n4)) HB_4.out (Nat.le_of_lt (Nat.lt_succ_of_lt HLT.out)))).mono ?_); rintro e w6 ⟨rfl, hC5, hg5⟩; have HC5 := hide hC5; have HB_5 := hide (below_grown (below_put (g := w1.heap.size + 1) (o := 3) (v := (.int .i64 n4)) HB_4.out (Nat.le_of_lt (Nat.lt_succ_of_lt HLT.out))) hg5 (Nat.le_of_lt HLT.out)); have HF5 := hide ((HF4.out.put 3 (.int .i64 n4)).grown hg5 (by omega)); have HX_5 := hide ((box_other (g := w1.heap.size + 1) (o := 3) (v := (.int .i64 n4)) HX_4.out (by have := HLT.out; omega)).grown hg5 (by have := HLT.out; omega)); clear hC5; obtain ⟨⟨c0, d0⟩, ⟨c1, d1⟩, ⟨c2, d2⟩, ⟨c3, d3⟩, ⟨c4, d4⟩, ⟨c5, d5⟩⟩ := (show BoxL w6 (w1.heap.size + 1) [.int .i64 n1, .int .i64 n2, .int .i64 n3, .int .i64 n4, .int .i64 0, .slice none 0 0] from HF5.out).six))
          | (go_at_call 30; go_must ((with_reducible refine (K6.out w1.heap.size _ (Nat.le_of_lt HLT.out) (HC5.out.put (w1.heap.size + 1) 4 (.int .i64 n5) (by omega)) (below_put (g := w1.heap.size + 1) (o := 4) (v := (.int .i64 n5)) HB_5.out (Nat.le_of_lt (Nat.lt_succ_of_lt HLT.out)))).mono ?_); rintro e w7 ⟨a7, p7, m7, rfl, hm7, ht7, hr7, hC7, hg7⟩; have HC7 := hide (RCur.put hC7 (w1.heap.size + 1) 5 (.slice a7 m7 p7) (by omega)); have HB_7 := hide (below_put (g := w1.heap.size + 1) (o := 5) (v := (.slice a7 m7 p7)) (below_grown (below_put (g := w1.heap.size + 1) (o := 4) (v := (.int .i64 n5)) HB_5.out (Nat.le_of_lt (Nat.lt_succ_of_lt HLT.out))) hg7 (Nat.le_of_lt HLT.out)) (Nat.le_of_lt (Nat.lt_succ_of_lt HLT.out))); have HX_7 := hide (box_other (g := w1.heap.size + 1) (o := 5) (v := (.slice a7 m7 p7)) ((box_other (g := w1.heap.size + 1) (o := 4) (v := (.int .i64 n5)) HX_5.out (by have := HLT.out; omega)).grown hg7 (by have := HLT.out; omega)) (by have := HLT.out; omega)); have HF7 := hide ((HF5.out.put 4 (.int .i64 n5)).grown hg7 (by omega)); obtain ⟨⟨c0, d0⟩, ⟨c1, d1⟩, ⟨c2, d2⟩, ⟨c3, d3⟩, ⟨c4, d4⟩, ⟨c5, d5⟩⟩ := (show BoxL w7 (w1.heap.size + 1) [.int .i64 n1, .int .i64 n2, .int .i64 n3, .int .i64 n4, .int .i64 n5, .slice none 0 0] from HF7.out).six; have HOK := hide (txt_put (g := w1.heap.size + 1) (o := 5) (v := (.slice a7 m7 p7)) hm7.out ht7 HBY.out hr7 c5 (fun x h => by cases h)); clear hr7 hC7 ht7))
          | (go_at_call 10; go_must ((with_reducible refine (KP.out a7 m7 p7 _ HOK.out).mono ?_); rintro e w8 ⟨v8, e8, rfl, hb8⟩; have HX_8 := hide (HX_7.out.below hb8); have HB_8 := hide (HB_7.out.trans (hb8.mono HB_7.out.size)); have HC8 := hide (HC7.out.below hb8); have kb := HC8.out.bad))
          | (go_at_call 31; go_must ((with_reducible refine (KL.out w1.heap.size _ (Nat.le_of_lt HLT.out) HC8.out HB_8.out).mono ?_); rintro e w9 ⟨rfl, hb9⟩; have HX_9 := hide (HX_8.out.below hb9); have HB_9 := hide (HB_8.out.trans (hb9.mono HB_8.out.size)); obtain ⟨⟨y0, z0⟩, ⟨y1, z1⟩, ⟨y2, z2⟩, ⟨y3, z3⟩, ⟨y4, z4⟩, ⟨y5, z5⟩⟩ := HX_9.out.six)))
      have HX8 := hide (put6_box HX_9.out (.int .i64 0) (.int .i64 0) (.int .i64 0) (.int .i64 0) (.int .i64 0) (.slice none 0 0))
      have HB8 := hide (put6_below HB_9.out (Nat.le_refl _) (.int .i64 0) (.int .i64 0) (.int .i64 0) (.int .i64 0) (.int .i64 0) (.slice none 0 0))
      obtain ⟨X, hX⟩ : ∃ X, X = put6 w9 w.heap.size (.int .i64 0) (.int .i64 0) (.int .i64 0) (.int .i64 0) (.int .i64 0) (.slice none 0 0) := ⟨_, rfl⟩
      rw [← hX] at HX8 HB8
      unfold put6 at hX
      rw [← hX]
      clear hX
      obtain ⟨⟨x0, -⟩, ⟨x1, -⟩, ⟨x2, -⟩, ⟨x3, -⟩, ⟨x4, -⟩, ⟨x5, -⟩⟩ := HX8.out.six
      exact bodyPost_ret (v := .tuple #[.agg #[.int .i64 0, .int .i64 0, .int .i64 0, .int .i64 0, .int .i64 0, .slice none 0 0], .int .i64 (4 : Nat)]) (by simp [results, Tryd.results14, go_sem, x0, x1, x2, x3, x4, x5]) rfl (read_no HR.out HB8.out)

/-- What gleanerref10.ReadFrame answers. -/
theorem rread_any (a : Option Addr) (len cap : Nat) (bs : List Nat) (w : World) (hl : bs.length = len) (hlen : len ≤ 1000000) (hlc : len ≤ cap) (hcm : cap ≤ maxLen) (hB : Byt bs) (hr : Reads w a (bV bs)) :
    Calls Tryd.prog 14 #[.slice a len cap] w (ReadPost bs w) := by
  by_cases h5 : len < 5
  · exact rread_lt a len cap bs w hl h5
  · by_cases hm : bs.head? = some 70
    · by_cases hs : bs.drop (bs.length - 4) = tail4 (crcSum (bs.take (bs.length - 4)))
      · exact rread_parse a len cap bs w hl (by omega) hlen hlc hcm hB hr hm hs
      · exact rread_sum a len cap bs w hl (by omega) hlen hlc hcm hB hr hm hs
    · exact rread_mark a len cap bs w hl (by omega) hlen hr hm
end Go.Proofs.YtpieagcijfkpnaaDoor
