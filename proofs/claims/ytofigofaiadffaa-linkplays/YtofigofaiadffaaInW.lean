/- In. -/
import Derived.Test.YtofigofaiadffaaAcc
namespace Go.Proofs.Ytofigofaiadffaa
open Go.RowKit Go.ChangeShapes Go.WideShapes Go.ChangeAt Go.Deep

/-- What In leaves. -/
def InQ (D : Nat → Prop) (w : World) (g : Nat) (s : Lk) (f : Fr) (e : Ending) (w' : World) : Prop :=
  ∃ a m c l, e = .returned (.tuple #[.slice a m c, .bool (forB s f)]) ∧ RowT (fun k => Ex D w w' k ∧ k ≠ g) w.heap.size w' a m c l ∧ l.map Txt.bs = inF s f ∧ LinkP (Ex D w w') w' g (inL s f) ∧ Kp (fun k => k = g) w w'
theorem BoxL.kp {w w' : World} {g b : Nat} {xs : List Value} (h : BoxL w b xs) (hk : Kp (fun k => k = g) w w') (hb : b ≠ g) : BoxL w' b xs := h.keep hk.size (hk.block b h.1 hb)
theorem LinkP.toEx' {D : Nat → Prop} {w w1 w' : World} {g : Nat} {s : Lk} (h : LinkP (Ex D w1 w') w' g s) (hs : w.heap.size ≤ w1.heap.size) : LinkP (Ex D w w') w' g s := h.mono (fun _ hk => hk.elim .inl fun h1 => .inr ⟨by omega, h1.2⟩) (fun k hk => hk.elim (fun h1 => h.lt k (.inl h1)) fun h1 => h1.2)
theorem Kp.undrew {D : Nat → Prop} {w w' : World} (h : Kp D w.drew w') : Kp D w w' := ⟨h.os, h.tape, h.output, h.size, h.block⟩
theorem closeL_came (s : Lk) (n : Int) : (closeL s n).came = s.came := rfl
set_option linter.unusedSimpArgs false in
set_option maxRecDepth 100000 in
set_option maxHeartbeats 4000000 in
theorem in_any (D : Nat → Prop) (g : Nat) (s : Lk) (f : Fr) (a : Option Addr) (n c : Nat) (w : World) (h : LinkP D w g s) (hu : s.used ≤ 1000000) (hcm : s.came ≤ 1000000) (hl : f.x.length = n) (hB : Byt f.x) (hr : Reads w a (bV f.x)) (hnil : a = none → n = 0 ∧ c = 0) (hne : ∀ ad, a = some ad → 0 < n → ad.block ≠ g) :
    Calls Try.prog 18 #[.pointer (some ⟨g, 0, none⟩), .agg #[.int .i64 f.fr, .int .i64 f.tt, .int .i64 f.lf, .int .i64 f.sq, .int .i64 f.ak, .slice a n c]] w (InQ D w g s f) := by
  have hbn := below_new w (.cells #[.int .i64 f.fr, .int .i64 f.tt, .int .i64 f.lf, .int .i64 f.sq, .int .i64 f.ak, .slice a n c] 34)
  have hbx := BoxL.new w [.int .i64 f.fr, .int .i64 f.tt, .int .i64 f.lf, .int .i64 f.sq, .int .i64 f.ak, .slice a n c] 34
  obtain ⟨V, hV⟩ : ∃ V, V = w.alloc (.cells #[.int .i64 f.fr, .int .i64 f.tt, .int .i64 f.lf, .int .i64 f.sq, .int .i64 f.ak, .slice a n c] 34) := ⟨_, rfl⟩
  have hbx' : BoxL V w.heap.size [.int .i64 f.fr, .int .i64 f.tt, .int .i64 f.lf, .int .i64 f.sq, .int .i64 f.ak, .slice a n c] := by rw [hV]; exact hbx
  rw [← hV] at hbn
  have C33 := hide (isfor_any D g s f a n c V (h.below hbn) hl)
  have HP := hide h
  have HV := hide hV
  have HBN := hide hbn
  have HBX := hide hbx'
  obtain ⟨y0, y1, y2, y3, y4, y5⟩ := hbx'.c6
  have hgl : g < w.heap.size := h.lt g h.dg
  have HL := hide hl
  have HB := hide hB
  have HR := hide hr
  have HNL := hide hnil
  have HNE := hide hne
  clear hbn hbx hbx' hV h hl hB hr hnil hne
  cases hF : forB s f with
  | false =>
    have HI := hide (show inF s f = [] from by unfold inF; rw [hF]; rfl)
    have HJ := hide (show inL s f = s from by unfold inL; rw [hF]; rfl)
    rw [hF] at C33
    unfold InQ
    rw [hF]
    clear hF
    go_enter Try.func18, Try.ntmps18
    go_upto_region 1 with fail
    rw [← HV.out]
    go_wp2_with (go_at_call 33; go_must ((with_reducible refine C33.out.mono ?_); rintro e w1 ⟨rfl, hb1⟩; have HB1 := hide (HBN.out.trans (hb1.mono HBN.out.size)); clear hb1))
    go_ret2
    have hE := link_stay HP.out HB1.out
    first | exact ⟨_, _, _, rfl, [], RowT.nil _ _ _, by rw [HI.out]; rfl, by rw [HJ.out]; exact hE.1, hE.2⟩ | exact ⟨_, _, _, [], rfl, RowT.nil _ _ _, by rw [HI.out]; rfl, by rw [HJ.out]; exact hE.1, hE.2⟩
  | true =>
    have HFT := hide hF
    have HAK := hide (show f.ak ≤ (s.used : Int) from by unfold forB at hF; simp at hF; exact hF.2.2.2.1)
    have HSQ := hide (show 0 ≤ f.sq from by unfold forB at hF; simp at hF; exact hF.2.2.2.2.1)
    have HLN := hide (show n ≤ 4096 from by unfold forB at hF; simp at hF; have := hF.2.2.2.2.2; have := HL.out; omega)
    have HI := hide (show inF s f = if f.sq = 0 then [] else accF (closeL s f.ak) f.sq f.x from by unfold inF; rw [hF]; rfl)
    have HJ := hide (show inL s f = if f.sq = 0 then closeL s f.ak else accL (closeL s f.ak) f.sq f.x from by unfold inL; rw [hF]; rfl)
    rw [hF] at C33
    unfold InQ
    rw [hF]
    clear hF
    go_enter Try.func18, Try.ntmps18
    go_upto_region 1 with fail
    rw [← HV.out]
    go_upto_region 3 with (go_at_call 33; go_must ((with_reducible refine C33.out.mono ?_); rintro e w1 ⟨rfl, hb1⟩; have HB1 := hide (HBN.out.trans (hb1.mono HBN.out.size)); have HX1 := hide (HBX.out.below hb1); clear hb1))
    obtain ⟨x0, x1, x2, x3, x4, x5⟩ := HX1.out.c6
    clear y0 y1 y2 y3 y4 y5
    have C34 := hide (close_any D g s f.ak w1.drew ((HP.out.below HB1.out).keep (Nat.le_refl _) (fun _ _ => rfl)) hu HAK.out)
    have hgb : w.heap.size ≠ g := by omega
    go_region_held3 (fun W => W.cell? ⟨w.heap.size, 4, none⟩ = some (.int .i64 f.ak)) (first | exact x4 | exact z4 | go_keep) (first | (go_at_call 34; (with_reducible refine C34.out.mono ?_); rintro e w2 ⟨rfl, hP2, hK2⟩; have HP2 := hide hP2; have HK2 := hide hK2.undrew; have z4 := (HX1.out.kp HK2.out hgb).c6.2.2.2.2.1; clear hP2 hK2))
    have HX2 := hide (HX1.out.kp HK2.out hgb)
    clear x0 x1 x2 x3 x4 x5 z4
    obtain ⟨x0, x1, x2, x3, x4, x5⟩ := HX2.out.c6
    have HKW := hide ((Kp.of_below (D := fun k => k = g) HB1.out).trans HK2.out)
    by_cases hs0 : f.sq = 0
    · have HI2 := hide (show inF s f = [] from by rw [HI.out, if_pos hs0])
      have HJ2 := hide (show inL s f = closeL s f.ak from by rw [HJ.out, if_pos hs0])
      have q0 : (f.sq == 0) = true := by simpa using hs0
      clear hs0
      go_wp2
      go_ret2
      first | exact ⟨_, _, _, rfl, [], RowT.nil _ _ _, by rw [HI2.out]; rfl, by rw [HJ2.out]; exact HP2.out.toEx, HKW.out⟩ | exact ⟨_, _, _, [], rfl, RowT.nil _ _ _, by rw [HI2.out]; rfl, by rw [HJ2.out]; exact HP2.out.toEx, HKW.out⟩
    · have HI2 := hide (show inF s f = accF (closeL s f.ak) f.sq f.x from by rw [HI.out, if_neg hs0])
      have HJ2 := hide (show inL s f = accL (closeL s f.ak) f.sq f.x from by rw [HJ.out, if_neg hs0])
      have q0 : (f.sq == 0) = false := by simpa using hs0
      have HRD := hide (show Reads w2 a (bV f.x) from by
        by_cases h0 : 0 < n
        · exact (HR.out.below HB1.out).keepN (g := g) (fun ad e => HNE.out ad e h0) (fun k hk hlt => HK2.out.block k hlt hk)
        · exact .inl (by rw [List.eq_nil_of_length_eq_zero (show f.x.length = 0 by have := HL.out; omega)]; rfl))
      have C35 := hide (accept_any D g (closeL s f.ak) f.sq a n c f.x w2.drew (HP2.out.keep (Nat.le_refl _) (fun _ _ => rfl)) hcm HSQ.out HL.out HLN.out HB.out HRD.out.drew HNL.out HNE.out)
      clear hs0
      unfold AccQ at C35
      go_upto_region 6 with fail
      go_region_held3 (fun W => W.cell? ⟨w.heap.size, 3, none⟩ = some (.int .i64 f.sq) ∧ W.cell? ⟨w.heap.size, 5, none⟩ = some (.slice a n c)) (first | exact ⟨x3, x5⟩ | exact ⟨z3, z5⟩ | go_keep) (first | (go_at_call 35; (with_reducible refine C35.out.mono ?_); rintro e w3 ⟨a3, m3, c3, l3, rfl, hR3, hl3, hP3, hK3⟩; have HP3 := hide hP3; have HR3 := hide hR3; have HL3 := hide hl3; have HK3 := hide hK3.undrew; have hz := (HX2.out.kp HK3.out hgb).c6; have z3 := hz.2.2.2.1; have z5 := hz.2.2.2.2.2; clear hP3 hR3 hl3 hK3 hz))
      go_wp2
      go_ret2
      have hs2 : w.heap.size ≤ w2.heap.size := HKW.out.size
      have hE : ∀ k, Ex D w2.drew w3 k → Ex D w w3 k := fun k hk => hk.elim .inl fun h => .inr ⟨Nat.le_trans hs2 h.1, h.2⟩
      have hR4 := HR3.out.mono (D' := fun k => Ex D w w3 k ∧ k ≠ g) (B' := w.heap.size) (fun k hk => ⟨hE k hk.1, hk.2⟩) hs2
      have hP4 : LinkP (Ex D w w3) w3 g (inL s f) := by rw [HJ2.out]; exact HP3.out.mono hE (fun k hk => hk.elim (fun h => HP3.out.lt k (.inl h)) fun h => h.2)
      first | exact ⟨_, _, _, rfl, l3, hR4, by rw [HI2.out]; exact HL3.out, hP4, HKW.out.trans HK3.out⟩ | exact ⟨_, _, _, l3, rfl, hR4, by rw [HI2.out]; exact HL3.out, hP4, HKW.out.trans HK3.out⟩
end Go.Proofs.Ytofigofaiadffaa
