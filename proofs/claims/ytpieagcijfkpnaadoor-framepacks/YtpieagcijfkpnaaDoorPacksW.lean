/- The walk of FramePacks. -/
import Derived.Test.YtpieagcijfkpnaaDoorFrU
namespace Go.Proofs.YtpieagcijfkpnaaDoor
open Go.RowKit Go.ChangeShapes Go.WideShapes Go.ChangeAt Go.Deep
namespace framePacks

set_option maxRecDepth 100000 in
set_option maxHeartbeats 1000000 in
theorem long (f : Fr) (a : Option Addr) (l c : Nat) (w : World) (hT : Tab w) (hlm : l ≤ 9223372036854775807) (h : 6000 < l) :
    Calls Tryd.prog 3 #[f.val a l c] w fun e w' => e = .returned (.bool true) ∧ Below w.heap.size w w' := by
  obtain ⟨f1, f2, f3, f4, f5, ld⟩ := f
  simp only [Fr.val]
  have HX := hide (BoxF.new w f1 f2 f3 f4 f5 a l c)
  obtain ⟨V, hV⟩ : ∃ V, V = w.alloc (.cells #[.int .i64 f1, .int .i64 f2, .int .i64 f3, .int .i64 f4, .int .i64 f5, .slice a l c] 24) := ⟨_, rfl⟩
  have HWV := hide (show Below w.heap.size w V by rw [hV]; exact (Below.refl _ _).alloc (Nat.le_refl _) _)
  rw [← hV] at HX
  have HV := hide hV
  clear hV
  go_enter Tryd.func3, Tryd.ntmps3
  go_wp2_with (first
    | (go_at_call 8; go_must (rw [← HV.out]; (with_reducible refine (alive_any V (hT.below HWV.out)).mono ?_); rintro e w1 ⟨rfl, hb1⟩; obtain ⟨-, -, -, -, -, k5⟩ := HX.out.below hb1)))
  go_ret
  exact ⟨rfl, HWV.out.trans (hb1.mono HWV.out.size)⟩

set_option maxRecDepth 100000 in
set_option maxHeartbeats 1000000 in
theorem no (f : Fr) (a : Option Addr) (l c : Nat) (w : World) (hT : Tab w) (hl : f.load.length = l) (h : l ≤ 6000) (hw : wrongL f ≠ 0) :
    Calls Tryd.prog 3 #[f.val a l c] w fun e w' => e = .returned (.bool true) ∧ Below w.heap.size w w' := by
  have CP := hide (fun W => pack_no f a l c W hl (by omega) hw)
  have CR := hide (fun W => rpack_no f a l c W hl (by omega) hw)
  obtain ⟨f1, f2, f3, f4, f5, ld⟩ := f
  simp only [Fr.val] at CP CR ⊢
  generalize wrongL ⟨f1, f2, f3, f4, f5, ld⟩ = e0 at CP CR hw
  have he : ((e0 : Int) == 0) = false := by rw [beq_eq_false_iff_ne]; omega
  have he2 : ((e0 : Int) != 0) = true := by simp [bne, he]
  have HS := hide (show ∀ W : World, (convert 22 9 (.slice none 0 0)).run Tryd.prog W = .ok (.string (bstr [])) W from fun W => run_str (m := 0) rfl rfl (.inl rfl) 0)
  generalize bstr [] = S0 at HS
  have HX := hide (BoxF.new w f1 f2 f3 f4 f5 a l c)
  obtain ⟨V, hV⟩ : ∃ V, V = w.alloc (.cells #[.int .i64 f1, .int .i64 f2, .int .i64 f3, .int .i64 f4, .int .i64 f5, .slice a l c] 24) := ⟨_, rfl⟩
  have HWV := hide (show Below w.heap.size w V by rw [hV]; exact (Below.refl _ _).alloc (Nat.le_refl _) _)
  rw [← hV] at HX
  have HV := hide hV
  clear hV hl
  go_enter Tryd.func3, Tryd.ntmps3
  go_wp2_with (first
    | (go_at_call 8; go_must (rw [← HV.out]; (with_reducible refine (alive_any V (hT.below HWV.out)).mono ?_); rintro e w1 ⟨rfl, hb1⟩; have HX1 := hide (HX.out.below hb1); obtain ⟨k0, k1, k2, k3, k4, k5⟩ := HX.out.below hb1))
    | (go_at_call 9; go_must ((with_reducible refine (CP.out w1).mono ?_); rintro e w2 ⟨rfl, hb2⟩; have HX2 := hide (HX1.out.below hb2); obtain ⟨j0, j1, j2, j3, j4, j5⟩ := HX1.out.below hb2))
    | (go_at_call 10; go_must ((with_reducible refine (CR.out w2).mono ?_); rintro e w3 ⟨rfl, hb3⟩; have hs3 := HS.out w3))
    | (go_at_call 11; go_must ((with_reducible refine (lnum_any _ _).mono ?_); rintro e w4 ⟨rfl, rfl⟩)))
  go_ret
  have B1 := HWV.out.trans (hb1.mono HWV.out.size)
  have B2 := B1.trans (hb2.mono B1.size)
  exact ⟨rfl, B2.trans (hb3.mono B2.size)⟩

set_option maxRecDepth 100000 in
set_option maxHeartbeats 1000000 in
theorem yes (f : Fr) (a : Option Addr) (l c : Nat) (w : World) (hT : Tab w) (hok : Txt.ok w ⟨a, l, c, f.load⟩) (h : l ≤ 6000) (hw : wrongL f = 0) :
    Calls Tryd.prog 3 #[f.val a l c] w fun e w' => e = .returned (.bool true) ∧ Below w.heap.size w w' := by
  have hl : f.load.length = l := hok.1
  have HOK := hide hok
  have CP := hide (fun W (hb : Below w.heap.size w W) => packQ f a l c W (hok.below hb) hw (hT.below hb))
  have CR := hide (fun W (hb : Below w.heap.size w W) => rpackQ f a l c W (hok.below hb) hw)
  have CS := hide (fun b l' c' W (hb : Below w.heap.size w W) (h1 : f.load.length = l') (h2 : Reads W b (bV f.load)) => same_yes f a b l c l' c' W hl h1 (hok.2.2.2.2.below hb) h2)
  have HB := hide (seal_byt (body_byt hw hok.2.1))
  have HR := hide (read_pack hw)
  have h4 := (wrong_nought hw).2.2.2.2.2
  have HZl := hide (show (sealL (bodyL f)).length ≤ 10000 by
    have hel := encs_length f.nums
    have h10 := enc_len (foldN (f.load.length : Int))
    rw [seal_len]; simp only [bodyL, encFr, encT, Fr.nums, List.length_append, List.length_cons, List.length_nil] at hel ⊢; omega)
  generalize sealL (bodyL f) = Z at CP CR HB HR HZl
  have hrl : (readL Z).1 = f ∧ (readL Z).2 = 0 := by rw [HR.out]; exact ⟨rfl, rfl⟩
  have KR := hide (fun W B q m cp (h : OwnB W B q m cp Z) (hb : Below w.heap.size w W) => (show Calls Tryd.prog 12 #[.slice (some ⟨q, 0, none⟩) m cp] W fun e w' => ∃ a' l' c', e = .returned (.tuple #[f.val a' l' c', .int .i64 0]) ∧ f.load.length = l' ∧ Reads w' a' (bV f.load) ∧ Below W.heap.size W w' from by
    refine (readQ h HB.out (by have := h.len; have := HZl.out; omega) (hT.below hb)).mono ?_
    rintro e w' ⟨a', l', c', rfl, h1, h2, h3⟩
    rw [HR.out] at h1 h2 ⊢
    exact ⟨a', l', c', rfl, h1, h2, h3⟩))
  obtain ⟨f1, f2, f3, f4, f5, ld⟩ := f
  simp only [Fr.val] at CP CR CS KR ⊢
  have HX := hide (BoxF.new w f1 f2 f3 f4 f5 a l c)
  obtain ⟨V, hV⟩ : ∃ V, V = w.alloc (.cells #[.int .i64 f1, .int .i64 f2, .int .i64 f3, .int .i64 f4, .int .i64 f5, .slice a l c] 24) := ⟨_, rfl⟩
  have HWV := hide (show Below w.heap.size w V by rw [hV]; exact (Below.refl _ _).alloc (Nat.le_refl _) _)
  rw [← hV] at HX
  have HV := hide hV
  clear hV hl hok hrl h4
  go_enter Tryd.func3, Tryd.ntmps3
  go_wp2_with (first
    | (go_at_call 8; go_must (rw [← HV.out]; (with_reducible refine (alive_any V (hT.below HWV.out)).mono ?_); rintro e w1 ⟨rfl, hb1⟩; have HX1 := hide (HX.out.below hb1); obtain ⟨k0, k1, k2, k3, k4, k5⟩ := HX.out.below hb1; have HB1 := hide (HWV.out.trans (hb1.mono HWV.out.size))))
    | (go_at_call 9; go_must ((with_reducible refine (CP.out w1 HB1.out).mono ?_); rintro e w2 ⟨q2, m2, p2, rfl, ho2, hb2⟩; have HX2 := hide (HX1.out.below hb2); obtain ⟨j0, j1, j2, j3, j4, j5⟩ := HX1.out.below hb2; have HB2 := hide (HB1.out.trans (hb2.mono HB1.out.size))))
    | (go_at_call 10; go_must ((with_reducible refine (CR.out w2 HB2.out).mono ?_); rintro e w3 ⟨q3, m3, p3, rfl, ho3, hb3⟩; have HX3 := hide (HX2.out.below hb3); have HB3 := hide (HB2.out.trans (hb3.mono HB2.out.size)); have HO3 := hide (ho2.below hb3); have hs1 := run_str (S := bstr Z) rfl HO3.out.len HO3.out.reads p2; have hs2 := run_str (S := bstr Z) rfl ho3.len ho3.reads p3))
    | (go_at_call 11; go_must ((with_reducible refine (lnum_any _ _).mono ?_); rintro e w4 ⟨rfl, rfl⟩))
    | (go_at_call 12; go_must ((with_reducible refine (KR.out _ _ q2 m2 p2 HO3.out HB3.out).mono ?_); rintro e w5 ⟨a5, l5, p5, rfl, hl5, hr5, hb5⟩; have HL5 := hide hl5; have HR5 := hide hr5; clear hl5 hr5; have HB5 := hide (HB3.out.trans (hb5.mono HB3.out.size)); obtain ⟨i0, i1, i2, i3, i4, i5⟩ := HX3.out.below hb5; have hsz : w.heap.size < w5.heap.size := cell_some_lt i0))
    | (go_at_call 13; go_must ((with_reducible refine (CS.out a5 l5 p5 _ (HB5.out.alloc HB5.out.size _) HL5.out (HR5.out.below ((Below.refl _ _).alloc (Nat.le_refl _) _))).mono ?_); rintro e w6 ⟨rfl, hb6⟩)))
  go_ret
  exact ⟨rfl, (HB5.out.alloc HB5.out.size _).trans (hb6.mono (by simp; exact Nat.le_succ_of_le HB5.out.size))⟩

theorem walk (f : Fr) (a : Option Addr) (l c : Nat) (w : World) (hT : Tab w) (hok : Txt.ok w ⟨a, l, c, f.load⟩) :
    Calls Tryd.prog 3 #[f.val a l c] w fun e w' => e = .returned (.bool true) ∧ Below w.heap.size w w' := by
  have hl : f.load.length = l := hok.1
  have hlm : l ≤ 9223372036854775807 := by
    have h1 : l ≤ c ∧ c ≤ maxLen := hok.2.2.1
    have := h1.2
    unfold maxLen at this
    omega
  by_cases h : 6000 < l
  · exact long f a l c w hT hlm h
  · by_cases hw : wrongL f = 0
    · exact yes f a l c w hT hok (by omega) hw
    · exact no f a l c w hT hl (by omega) hw
end framePacks
end Go.Proofs.YtpieagcijfkpnaaDoor
