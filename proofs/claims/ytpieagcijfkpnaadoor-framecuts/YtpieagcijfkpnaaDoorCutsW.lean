/- The walk of FrameCuts. -/
import Derived.Test.YtpieagcijfkpnaaDoorFrU
namespace Go.Proofs.YtpieagcijfkpnaaDoor
open Go.RowKit Go.ChangeShapes Go.WideShapes Go.ChangeAt Go.Deep

/-- Read of what is no frame. -/
theorem read_err {a : Option Addr} {len cap : Nat} {bs : List Nat} {w : World} (hl : bs.length = len) (hlen : len ≤ 1000000) (hlc : len ≤ cap) (hcm : cap ≤ maxLen) (hB : Byt bs) (hr : Reads w a (bV bs)) (hT : Tab w) (h : (readL bs).2 ≠ 0) :
    Calls Tryd.prog 12 #[.slice a len cap] w fun e w' => ∃ a' l' c' k, e = .returned (.tuple #[.agg #[.int .i64 0, .int .i64 0, .int .i64 0, .int .i64 0, .int .i64 0, .slice a' l' c'], .int .i64 ((k : Nat) : Int)]) ∧ k ≠ 0 ∧ Hid (0 = l') ∧ Hid (Reads w' a' []) ∧ Below w.heap.size w w' := by
  refine (read_any a len cap bs w hl hlen hlc hcm hB hr hT).mono ?_
  rintro e w' ⟨a', l', c', rfl, h1, h2, h3⟩
  rw [read_frame0 bs h] at h1 h2 ⊢
  exact ⟨a', l', c', _, rfl, h, h1, h2, h3⟩

/-- Read of a frame's bytes. -/
theorem read_good {w : World} {B q m c : Nat} {xs : List Nat} {f1 f2 f3 f4 f5 : Int} {ld : List Nat} (h : OwnB w B q m c xs) (hB : Byt xs) (hm : m ≤ 1000000) (hT : Tab w) (hR : readL xs = (⟨f1, f2, f3, f4, f5, ld⟩, 0)) :
    Calls Tryd.prog 12 #[.slice (some ⟨q, 0, none⟩) m c] w fun e w' => ∃ a' l' c', e = .returned (.tuple #[.agg #[.int .i64 f1, .int .i64 f2, .int .i64 f3, .int .i64 f4, .int .i64 f5, .slice a' l' c'], .int .i64 0]) ∧ Below w.heap.size w w' := by
  refine (readQ h hB hm hT).mono ?_
  rintro e w' ⟨a', l', c', rfl, h1, h2, h3⟩
  rw [hR]
  exact ⟨a', l', c', rfl, h3⟩

namespace frameCuts

set_option maxRecDepth 100000 in
set_option maxHeartbeats 1000000 in
theorem out7 (f : Fr) (a : Option Addr) (l c : Nat) (at_ : Int) (am : Option Addr) (lm cm : Nat) (w : World) (hT : Tab w) (hlm : l ≤ 9223372036854775807) (hmm : lm ≤ 9223372036854775807) (h : at_ < 0 ∨ 100 < lm ∨ 4096 < l) :
    Calls Tryd.prog 7 #[f.val a l c, .int .i64 at_, .slice am lm cm] w fun e w' => e = .returned (.bool true) ∧ Below w.heap.size w w' := by
  obtain ⟨f1, f2, f3, f4, f5, ld⟩ := f
  simp only [Fr.val]
  have HX := hide (BoxF.new w f1 f2 f3 f4 f5 a l c)
  obtain ⟨V, hV⟩ : ∃ V, V = w.alloc (.cells #[.int .i64 f1, .int .i64 f2, .int .i64 f3, .int .i64 f4, .int .i64 f5, .slice a l c] 24) := ⟨_, rfl⟩
  have HWV := hide (show Below w.heap.size w V by rw [hV]; exact (Below.refl _ _).alloc (Nat.le_refl _) _)
  rw [← hV] at HX
  have HV := hide hV
  clear hV
  by_cases h1 : at_ < 0
  · go_enter Tryd.func7, Tryd.ntmps7
    go_wp2_with (first
      | (go_at_call 8; go_must (rw [← HV.out]; (with_reducible refine (alive_any V (hT.below HWV.out)).mono ?_); rintro e w1 ⟨rfl, hb1⟩)))
    go_ret
    exact ⟨rfl, HWV.out.trans (hb1.mono HWV.out.size)⟩
  · by_cases h2 : 100 < lm
    · go_enter Tryd.func7, Tryd.ntmps7
      go_wp2_with (first
        | (go_at_call 8; go_must (rw [← HV.out]; (with_reducible refine (alive_any V (hT.below HWV.out)).mono ?_); rintro e w1 ⟨rfl, hb1⟩)))
      go_ret
      exact ⟨rfl, HWV.out.trans (hb1.mono HWV.out.size)⟩
    · have h3 : 4096 < l := by omega
      clear h
      go_enter Tryd.func7, Tryd.ntmps7
      go_wp2_with (first
        | (go_at_call 8; go_must (rw [← HV.out]; (with_reducible refine (alive_any V (hT.below HWV.out)).mono ?_); rintro e w1 ⟨rfl, hb1⟩; obtain ⟨-, -, -, -, -, k5⟩ := HX.out.below hb1)))
      go_ret
      exact ⟨rfl, HWV.out.trans (hb1.mono HWV.out.size)⟩

set_option maxRecDepth 100000 in
set_option maxHeartbeats 1000000 in
theorem no (f : Fr) (a : Option Addr) (l c A : Nat) (am : Option Addr) (lm cm : Nat) (w : World) (hT : Tab w) (hl : f.load.length = l) (h4 : l ≤ 4096) (h100 : lm ≤ 100) (hw : wrongL f ≠ 0) :
    Calls Tryd.prog 7 #[f.val a l c, .int .i64 (A : Nat), .slice am lm cm] w fun e w' => e = .returned (.bool true) ∧ Below w.heap.size w w' := by
  have CP := hide (fun W => pack_no f a l c W hl (by omega) hw)
  obtain ⟨f1, f2, f3, f4, f5, ld⟩ := f
  simp only [Fr.val] at CP ⊢
  generalize wrongL ⟨f1, f2, f3, f4, f5, ld⟩ = e0 at CP hw
  have he : ((e0 : Int) == 0) = false := by rw [beq_eq_false_iff_ne]; omega
  have he2 : ((e0 : Int) != 0) = true := by simp [bne, he]
  have HX := hide (BoxF.new w f1 f2 f3 f4 f5 a l c)
  obtain ⟨V, hV⟩ : ∃ V, V = w.alloc (.cells #[.int .i64 f1, .int .i64 f2, .int .i64 f3, .int .i64 f4, .int .i64 f5, .slice a l c] 24) := ⟨_, rfl⟩
  have HWV := hide (show Below w.heap.size w V by rw [hV]; exact (Below.refl _ _).alloc (Nat.le_refl _) _)
  rw [← hV] at HX
  have HV := hide hV
  clear hV hl
  have hA : ¬ ((A : Int) < 0) := by omega
  go_enter Tryd.func7, Tryd.ntmps7
  go_wp2_with (first
    | (go_at_call 8; go_must (rw [← HV.out]; (with_reducible refine (alive_any V (hT.below HWV.out)).mono ?_); rintro e w1 ⟨rfl, hb1⟩; obtain ⟨k0, k1, k2, k3, k4, k5⟩ := HX.out.below hb1))
    | (go_at_call 9; go_must ((with_reducible refine (CP.out w1).mono ?_); rintro e w2 ⟨rfl, hb2⟩))
    | (go_at_call 11; go_must ((with_reducible refine (lnum_any _ _).mono ?_); rintro e w4 ⟨rfl, rfl⟩)))
  go_ret
  have B1 := HWV.out.trans (hb1.mono HWV.out.size)
  exact ⟨rfl, B1.trans (hb2.mono B1.size)⟩

set_option maxRecDepth 100000 in
set_option maxHeartbeats 2000000 in
theorem yes (f : Fr) (a : Option Addr) (l c A : Nat) (am : Option Addr) (lm cm : Nat) (more : List Nat) (w : World) (hT : Tab w) (hok : Txt.ok w ⟨a, l, c, f.load⟩) (hom : Txt.ok w ⟨am, lm, cm, more⟩) (h4 : l ≤ 4096) (h100 : lm ≤ 100) (hAm : A ≤ 9223372036854775807) (hw : wrongL f = 0) :
    Calls Tryd.prog 7 #[f.val a l c, .int .i64 (A : Nat), .slice am lm cm] w fun e w' => e = .returned (.bool true) ∧ Below w.heap.size w w' := by
  have CP := hide (fun W (hb : Below w.heap.size w W) => packQ f a l c W (hok.below hb) hw (hT.below hb))
  have HB := hide (seal_byt (body_byt hw hok.2.1))
  have HZl := hide (show (sealL (bodyL f)).length ≤ 10000 ∧ 4 < (sealL (bodyL f)).length by
    have hel := encs_length f.nums
    have h10 := enc_len (foldN (f.load.length : Int))
    have := (wrong_nought hw).2.2.2.2.2
    rw [seal_len]; simp only [bodyL, encFr, encT, Fr.nums, List.length_append, List.length_cons, List.length_nil] at hel ⊢; omega)
  have HSh := hide (fun m hm => read_short hw hok.2.1 m hm)
  have HLo := hide (fun hm => read_long hw hok.2.1 more hm)
  have HR := hide (read_pack hw)
  have HM := hide hom
  have HMB := hide (show Byt more from hom.2.1)
  generalize sealL (bodyL f) = Z at CP HB HR HZl HSh HLo
  obtain ⟨f1, f2, f3, f4, f5, ld⟩ := f
  simp only [Fr.val] at CP ⊢
  have HX := hide (BoxF.new w f1 f2 f3 f4 f5 a l c)
  obtain ⟨V, hV⟩ : ∃ V, V = w.alloc (.cells #[.int .i64 f1, .int .i64 f2, .int .i64 f3, .int .i64 f4, .int .i64 f5, .slice a l c] 24) := ⟨_, rfl⟩
  have HWV := hide (show Below w.heap.size w V by rw [hV]; exact (Below.refl _ _).alloc (Nat.le_refl _) _)
  rw [← hV] at HX
  have HV := hide hV
  have HMN := hide (show am = none → lm = 0 ∧ cm = 0 from hom.2.2.2.1)
  clear hV hom hok
  have hA : ¬ ((A : Int) < 0) := by omega
  by_cases h0 : lm = 0
  · subst h0
    have hmz : more = [] := by
      have h1 : more.length = 0 := HM.out.1
      exact List.eq_nil_of_length_eq_zero h1
    have HMZ := hide hmz
    clear hmz
    go_enter Tryd.func7, Tryd.ntmps7
    go_wp2_with (first
      | (go_at_call 8; go_must (rw [← HV.out]; (with_reducible refine (alive_any V (hT.below HWV.out)).mono ?_); rintro e w1 ⟨rfl, hb1⟩; obtain ⟨k0, k1, k2, k3, k4, k5⟩ := HX.out.below hb1; have HB1 := hide (HWV.out.trans (hb1.mono HWV.out.size))))
      | (go_at_call 9; go_must ((with_reducible refine (CP.out w1 HB1.out).mono ?_); rintro e w2 ⟨q2, m2, p2, rfl, ho2, hb2⟩; have HB2 := hide (HB1.out.trans (hb2.mono HB1.out.size)); have hm2 : m2 ≤ 10000 := (Nat.le_trans (Nat.le_of_eq ho2.len.symm) HZl.out.1); have hm0 : 4 < m2 := (Nat.lt_of_lt_of_eq HZl.out.2 ho2.len); have hmp : m2 ≤ p2 := ho2.cap.1; have hp2 : p2 ≤ 9223372036854775807 := (by have := ho2.cap.2.1; unfold maxLen at this; omega); have hAl : A % m2 < m2 := (Nat.mod_lt _ (by omega)); have hkm : A % m2 ≤ p2 := (by omega); have HO2 := hide ho2; clear ho2))
      | (go_at_call 11; go_must ((with_reducible refine (lnum_any _ _).mono ?_); rintro e w4 ⟨rfl, rfl⟩))
      | (go_at_call 12; first
          | ((with_reducible refine (read_err (len := A % m2) (cap := p2) (bs := Z.take (A % m2)) (by rw [List.length_take, HO2.out.len]; omega) (by omega) (by omega) HO2.out.cap.2.1 (HB.out.take _) (HO2.out.reads.take _) (hT.below HB2.out) (HSh.out _ (by rw [HO2.out.len]; exact hAl))).mono ?_); rintro e w3 ⟨a3, l3, c3, e3, rfl, he3, -, -, hb3⟩; have he31 : ((e3 : Int) == 0) = false := (by rw [beq_eq_false_iff_ne]; omega); have he32 : ((e3 : Int) != 0) = true := (by simp [bne, he31]); have HB3 := hide (HB2.out.trans (hb3.mono HB2.out.size)); have HO3 := hide (HO2.out.below hb3))
          | (go_must ((with_reducible refine (read_good HO6 (by rw [HMZ.out]; simpa using HB.out) (by omega) (hT.below HB6.out) (by rw [HMZ.out]; simpa using HR.out)).mono ?_); rintro e w7 ⟨a7, l7, c7, rfl, hb7⟩; have HB7 := hide (HB6.out.trans (hb7.mono HB6.out.size)))))
      | (at_builtin; first
          | (refine append_bytes rfl (.const (.slice none 0 0)) (.tmp 52) rfl _ (.slice none 0 0) 0 [] rfl (World.ownsRow_nil _ (w3.heap.size + 1) _ _) (some ⟨q2, 0, none⟩) m2 p2 Z rfl (fun h => by cases h) HO3.out.len (HO3.out.reads.below ((Below.refl _ _).alloc (Nat.le_refl _) _)) (by omega) (by simp) ?_; intro v5 w5 ho5 hg5 hn5; have HN5 := hide hn5; clear hn5; have HB5 := hide (show Below w.heap.size w w5 from (HB3.out.alloc HB3.out.size _).grown hg5 (by simp; exact Nat.le_succ_of_le HB3.out.size) (fun k hk => by cases hk)); have HG5 := hide (show w3.heap.size + 1 ≤ w5.heap.size from by have := hg5.size; simpa using this))
          | (go_must (refine append_bytes rfl (.tmp 53) (.tmp 54) rfl _ v5 _ _ rfl ho5 am 0 cm more rfl (fun h => ⟨rfl, (HMN.out h).2⟩) HM.out.1 (HM.out.2.2.2.2.below HB5.out) (by omega) HG5.out ?_; intro v6 w6 ho6 hg6 hn6; have hv6 : v6 ≠ .slice none 0 0 := (fun h => by have h1 := (hn6.1 h).1; have := (HN5.out.1 h1).2; omega); have HB6 := hide (show Below w.heap.size w w6 from HB5.out.grown hg6 HB5.out.size (fun k hk => by have h1 := (ho5.lt k hk).1; have := HB3.out.size; omega)); clear hn6; obtain ⟨q6, m6, p6, rfl, HO6⟩ := ownB_of ho6 hv6; have hm6 : m6 ≤ 20000 := (by have h1 := HO6.len; have h2 := HO2.out.len; have h3 : more.length = 0 := HM.out.1; simp at h1; omega)))))
    go_ret
    exact ⟨rfl, HB7.out.alloc HB7.out.size _⟩
  · have hmz : more ≠ [] := by
      intro h
      have h1 : more.length = lm := HM.out.1
      rw [h] at h1
      exact h0 h1.symm
    have HMZ := hide hmz
    have hlz : ((lm : Int) == 0) = false := by rw [beq_eq_false_iff_ne]; omega
    clear hmz
    go_enter Tryd.func7, Tryd.ntmps7
    go_wp2_with (first
      | (go_at_call 8; go_must (rw [← HV.out]; (with_reducible refine (alive_any V (hT.below HWV.out)).mono ?_); rintro e w1 ⟨rfl, hb1⟩; obtain ⟨k0, k1, k2, k3, k4, k5⟩ := HX.out.below hb1; have HB1 := hide (HWV.out.trans (hb1.mono HWV.out.size))))
      | (go_at_call 9; go_must ((with_reducible refine (CP.out w1 HB1.out).mono ?_); rintro e w2 ⟨q2, m2, p2, rfl, ho2, hb2⟩; have HB2 := hide (HB1.out.trans (hb2.mono HB1.out.size)); have hm2 : m2 ≤ 10000 := (Nat.le_trans (Nat.le_of_eq ho2.len.symm) HZl.out.1); have hm0 : 4 < m2 := (Nat.lt_of_lt_of_eq HZl.out.2 ho2.len); have hmp : m2 ≤ p2 := ho2.cap.1; have hp2 : p2 ≤ 9223372036854775807 := (by have := ho2.cap.2.1; unfold maxLen at this; omega); have hAl : A % m2 < m2 := (Nat.mod_lt _ (by omega)); have hkm : A % m2 ≤ p2 := (by omega); have HO2 := hide ho2; clear ho2))
      | (go_at_call 11; go_must ((with_reducible refine (lnum_any _ _).mono ?_); rintro e w4 ⟨rfl, rfl⟩))
      | (go_at_call 12; first
          | ((with_reducible refine (read_err (len := A % m2) (cap := p2) (bs := Z.take (A % m2)) (by rw [List.length_take, HO2.out.len]; omega) (by omega) (by omega) HO2.out.cap.2.1 (HB.out.take _) (HO2.out.reads.take _) (hT.below HB2.out) (HSh.out _ (by rw [HO2.out.len]; exact hAl))).mono ?_); rintro e w3 ⟨a3, l3, c3, e3, rfl, he3, -, -, hb3⟩; have he31 : ((e3 : Int) == 0) = false := (by rw [beq_eq_false_iff_ne]; omega); have he32 : ((e3 : Int) != 0) = true := (by simp [bne, he31]); have HB3 := hide (HB2.out.trans (hb3.mono HB2.out.size)); have HO3 := hide (HO2.out.below hb3))
          | (go_must ((with_reducible refine (read_err HO6.len (by omega) HO6.cap.1 HO6.cap.2.1 (by simpa using HB.out.append HMB.out) HO6.reads (hT.below HB6.out) (by simpa using HLo.out HMZ.out)).mono ?_); rintro e w7 ⟨a7, l7, c7, e7, rfl, he7, -, -, hb7⟩; have he71 : ((e7 : Int) == 0) = false := (by rw [beq_eq_false_iff_ne]; omega); have HB7 := hide (HB6.out.trans (hb7.mono HB6.out.size)))))
      | (at_builtin; first
          | (refine append_bytes rfl (.const (.slice none 0 0)) (.tmp 52) rfl _ (.slice none 0 0) 0 [] rfl (World.ownsRow_nil _ (w3.heap.size + 1) _ _) (some ⟨q2, 0, none⟩) m2 p2 Z rfl (fun h => by cases h) HO3.out.len (HO3.out.reads.below ((Below.refl _ _).alloc (Nat.le_refl _) _)) (by omega) (by simp) ?_; intro v5 w5 ho5 hg5 hn5; have HN5 := hide hn5; clear hn5; have HB5 := hide (show Below w.heap.size w w5 from (HB3.out.alloc HB3.out.size _).grown hg5 (by simp; exact Nat.le_succ_of_le HB3.out.size) (fun k hk => by cases hk)); have HG5 := hide (show w3.heap.size + 1 ≤ w5.heap.size from by have := hg5.size; simpa using this))
          | (go_must (refine append_bytes rfl (.tmp 53) (.tmp 54) rfl _ v5 _ _ rfl ho5 am lm cm more rfl HMN.out HM.out.1 (HM.out.2.2.2.2.below HB5.out) (by omega) HG5.out ?_; intro v6 w6 ho6 hg6 hn6; have hv6 : v6 ≠ .slice none 0 0 := (fun h => by have h1 := (hn6.1 h).1; have := (HN5.out.1 h1).2; omega); have HB6 := hide (show Below w.heap.size w w6 from HB5.out.grown hg6 HB5.out.size (fun k hk => by have h1 := (ho5.lt k hk).1; have := HB3.out.size; omega)); clear hn6; obtain ⟨q6, m6, p6, rfl, HO6⟩ := ownB_of ho6 hv6; have hm6 : m6 ≤ 20000 := (by have h1 := HO6.len; have h2 := HO2.out.len; have h3 : more.length = lm := HM.out.1; simp at h1; omega)))))
    go_ret
    exact ⟨rfl, HB7.out.alloc HB7.out.size _⟩

theorem walk (f : Fr) (a : Option Addr) (l c : Nat) (at_ : Int) (am : Option Addr) (lm cm : Nat) (more : List Nat) (w : World) (hT : Tab w) (hok : Txt.ok w ⟨a, l, c, f.load⟩) (hat : -9223372036854775808 ≤ at_ ∧ at_ ≤ 9223372036854775807)
    (hl2 : more.length = lm) (hB2 : Byt more) (hc2 : lm ≤ cm) (hm2 : cm ≤ maxLen) (hn2 : am = none → lm = 0 ∧ cm = 0) (hr2 : Reads w am (bV more)) :
    Calls Tryd.prog 7 #[f.val a l c, .int .i64 at_, .slice am lm cm] w fun e w' => e = .returned (.bool true) ∧ Below w.heap.size w w' := by
  have hl : f.load.length = l := hok.1
  have hlm : l ≤ 9223372036854775807 := by
    have h1 : l ≤ c ∧ c ≤ maxLen := hok.2.2.1
    have := h1.2
    unfold maxLen at this
    omega
  have hmm : lm ≤ 9223372036854775807 := by unfold maxLen at hm2; omega
  by_cases h : at_ < 0 ∨ 100 < lm ∨ 4096 < l
  · exact out7 f a l c at_ am lm cm w hT hlm hmm h
  · obtain ⟨A, rfl⟩ : ∃ A : Nat, at_ = (A : Int) := ⟨at_.toNat, by omega⟩
    by_cases hw : wrongL f = 0
    · exact yes f a l c A am lm cm more w hT hok ⟨hl2, hB2, ⟨hc2, hm2⟩, hn2, hr2⟩ (by omega) (by omega) (by omega) hw
    · exact no f a l c A am lm cm w hT hl (by omega) (by omega) hw
end frameCuts
end Go.Proofs.YtpieagcijfkpnaaDoor
