/- The walk of FrameReads. -/
import Derived.Test.YtpieagcijfkpnaaDoorRdG
namespace Go.Proofs.YtpieagcijfkpnaaDoor
open Go.RowKit Go.ChangeShapes Go.WideShapes Go.ChangeAt Go.Deep
namespace frameReads

set_option maxRecDepth 100000 in
set_option maxHeartbeats 1000000 in
theorem long (a : Option Addr) (l c : Nat) (w : World) (hT : Tab w) (hlm : l ≤ 9223372036854775807) (h : 6000 < l) :
    Calls Tryd.prog 4 #[.slice a l c] w fun e w' => e = .returned (.bool true) ∧ Below w.heap.size w w' := by
  go_enter Tryd.func4, Tryd.ntmps4
  go_wp2_with (first
    | (go_at_call 8; go_must ((with_reducible refine (alive_any w hT).mono ?_); rintro e w1 ⟨rfl, hb1⟩)))
  go_ret
  exact ⟨rfl, hb1⟩

theorem own_any {w : World} {B n : Nat} {v : Value} {xs : List Nat} (h : w.ownsRow B 5 1 v n (bV xs)) : ∃ a c, v = .slice a n c ∧ xs.length = n ∧ n ≤ c ∧ c ≤ maxLen ∧ Hid (Reads w a (bV xs)) := by
  have h' := h
  obtain ⟨a, cap, m, rfl, hm, hr⟩ := reads_own_any h
  have ht := txtB_of h' hm.out
  have hn : xs.length = n := by have := h'.1; rw [bV_length] at this; omega
  obtain rfl : m = n := by have := hm.out; omega
  exact ⟨a, cap, rfl, hn, ht.1.1, ht.1.2, hr⟩

set_option maxRecDepth 100000 in
set_option maxHeartbeats 1000000 in
theorem good (a : Option Addr) (l c : Nat) (bs : List Nat) (w : World) (hT : Tab w) (hl : bs.length = l) (hB : Byt bs) (hc : l ≤ c) (hcm : c ≤ maxLen) (hn : a = none → l = 0 ∧ c = 0) (hr : Reads w a (bV bs)) (h : l ≤ 6000) :
    Calls Tryd.prog 4 #[.slice a l c] w fun e w' => e = .returned (.bool true) ∧ Below w.heap.size w w' := by
  have KR := hide (fun (a' : Option Addr) (c' : Nat) (W : World) (h1 : l ≤ c') (h2 : c' ≤ maxLen) (h3 : Reads W a' (bV bs)) (hb : Below w.heap.size w W) => read_any a' l c' bs W hl (by omega) h1 h2 hB h3 (hT.below hb))
  have KF := hide (fun (W : World) (hb : Below w.heap.size w W) => rread_any a l c bs W hl (by omega) hc hcm hB (hr.below hb))
  have KS := hide (fun f a b l c l' c' w hl hl' hr hr' => same_yes f a b l c l' c' w hl hl' hr hr')
  have HRd := hide hr
  have HL := hide hl
  unfold ReadPost at KR KF
  generalize readL bs = R at KR KF
  obtain ⟨⟨f1, f2, f3, f4, f5, ld⟩, k⟩ := R
  simp only [Fr.val] at KR KF KS
  clear hr hl hB
  go_enter Tryd.func4, Tryd.ntmps4
  go_wp2_with (first
    | (go_at_call 8; go_must ((with_reducible refine (alive_any w hT).mono ?_); rintro e w1 ⟨rfl, hb1⟩))
    | (at_builtin; go_must (refine append_bytes rfl (.const (.slice none 0 0)) (.tmp 18) rfl w1.heap.size (.slice none 0 0) 0 [] rfl (World.ownsRow_nil _ _ _ _) a l c bs rfl hn HL.out (HRd.out.below hb1) (by omega) (Nat.le_refl _) ?_; intro v2 w2 ho2 hg2 hn2; clear hn2; rw [List.nil_append, Nat.zero_add] at ho2; obtain ⟨a2, c2, rfl, hl2, hc2, hm2, hr2⟩ := own_any ho2; have HB2 := hide (hb1.trans ((below_of hg2).mono hb1.size)); clear ho2 hl2))
    | (go_at_call 12; go_must ((with_reducible refine (KR.out a2 c2 w2 hc2 hm2 hr2.out HB2.out).mono ?_); rintro e w3 ⟨a3, l3, c3, rfl, hl3, hr3, hb3⟩; have HB3 := hide (HB2.out.trans (hb3.mono HB2.out.size)); have HB3b := hide (HB3.out.alloc HB3.out.size (.cells #[.int .i64 f1, .int .i64 f2, .int .i64 f3, .int .i64 f4, .int .i64 f5, .slice a3 l3 c3] 24)); have HX3 := hide (BoxF.new w3 f1 f2 f3 f4 f5 a3 l3 c3); have HR3 := hide (hr3.below ((Below.refl w3.heap.size w3).alloc (Nat.le_refl _) (.cells #[.int .i64 f1, .int .i64 f2, .int .i64 f3, .int .i64 f4, .int .i64 f5, .slice a3 l3 c3] 24))); have HL3 := hide hl3; clear hr3 hl3))
    | (go_at_call 14; go_must ((with_reducible refine (KF.out _ HB3b.out).mono ?_); rintro e w4 ⟨a4, l4, c4, rfl, hl4, hr4, hb4⟩; have HB4 := hide (HB3b.out.trans (hb4.mono HB3b.out.size)); obtain ⟨k0, k1, k2, k3, k4, k5⟩ := HX3.out.below hb4; have hlt : w3.heap.size < w4.heap.size := cell_some_lt k0; have HR34 := hide (HR3.out.below hb4); have HR4 := hide hr4; have HL4 := hide hl4; clear hr4 hl4))
    | (go_at_call 11; go_must ((with_reducible refine (lnum_any _ _).mono ?_); rintro e w5 ⟨rfl, rfl⟩))
    | (go_at_call 13; go_must (refine (KS.out ⟨f1, f2, f3, f4, f5, ld⟩ a3 a4 l3 c3 l4 c4 _ HL3.out HL4.out (HR34.out.below ((Below.refl _ _).alloc (Nat.le_refl _) _)) (HR4.out.below ((Below.refl _ _).alloc (Nat.le_refl _) _))).mono ?_; rintro e w6 ⟨rfl, hb6⟩)))
  go_ret
  exact ⟨rfl, (HB4.out.alloc HB4.out.size _).trans (hb6.mono (by simp; exact Nat.le_succ_of_le HB4.out.size))⟩

theorem walk (a : Option Addr) (l c : Nat) (bs : List Nat) (w : World) (hT : Tab w) (hl : bs.length = l) (hB : Byt bs) (hc : l ≤ c) (hcm : c ≤ maxLen) (hn : a = none → l = 0 ∧ c = 0) (hr : Reads w a (bV bs)) :
    Calls Tryd.prog 4 #[.slice a l c] w fun e w' => e = .returned (.bool true) ∧ Below w.heap.size w w' := by
  by_cases h : 6000 < l
  · exact long a l c w hT (by unfold maxLen at hcm; omega) h
  · exact good a l c bs w hT hl hB hc hcm hn hr (by omega)
end frameReads
end Go.Proofs.YtpieagcijfkpnaaDoor
