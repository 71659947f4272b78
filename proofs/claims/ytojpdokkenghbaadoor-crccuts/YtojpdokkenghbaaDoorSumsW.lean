/- The walk of CrcSums. -/
import Derived.Test.YtojpdokkenghbaaDoorAlive
namespace Go.Proofs.YtojpdokkenghbaaDoor
open Go.RowKit Go.ChangeShapes Go.WideShapes Go.ChangeAt Go.Deep

/-- A row of one's own as a text. -/
theorem own_txt {w : World} {B n : Nat} {v : Value} {xs : List Nat} (h : w.ownsRow B 5 1 v n (bV xs)) :
    ∃ a cap m, v = .slice a m cap ∧ Hid (xs.length = m) ∧ Hid (m ≤ cap ∧ cap ≤ maxLen) ∧ Hid (a = none → m = 0 ∧ cap = 0) ∧ Hid (Reads w a (bV xs)) := by
  have hn : n = xs.length := by have := h.1; rw [bV_length] at this; omega
  have h' := h
  rcases h.2 with ⟨rfl, h0⟩ | ⟨g, cap, cur, rfl, hB, _, h3, h4, _⟩
  · have hx : xs = [] := List.eq_nil_of_length_eq_zero (by omega)
    subst hx
    exact ⟨none, 0, 0, rfl, hide rfl, hide ⟨Nat.le_refl _, by unfold maxLen; omega⟩, hide (fun _ => ⟨rfl, rfl⟩), hide (.inl rfl)⟩
  · obtain ⟨g', cap', e, _, _, _, hr⟩ := reads_own h' (by simp)
    simp at e
    obtain ⟨rfl, _, rfl⟩ := e
    exact ⟨_, cap, n, rfl, hide hn.symm, hide ⟨h3, h4⟩, hide (fun h => by cases h), hide hr⟩

theorem oks_below {w w' : World} {ts : List Txt} (h : ∀ t ∈ ts, t.ok w) (hb : Below w.heap.size w w') : ∀ t ∈ ts, t.ok w' := fun t ht => (h t ht).below hb

namespace crcSums
set_option maxRecDepth 100000 in
set_option maxHeartbeats 400000 in
theorem walk (a : Option Addr) (len cap : Nat) (ts : List Txt) (w : World) (hT : Tab w) (hl : ts.length = len) (hok : ∀ t ∈ ts, t.ok w) (hr : Reads w a (sV ts)) :
    Calls Tryd.prog 3 #[.slice a len cap] w fun e w' => e = .returned (.bool true) ∧ Below w.heap.size w w' := by
  go_enter Tryd.func3, Tryd.ntmps3
  go_wp2_with (first | (go_at_call 8; go_must (refine (alive_any _ hT).mono ?_; rintro e w1 ⟨rfl, hb1⟩)) | (go_at_call 9; go_must (refine (join_any a len cap ts _ hl (oks_below hok hb1) (hr.below hb1)).mono ?_; rintro e w2 ⟨v, ok, rfl, hb2, HJ⟩; have hbel : Below w.heap.size w w2 := hb1.trans (hb2.mono hb1.size); clear hb2; replace HJ := hide HJ)))
  · go_ret
    exact ⟨rfl, hbel⟩
  · rename_i hnk _ _ _ _
    have hk : ok = true := by cases ok <;> simp_all
    obtain ⟨h50, hfl, ho⟩ := HJ.out hk
    obtain ⟨av, cv, mv, rfl, h1, h2, h3, h4⟩ := own_txt ho
    have HB := hide (flat_byt ts (fun t ht => (hok t ht).2.1))
    have HT2 := hide (hT.below hbel)
    have HO2 := hide (oks_below hok hbel)
    have HR2 := hide (hr.below hbel)
    have HM := hide (show mv ≤ 9223372036854775807 by have := h1.out; omega)
    go_wp2_with (first
      | (go_at_call 10; go_must (first | (refine (sum_any a len cap ts _ hl (by omega) HO2.out HR2.out HT2.out).mono ?_; rintro e w3 ⟨rfl, hw3⟩; subst w3) | (refine (sum_one w2 _ rfl av mv cv (flat ts) h1.out h2.out.1 h2.out.2 h3.out HB.out h4.out HT2.out).mono ?_; rintro e w3 ⟨rfl, hw3⟩; subst w3)))
      | (go_at_call 11; go_must (first | (refine (rsum_any av mv cv (flat ts) w2 h1.out HM.out HB.out h4.out).mono ?_; rintro e w3 ⟨rfl, hw3⟩; subst w3) | (refine (rsum_any av mv cv (flat ts) (w2.alloc (.cells #[.slice av mv cv] 24)) h1.out HM.out HB.out (h4.out.below ((Below.refl _ _).alloc (Nat.le_refl _) _))).mono ?_; rintro e w3 ⟨rfl, hw3⟩; subst w3))))
    go_ret
    exact ⟨rfl, hbel.alloc hbel.size _⟩
end crcSums
end Go.Proofs.YtojpdokkenghbaaDoor
