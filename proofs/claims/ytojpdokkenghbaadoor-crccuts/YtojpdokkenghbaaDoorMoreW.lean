/- The walk of CrcMore. -/
import Derived.Test.YtojpdokkenghbaaDoorSumsW
namespace Go.Proofs.YtojpdokkenghbaaDoor
open Go.RowKit Go.ChangeShapes Go.WideShapes Go.ChangeAt Go.Deep

theorem s32_nat (c : Nat) (h : c < 4294967296) : s32 (c : Int) = c := by unfold s32; omega
theorem crcSum_lt (bs : List Nat) (h : Byt bs) : crcSum bs < 4294967296 := crcMore_lt 0 bs h

/-- 'append(v, y...)', guarded, where the guard says yes. -/
theorem append_bytes_if {w : World} {ops : Array Oper} {rest : List Oper} {o : Oper} {a : Act} {Q : Exit → Act → World → Prop} (hgd : Region.wanted o (yielded ops a.tmps) = true) (s x : Operand)
    (ho : o.op = .call { callee := .builtin .append, args := #[s, x], argTypes := #[24, 24] })
    (base : Nat) (v : Value) (n : Nat) (xs : List Nat) (hs : a.eval s = v) (hown : w.ownsRow base 5 1 v n (bV xs))
    (ad : Option Addr) (m c : Nat) (ys : List Nat) (hx : a.eval x = .slice ad m c) (hnil : ad = none → m = 0 ∧ c = 0) (hl : ys.length = m) (hr : Reads w ad (bV ys))
    (hb : n + m ≤ 140737488355328) (hbase : base ≤ w.heap.size)
    (h : ∀ v' w', w'.ownsRow base 5 1 v' (n + m) (bV (xs ++ ys)) → w.grownBy w' v.ownBlock → wpList Tryd.prog ops Q rest (a.put o.dst v') w') :
    wpList Tryd.prog ops Q (o :: rest) a w := by
  unfold wpList
  rw [if_pos hgd]
  exact .inl (wp_append_bytes s x ho base v n xs hs hown ad m c ys hx hnil hl hr hb hbase (fun v' w' h1 h2 _ => h v' w' h1 h2))

namespace crcMore
set_option maxRecDepth 100000 in
set_option maxHeartbeats 1000000 in
theorem walk (n : Int) (a : Option Addr) (len cap : Nat) (ts : List Txt) (ab : Option Addr) (lb cb : Nat) (b : List Nat) (w : World) (hT : Tab w) (_hn : -9223372036854775808 ≤ n ∧ n ≤ 9223372036854775807) (hl : ts.length = len) (hok : ∀ t ∈ ts, t.ok w) (hr : Reads w a (sV ts))
    (hlb : b.length = lb) (hBb : Byt b) (hcb : lb ≤ cb) (hmb : cb ≤ maxLen) (hnb : ab = none → lb = 0 ∧ cb = 0) (hrb : Reads w ab (bV b)) :
    Calls Tryd.prog 4 #[.int .i64 n, .slice a len cap, .slice ab lb cb] w fun e w' => e = .returned (.bool true) ∧ Below w.heap.size w w' := by
  have HTY := hide (⟨hlb, hBb, ⟨hcb, hmb⟩, hnb, hrb⟩ : b.length = lb ∧ Byt b ∧ (lb ≤ cb ∧ cb ≤ maxLen) ∧ (ab = none → lb = 0 ∧ cb = 0) ∧ Reads w ab (bV b))
  clear hlb hBb hcb hmb hnb hrb
  by_cases h2000 : lb ≤ 2000
  · go_enter Tryd.func4, Tryd.ntmps4
    go_wp2_with (first | (go_at_call 8; go_must (refine (alive_any _ hT).mono ?_; rintro e w1 ⟨rfl, hb1⟩)) | (go_at_call 9; go_must (refine (join_any a len cap ts _ hl (oks_below hok hb1) (hr.below hb1)).mono ?_; rintro e w2 ⟨v, ok, rfl, hb2, HJ⟩; have hbel : Below w.heap.size w w2 := hb1.trans (hb2.mono hb1.size); clear hb2; replace HJ := hide HJ; cases ok)))
    · go_ret
      exact ⟨rfl, hbel⟩
    · obtain ⟨h50, hfl, ho⟩ := HJ.out trivial
      obtain ⟨av, cv, mv, rfl, h1, h2, h3, h4⟩ := own_txt ho
      have HB := hide (flat_byt ts (fun t ht => (hok t ht).2.1))
      have HT2 := hide (hT.below hbel)
      have HO2 := hide (oks_below hok hbel)
      have HR2 := hide (hr.below hbel)
      have HM := hide (show mv ≤ 9223372036854775807 by have := h1.out; omega)
      have hmv : mv ≤ 100000 := by have := h1.out; omega
      obtain ⟨b1, b2, b3, b4, b5⟩ := HTY.out
      have HB5 := hide (b5.below hbel)
      have HB4 := hide b4
      have HB3 := hide b3
      have HB2 := hide b2
      have HB1 := hide b1
      have HE := (show crcMore (s32 (crcSum b : Nat)) (flat ts) = crcSum (b ++ flat ts) by rw [s32_nat _ (crcSum_lt b b2)]; exact (crcMore_append 0 b (flat ts) b2).symm)
      clear b1 b2 b3 b4 b5 HTY HJ hfl
      have bel3 : Below w2.heap.size w2 (w2.alloc (.cells #[.slice ab lb cb] 24)) := (Below.refl _ _).alloc (Nat.le_refl _) _
      obtain ⟨w3, hw3⟩ : ∃ w3, w3 = w2.alloc (.cells #[.slice ab lb cb] 24) := ⟨_, rfl⟩
      have C1 := more_any n a len cap ts w2 hl (by omega) HO2.out HR2.out HT2.out
      have C2 := rmore_any n av mv cv (flat ts) w2 h1.out HM.out HB.out h4.out
      have C3 := sum_one w2 w2.heap.size rfl ab lb cb b HB1.out HB3.out.1 HB3.out.2 HB4.out HB2.out HB5.out HT2.out
      have C4 := more_any (crcSum b : Nat) a len cap ts _ hl (by omega) (oks_below HO2.out bel3) (HR2.out.below bel3) (HT2.out.below bel3)
      have C5 := fun (w5 : World) (g : Nat) (hg : g = w5.heap.size) (bel5 : Below w2.heap.size w2 w5) (a5 : Option Addr) (m5 c5 : Nat) (h51 : (b ++ flat ts).length = m5) (h52 : m5 ≤ c5 ∧ c5 ≤ maxLen) (h53 : a5 = none → m5 = 0 ∧ c5 = 0) (h54 : Reads w5 a5 (bV (b ++ flat ts))) => sum_one w5 g hg a5 m5 c5 (b ++ flat ts) h51 h52.1 h52.2 h53 (HB2.out.append HB.out) h54 (HT2.out.below bel5)
      rw [HE] at C4
      rw [← hw3] at C3 C4 bel3
      generalize crcSum (b ++ flat ts) = Z at C4 C5
      generalize crcSum b = S at C3 C4
      generalize crcMore (s32 n) (flat ts) = R at C1 C2
      clear HE
      replace hw3 := hide hw3
      replace C1 := hide C1
      replace C2 := hide C2
      replace C3 := hide C3
      replace C4 := hide C4
      replace C5 := hide C5
      go_wp2_with (first
        | (go_at_call 10; go_must (first
            | (rw [← hw3.out]; with_reducible refine C3.out.mono ?_; rintro e w4 ⟨rfl, hw4⟩; subst w4)
            | (refine (C5.out w5 _ rfl bel5 a5 m5 c5 h51.out h52.out h53.out h54.out).mono ?_; rintro e w6 ⟨rfl, hw6⟩; subst w6)))
        | (go_at_call 12; go_must (first
            | (with_reducible refine C1.out.mono ?_; rintro e w4 ⟨rfl, hw4⟩; subst w4)
            | (refine C4.out.mono ?_; rintro e w4 ⟨rfl, hw4⟩; subst w4)))
        | (at_builtin; go_must (first
            | (refine append_bytes_if (by rfl) (.const (.slice none 0 0)) (.tmp 41) rfl w3.heap.size (.slice none 0 0) 0 [] rfl (World.ownsRow_nil _ _ _ _) ab lb cb b rfl HB4.out HB1.out (HB5.out.below bel3) (by omega) (Nat.le_refl _) ?_; intro v4 w4 ho4 hg4; have bel4 : Below w3.heap.size w3 w4 := below_of hg4; replace ho4 := hide ho4; clear hg4)
            | (refine append_bytes_if (by rfl) (.tmp 42) (.tmp 43) rfl w3.heap.size v4 (0 + lb) ([] ++ b) rfl ho4.out av mv cv (flat ts) rfl h3.out h1.out (h4.out.below (bel3.trans (bel4.mono bel3.size))) (by omega) bel4.size ?_; intro v5 w5 ho5 hg5; have bel5 : Below w2.heap.size w2 w5 := bel3.trans ((bel4.grown hg5 bel4.size (fun q hq => (ho4.out.lt q hq).1)).mono bel3.size); clear hg5; obtain ⟨a5, c5, m5, rfl, h51, h52, h53, h54⟩ := own_txt ho5; clear ho5)))
        | (go_at_call 13; go_must (refine C2.out.mono ?_; rintro e w4 ⟨rfl, hw4⟩; subst w4)))
      go_ret
      exact ⟨rfl, hbel.trans ((bel5.alloc bel5.size _).mono hbel.size)⟩
  · go_enter Tryd.func4, Tryd.ntmps4
    go_wp2_with (first | (go_at_call 8; go_must (refine (alive_any _ hT).mono ?_; rintro e w1 ⟨rfl, hb1⟩)) | (go_at_call 9; go_must (refine (join_any a len cap ts _ hl (oks_below hok hb1) (hr.below hb1)).mono ?_; rintro e w2 ⟨v, ok, rfl, hb2, HJ⟩; have hbel : Below w.heap.size w w2 := hb1.trans (hb2.mono hb1.size); clear hb2; replace HJ := hide HJ; cases ok)))
    all_goals (go_ret; exact ⟨rfl, hbel⟩)
end crcMore
end Go.Proofs.YtojpdokkenghbaaDoor
