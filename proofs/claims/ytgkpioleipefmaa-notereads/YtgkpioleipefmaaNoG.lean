/- gleanerref10.SameNote. -/
import Derived.Test.YtgkpioleipefmaaNoGa
import Derived.Test.YtgkpioleipefmaaNoGb
import Derived.Test.YtgkpioleipefmaaNoGc
import Derived.Test.YtgkpioleipefmaaNoGd
namespace Go.Proofs.Ytgkpioleipefmaa
open Go.RowKit Go.ChangeShapes Go.WideShapes Go.ChangeAt Go.Deep

theorem sameNote_go (k1 nd1 lf1 ep1 : Int) (s1 : ByteArray) (fn1 : Int) (args1 : List Int) (aa1 : Option Addr) (al1 ac1 : Nat) (er1 va1 ve1 : Int) (mem1 : List (Int × Int)) (ma1 : Option Addr) (ml1 mc1 : Nat)
    (k2 nd2 lf2 ep2 : Int) (s2 : ByteArray) (fn2 : Int) (args2 : List Int) (aa2 : Option Addr) (al2 ac2 : Nat) (er2 va2 ve2 : Int) (mem2 : List (Int × Int)) (ma2 : Option Addr) (ml2 mc2 : Nat) (R : Bool) (w : World)
    (ha1 : args1.length = al1) (ha2 : args2.length = al2) (hal : al1 ≤ 20000) (hm1 : mem1.length = ml1) (hm2 : mem2.length = ml2) (hmm : ml1 ≤ 20000) (ra1 : Reads w aa1 (iV args1)) (ra2 : Reads w aa2 (iV args2)) (rm1 : Reads w ma1 (mV mem1)) (rm2 : Reads w ma2 (mV mem2))
    (hR : R = true ↔ (k1 = k2 ∧ nd1 = nd2 ∧ lf1 = lf2 ∧ ep1 = ep2 ∧ s1 = s2 ∧ fn1 = fn2 ∧ er1 = er2 ∧ va1 = va2 ∧ ve1 = ve2 ∧ args1 = args2 ∧ mem1 = mem2)) :
    Calls Try.prog 14 #[.agg #[.int .i64 k1, .int .i64 nd1, .int .i64 lf1, .int .i64 ep1, .string s1, .int .i64 fn1, .slice aa1 al1 ac1, .int .i64 er1, .int .i64 va1, .int .i64 ve1, .slice ma1 ml1 mc1], .agg #[.int .i64 k2, .int .i64 nd2, .int .i64 lf2, .int .i64 ep2, .string s2, .int .i64 fn2, .slice aa2 al2 ac2, .int .i64 er2, .int .i64 va2, .int .i64 ve2, .slice ma2 ml2 mc2]] w fun e w' => e = .returned (.bool R) ∧ Below w.heap.size w w' := by
  by_cases he0 : k1 = k2
  · subst he0
    by_cases he1 : nd1 = nd2
    · subst he1
      by_cases he2 : lf1 = lf2
      · subst he2
        by_cases he3 : ep1 = ep2
        · subst he3
          by_cases he4 : s1 = s2
          · subst he4
            by_cases he5 : fn1 = fn2
            · subst he5
              by_cases he6 : er1 = er2
              · subst he6
                by_cases he7 : va1 = va2
                · subst he7
                  by_cases he8 : ve1 = ve2
                  · subst he8
                    by_cases hml : ml1 = ml2
                    · subst hml
                      have CS := fun W (hb : Below w.heap.size w W) => sameInts_any args1 args2 aa1 aa2 al1 ac1 al2 ac2 W ha1 ha2 hal (ra1.below hb) (ra2.below hb)
                      by_cases hne : args1 = args2
                      · rw [decide_eq_true hne] at CS
                        have HD : R = decide (mem1 = mem2) := by
                          by_cases hm : mem1 = mem2
                          · rw [decide_eq_true hm]; exact hR.2 ⟨rfl, rfl, rfl, rfl, rfl, rfl, rfl, rfl, rfl, hne, hm⟩
                          · rw [decide_eq_false hm]; exact Bool.eq_false_iff.2 (fun h => hm (hR.1 h).2.2.2.2.2.2.2.2.2.2)
                        rw [HD]
                        exact sameNote_lp _ _ _ _ _ _ _ _ _ _ _ _ _ _ _ _ _ _ _ _ mem1 mem2 w hm1 hm2 hmm rm1 rm2 CS
                      · rw [decide_eq_false hne] at CS
                        have HF : R = false := Bool.eq_false_iff.2 (fun h => by obtain ⟨h0, h1, h2, h3, h4, h5, h6, h7, h8, h9, h10⟩ := hR.1 h; exact hne h9)
                        rw [HF]
                        exact sameNote_fa _ _ _ _ _ _ _ _ _ _ _ _ _ _ _ _ _ _ _ _ w CS
                    · have hne : mem1 ≠ mem2 := fun h => hml (by rw [← hm1, ← hm2, h])
                      have HF : R = false := Bool.eq_false_iff.2 (fun h => by obtain ⟨h0, h1, h2, h3, h4, h5, h6, h7, h8, h9, h10⟩ := hR.1 h; exact hne h10)
                      rw [HF]
                      exact sameNote_f9 _ _ _ _ _ _ _ _ _ _ _ _ _ _ _ _ _ _ _ _ _ w (by rw [beq_eq_false_iff_ne]; omega)
                  · have hne := he8
                    have HF : R = false := Bool.eq_false_iff.2 (fun h => by obtain ⟨h0, h1, h2, h3, h4, h5, h6, h7, h8, h9, h10⟩ := hR.1 h; exact hne h8)
                    rw [HF]
                    exact sameNote_f8 _ _ _ _ _ _ _ _ _ _ _ _ _ _ _ _ _ _ _ _ _ _ w (by rw [beq_eq_false_iff_ne]; exact hne)
                · have hne := he7
                  have HF : R = false := Bool.eq_false_iff.2 (fun h => by obtain ⟨h0, h1, h2, h3, h4, h5, h6, h7, h8, h9, h10⟩ := hR.1 h; exact hne h7)
                  rw [HF]
                  exact sameNote_f7 _ _ _ _ _ _ _ _ _ _ _ _ _ _ _ _ _ _ _ _ _ _ _ w (by rw [beq_eq_false_iff_ne]; exact hne)
              · have hne := he6
                have HF : R = false := Bool.eq_false_iff.2 (fun h => by obtain ⟨h0, h1, h2, h3, h4, h5, h6, h7, h8, h9, h10⟩ := hR.1 h; exact hne h6)
                rw [HF]
                exact sameNote_f6 _ _ _ _ _ _ _ _ _ _ _ _ _ _ _ _ _ _ _ _ _ _ _ _ w (by rw [beq_eq_false_iff_ne]; exact hne)
            · have hne := he5
              have HF : R = false := Bool.eq_false_iff.2 (fun h => by obtain ⟨h0, h1, h2, h3, h4, h5, h6, h7, h8, h9, h10⟩ := hR.1 h; exact hne h5)
              rw [HF]
              exact sameNote_f5 _ _ _ _ _ _ _ _ _ _ _ _ _ _ _ _ _ _ _ _ _ _ _ _ _ w (by rw [beq_eq_false_iff_ne]; exact hne)
          · have hne := he4
            have HF : R = false := Bool.eq_false_iff.2 (fun h => by obtain ⟨h0, h1, h2, h3, h4, h5, h6, h7, h8, h9, h10⟩ := hR.1 h; exact hne h4)
            rw [HF]
            exact sameNote_f4 _ _ _ _ _ _ _ _ _ _ _ _ _ _ _ _ _ _ _ _ _ _ _ _ _ _ w (by rw [beq_eq_false_iff_ne]; intro h; exact hne (bytes_inj (by rw [← ByteArray.toList_eq, ← ByteArray.toList_eq]; exact h)))
        · have hne := he3
          have HF : R = false := Bool.eq_false_iff.2 (fun h => by obtain ⟨h0, h1, h2, h3, h4, h5, h6, h7, h8, h9, h10⟩ := hR.1 h; exact hne h3)
          rw [HF]
          exact sameNote_f3 _ _ _ _ _ _ _ _ _ _ _ _ _ _ _ _ _ _ _ _ _ _ _ _ _ _ _ w (by rw [beq_eq_false_iff_ne]; exact hne)
      · have hne := he2
        have HF : R = false := Bool.eq_false_iff.2 (fun h => by obtain ⟨h0, h1, h2, h3, h4, h5, h6, h7, h8, h9, h10⟩ := hR.1 h; exact hne h2)
        rw [HF]
        exact sameNote_f2 _ _ _ _ _ _ _ _ _ _ _ _ _ _ _ _ _ _ _ _ _ _ _ _ _ _ _ _ w (by rw [beq_eq_false_iff_ne]; exact hne)
    · have hne := he1
      have HF : R = false := Bool.eq_false_iff.2 (fun h => by obtain ⟨h0, h1, h2, h3, h4, h5, h6, h7, h8, h9, h10⟩ := hR.1 h; exact hne h1)
      rw [HF]
      exact sameNote_f1 _ _ _ _ _ _ _ _ _ _ _ _ _ _ _ _ _ _ _ _ _ _ _ _ _ _ _ _ _ w (by rw [beq_eq_false_iff_ne]; exact hne)
  · have hne := he0
    have HF : R = false := Bool.eq_false_iff.2 (fun h => by obtain ⟨h0, h1, h2, h3, h4, h5, h6, h7, h8, h9, h10⟩ := hR.1 h; exact hne h0)
    rw [HF]
    exact sameNote_f0 _ _ _ _ _ _ _ _ _ _ _ _ _ _ _ _ _ _ _ _ _ _ _ _ _ _ _ _ _ _ w (by rw [beq_eq_false_iff_ne]; exact hne)

theorem uN_inj {a b : List UInt8} (h : uN a = uN b) : a = b := by
  unfold uN at h
  exact List.map_inj_right (fun x y e => UInt8.toNat_inj.1 e) |>.1 h

/-- gleanerref10.SameNote. -/
theorem sameNote_any (n m : No) (s s' : ByteArray) (av mv av' mv' : Value) (B B' : Nat) (w : World) (hM : NM B w n s av mv) (hM' : NM B' w m s' av' mv') : Calls Try.prog 14 #[Nv n s av mv, Nv m s' av' mv'] w fun e w' => ∃ R, e = .returned (.bool R) ∧ (R = true ↔ n = m) ∧ Below w.heap.size w w' := by
  obtain ⟨h1, h2, h3, h4, ⟨aa, al, ac, rfl, hal, _, _, ra, _⟩, ⟨ma, ml, mc, rfl, hml, _, _, rm, _⟩⟩ := hM
  obtain ⟨k1, k2, k3, k4, ⟨ba, bl, bc, rfl, hbl, _, _, rb, _⟩, ⟨na, nl, nc, rfl, hnl, _, _, rn, _⟩⟩ := hM'
  have hal' : n.args.length = al := hal
  have hml' : n.mem.length = ml := hml
  have hbl' : m.args.length = bl := hbl
  have hnl' : m.mem.length = nl := hnl
  obtain ⟨R, hR⟩ : ∃ R : Bool, R = true ↔ n = m := by
    by_cases h : n = m
    · exact ⟨true, by simp [h]⟩
    · exact ⟨false, by simp [h]⟩
  refine (sameNote_go n.kind n.node n.life n.epoch s n.func n.args aa al ac n.err n.val n.vep n.mem ma ml mc m.kind m.node m.life m.epoch s' m.func m.args ba bl bc m.err m.val m.vep m.mem na nl nc R w hal' hbl' (by omega) hml' hnl' (by omega) ra rb rm rn ?_).mono ?_
  · rw [hR]
    obtain ⟨a0, a1, a2, a3, a4, a5, a6, a7, a8, a9, a10⟩ := n
    obtain ⟨b0, b1, b2, b3, b4, b5, b6, b7, b8, b9, b10⟩ := m
    simp only at h1 k1
    simp only [No.mk.injEq]
    have hs : s = s' ↔ a4 = b4 := by
      constructor
      · intro h; rw [← h1, ← k1, h]
      · intro h
        exact bytes_inj (uN_inj (by rw [h1, k1, h]))
    rw [hs]
    constructor
    · rintro ⟨c0, c1, c2, c3, c4, c5, c6, c7, c8, c9, c10⟩; exact ⟨c0, c1, c2, c3, c4, c5, c7, c8, c9, c6, c10⟩
    · rintro ⟨c0, c1, c2, c3, c4, c5, c6, c7, c8, c9, c10⟩; exact ⟨c0, c1, c2, c3, c4, c5, c9, c6, c7, c8, c10⟩
  · rintro e w' ⟨rfl, hb⟩
    exact ⟨R, rfl, hR, hb⟩

end Go.Proofs.Ytgkpioleipefmaa
