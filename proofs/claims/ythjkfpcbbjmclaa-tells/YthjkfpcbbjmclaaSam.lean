/- Two views held against each other: the document's. -/
import Derived.Test.YthjkfpcbbjmclaaRow
import Derived.BigQuiet
namespace Go.Proofs.Ythjkfpcbbjmclaa
open Go.RowKit Go.ChangeShapes Go.WideShapes Go.ChangeAt Go.Deep

set_option maxRecDepth 100000 in
set_option maxHeartbeats 8000000 in
theorem sameView_any (pa pb : Int) (la lb : List Mb) (aa ba : Option Addr) (al ac bl bc : Nat) (w : World) (hla : la.length = al) (hlb : lb.length = bl) (hal : al ≤ 20000) (ra : Reads w aa (mV la)) (rb : Reads w ba (mV lb)) :
    Calls Try.prog 18 #[.agg #[.int .i64 pa, .slice aa al ac], .agg #[.int .i64 pb, .slice ba bl bc]] w fun e w' => e = .returned (.bool (decide (pa = pb ∧ la = lb))) ∧ Below w.heap.size w w' := by
  obtain ⟨hx1, hx2, hx3, hx4⟩ := box2 w [.int .i64 pa, .slice aa al ac] [.int .i64 pb, .slice ba bl bc] 24 24
  obtain ⟨V, hV⟩ : ∃ V, V = (w.alloc (.cells #[.int .i64 pa, .slice aa al ac] 24)).alloc (.cells #[.int .i64 pb, .slice ba bl bc] 24) := ⟨_, rfl⟩
  have HX := hide (show BoxL V w.heap.size [.int .i64 pa, .slice aa al ac] by rw [hV]; exact hx1)
  have HY := hide (show BoxL V (w.heap.size + 1) [.int .i64 pb, .slice ba bl bc] by rw [hV]; exact hx2)
  have HB := hide (show Below w.heap.size w V by rw [hV]; exact hx3)
  have HV := hide hV
  clear hx1 hx2 hx3 hx4 hV
  by_cases hp : pa = pb
  · subst hp
    by_cases hl : al = bl
    · subst hl
      have HD := hide (show decide (pa = pa ∧ la = lb) = decide (la = lb) by simp)
      generalize decide (pa = pa ∧ la = lb) = R at HD ⊢
      have q : ((al : Int) == (al : Int)) = true := by simp
      go_enter Try.func18, Try.ntmps18
      go_wp2
      rw [← HV.out]
      go_loopw [5] (fun i wr => Hid (Below V.heap.size V wr) ∧ ∃ (k : Nat), k ≤ al ∧ i = .int .i64 (k : Nat) ∧ Hid (la.take k = lb.take k)) (fun i _ => al - (intOf i).toNat)
      case atStart => exact ⟨hide (Below.refl _ _), 0, Nat.zero_le _, rfl, hide rfl⟩
      case round =>
        obtain ⟨hbw, k, hk, rfl, hT⟩ := hrel
        have HBW := hide (HB.out.trans (hbw.out.mono HB.out.size))
        obtain ⟨⟨-, c1⟩, -⟩ := (HX.out.below hbw.out).c2
        obtain ⟨⟨-, d1⟩, -⟩ := (HY.out.below hbw.out).c2
        by_cases hlt : k < al
        · have hka : k < la.length := by omega
          have hkb : k < lb.length := by omega
          obtain ⟨cb, off, har, y0, y1⟩ := mem_at (ra.below HBW.out) hka
          obtain ⟨eb, eff, hbr, z0, z1⟩ := mem_at (rb.below HBW.out) hkb
          subst har
          subst hbr
          have hlt' : (k : Int) < (al : Int) := by omega
          have HTE := hide (fun h => take_eq hka hkb hT.out h)
          have HNE := hide (fun h => ne_at hka hkb h)
          generalize la[k] = x at y0 y1 HTE HNE
          generalize lb[k] = y at z0 z1 HTE HNE
          obtain ⟨x0, x1⟩ := x
          obtain ⟨z0', z1'⟩ := y
          simp only at y0 y1 z0 z1
          by_cases he : (x0, x1) = (z0', z1')
          · obtain ⟨rfl, rfl⟩ := Prod.mk.inj he
            have HN := hide (HTE.out rfl)
            clear HTE HNE hT he
            go_wp2_with fail
            go_big_quiet (fail)
            go_wp2_with fail
            go_roundw
            case rel => exact ⟨hide (below_drewN hbw.out _), k + 1, by omega, by go_num, HN⟩
            case measure => simp [intOf]; omega
          · have HF := hide (show R = false by rw [HD.out]; exact decide_eq_false (HNE.out he))
            have hxy : x0 ≠ z0' ∨ x1 ≠ z1' := by
              by_cases h0 : x0 = z0'
              · right; intro h1; exact he (by rw [h0, h1])
              · exact .inl h0
            clear HTE HNE hT he
            rcases hxy with h0 | h0
            · have g0 : (x0 == z0') = false := by rw [beq_eq_false_iff_ne]; exact h0
              go_wp2_with fail
              go_big_quiet (fail)
              go_wp2
              go_ret
              exact ⟨by rw [HF.out]; rfl, below_drewN HBW.out _⟩
            · have g0 : (x1 == z1') = false := by rw [beq_eq_false_iff_ne]; exact h0
              go_wp2_with fail
              go_big_quiet (fail)
              go_wp2
              go_ret
              exact ⟨by rw [HF.out]; rfl, below_drewN HBW.out _⟩
        · have HF := hide (show R = true by
            rw [HD.out]
            have e1 : la.take k = la := List.take_of_length_le (by omega)
            have e2 : lb.take k = lb := List.take_of_length_le (by omega)
            have := hT.out
            rw [e1, e2] at this
            exact decide_eq_true this)
          have hlt' : ¬ (k : Int) < (al : Int) := by omega
          clear hT
          go_wp2
          go_ret
          exact ⟨by rw [HF.out]; rfl, HBW.out⟩
    · have HF := hide (show decide (pa = pa ∧ la = lb) = false from decide_eq_false (fun h => hl (by rw [← hla, ← hlb, h.2])))
      generalize decide (pa = pa ∧ la = lb) = R at HF ⊢
      have q1 : ((al : Int) == (bl : Int)) = false := by rw [beq_eq_false_iff_ne]; omega
      go_enter Try.func18, Try.ntmps18
      go_wp2
      go_ret
      exact ⟨by rw [HF.out]; rfl, by rw [← HV.out]; exact HB.out⟩
  · have HF := hide (show decide (pa = pb ∧ la = lb) = false from decide_eq_false (fun h => hp h.1))
    generalize decide (pa = pb ∧ la = lb) = R at HF ⊢
    have q1 : (pa == pb) = false := by rw [beq_eq_false_iff_ne]; exact hp
    go_enter Try.func18, Try.ntmps18
    go_wp2
    go_ret
    exact ⟨by rw [HF.out]; rfl, by rw [← HV.out]; exact HB.out⟩


end Go.Proofs.Ythjkfpcbbjmclaa
