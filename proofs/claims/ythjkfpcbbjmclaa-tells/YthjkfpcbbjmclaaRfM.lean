/- Which views may be: the document's. -/
import Derived.Test.YthjkfpcbbjmclaaMay
namespace Go.Proofs.Ythjkfpcbbjmclaa
open Go.RowKit Go.ChangeShapes Go.WideShapes Go.ChangeAt Go.Deep

def lastAt (ms : List Mb) : Nat → Int
  | 0 => -1
  | j + 1 => (ms[j]?.map (·.1)).getD 0
theorem okM_no {n k : Int} (h : okM (n, k) = false) : (n < 0 ∨ 15 < n) ∨ (k < 1 ∨ 2147483647 < k) := by
  rcases Decidable.em ((n < 0 ∨ 15 < n) ∨ (k < 1 ∨ 2147483647 < k)) with h1 | h1
  · exact h1
  · have : okM (n, k) = true := (okM_iff _).2 (by simp only; omega)
    rw [this] at h; cases h

set_option linter.unusedSimpArgs false in
set_option maxRecDepth 100000 in
set_option maxHeartbeats 8000000 in
/-- gleanerref14.MayView. -/
theorem rmay_any (ep : Int) (ms : List Mb) (a : Option Addr) (l c : Nat) (w : World) (hl : ms.length = l) (hlen : l ≤ 20000) (hr : Reads w a (mV ms)) :
    Calls Try.prog 20 #[.agg #[.int .i64 ep, .slice a l c]] w fun e w' => e = .returned (.bool (mayV ep ms)) ∧ Below w.heap.size w w' := by
  have HB := hide (below_new w (.cells #[.int .i64 ep, .slice a l c] 24))
  have HX := hide (BoxL.new w [.int .i64 ep, .slice a l c] 24)
  obtain ⟨V, hV⟩ : ∃ V, V = w.alloc (.cells #[.int .i64 ep, .slice a l c] 24) := ⟨_, rfl⟩
  have HX := hide (show BoxL V w.heap.size [.int .i64 ep, .slice a l c] by rw [hV]; exact HX.out)
  rw [← hV] at HB
  have HR := hide (hr.below HB.out)
  have HL := hide hl
  have HV := hide hV
  obtain ⟨⟨x0, x1⟩, -⟩ := HX.out.c2
  have HO := hide (show mayV ep ms = (okN ep && (headZ ms && goV (-1) ms)) from rfl)
  generalize mayV ep ms = R at HO ⊢
  clear hr hl hV
  by_cases e1 : ep < 1
  · have HF := hide (show R = false by rw [HO.out, show okN ep = false by simp [okN]; omega]; rfl)
    go_enter Try.func20, Try.ntmps20
    go_wp2
    go_ret
    first | exact ⟨by rw [HF.out]; rfl, HB.out⟩ | exact ⟨by rw [HF.out]; rfl, by rw [← HV.out]; exact HB.out⟩
  · by_cases e2 : 2147483647 < ep
    · have HF := hide (show R = false by rw [HO.out, show okN ep = false by simp [okN]; omega]; rfl)
      go_enter Try.func20, Try.ntmps20
      go_wp2
      go_ret
      first | exact ⟨by rw [HF.out]; rfl, HB.out⟩ | exact ⟨by rw [HF.out]; rfl, by rw [← HV.out]; exact HB.out⟩
    · have HE := hide (show okN ep = true by simp [okN]; omega)
      by_cases h0 : l = 0
      · subst h0
        have HF := hide (show R = false by rw [HO.out, HE.out, List.eq_nil_of_length_eq_zero HL.out]; rfl)
        go_enter Try.func20, Try.ntmps20
        go_wp2
        go_ret
        first | exact ⟨by rw [HF.out]; rfl, HB.out⟩ | exact ⟨by rw [HF.out]; rfl, by rw [← HV.out]; exact HB.out⟩
      · have hm0 : 0 < ms.length := by have := HL.out; omega
        have q0 : ((l : Int) == 0) = false := by rw [beq_eq_false_iff_ne]; omega
        have ql : (0 : Int) < (l : Int) := by omega
        have ql' : 0 < l := by omega
        by_cases h16 : (16 : Int) < (l : Int)
        · have HF := hide (show R = false by
            rw [HO.out]
            cases hg : goV (-1) ms with
            | false => simp
            | true => have := goV_len ms (-1) (by omega) (by omega) hg; have := HL.out; omega)
          go_enter Try.func20, Try.ntmps20
          go_wp2
          go_ret
          first | exact ⟨by rw [HF.out]; rfl, HB.out⟩ | exact ⟨by rw [HF.out]; rfl, by rw [← HV.out]; exact HB.out⟩
        · obtain ⟨b, off, har, y0, -⟩ := mem_at HR.out hm0
          rw [Nat.zero_mul, Nat.add_zero] at y0
          subst har
          have HH := hide (head_at hm0)
          have HO2 := hide (show R = (decide (ms[0].1 = 0) && goV (-1) ms) by rw [HO.out, HE.out, HH.out]; rfl)
          clear HH HO HE
          generalize ms[0].1 = z at y0 HO2
          rw [HV.out] at x0 x1 y0
          by_cases hz : z = 0
          · have qz : (z == 0) = true := by simp [hz]
            have qz' : (z != 0) = false := by simp [hz]
            have HR2 := hide (show R = goV (-1) ms by rw [HO2.out, hz]; rfl)
            clear HO2 hz
            go_enter Try.func20, Try.ntmps20
            go_wp2
            rw [← HV.out] at x0 x1 y0 ⊢
            clear x0 x1 y0
            go_loopw [3] (fun i wr => Hid (Below V.heap.size V wr) ∧ ∃ (k : Nat), k ≤ l ∧ i = .int .i64 (k : Nat) ∧ Hid (R = goV (lastAt ms k) (ms.drop k))) (fun i _ => l - (intOf i).toNat)
            case atStart => exact ⟨hide (Below.refl _ _), 0, Nat.zero_le _, rfl, hide (by rw [HR2.out]; rfl)⟩
            case round =>
              obtain ⟨hbw, k, hk, rfl, hR⟩ := hrel
              obtain ⟨⟨x0, x1⟩, -⟩ := (HX.out.below hbw.out).c2
              have HB2 := hide (show Below w.heap.size w wr from HB.out.trans (hbw.out.mono HB.out.size))
              by_cases hlt : k < l
              · have hkc : k < ms.length := by have := HL.out; omega
                obtain ⟨cb, off', har, y0, y1⟩ := mem_at (HR.out.below hbw.out) hkc
                simp only [Option.some.injEq, Addr.mk.injEq] at har
                obtain ⟨rfl, rfl, _⟩ := har
                have HD := hide (show ms.drop k = ms[k] :: ms.drop (k + 1) from List.drop_eq_getElem_cons hkc)
                have HLA := hide (show lastAt ms (k + 1) = ms[k].1 by simp [lastAt, hkc])
                have HW := hide (show wr.cell? ⟨w.heap.size, 0, none⟩ = some (.int .i64 ep) from x0)
                have hlt' : (k : Int) < (l : Int) := by omega
                have HBX := hide (below_new wr (.cells #[.int .i64 ms[k].1, .int .i64 ms[k].2] 41))
                have HNX := hide (BoxL.new wr [.int .i64 ms[k].1, .int .i64 ms[k].2] 41)
                have HP := hide (show ∀ j, k = j + 1 → ∃ pn : Int, lastAt ms k = pn ∧ wr.cell? ⟨b, off + j * 2, none⟩ = some (.int .i64 pn) by
                  intro j hj
                  obtain ⟨cb, off', har, z0, -⟩ := mem_at (HR.out.below hbw.out) (show j < ms.length by omega)
                  simp only [Option.some.injEq, Addr.mk.injEq] at har
                  obtain ⟨rfl, rfl, _⟩ := har
                  exact ⟨_, by subst hj; simp [lastAt, show j < ms.length by omega], z0⟩)
                generalize ms[k] = m at y0 y1 HD HLA HBX HNX
                obtain ⟨mn, ml⟩ := m
                simp only at y0 y1 HBX HNX HLA
                have hR2 := hide (show R = goV (lastAt ms k) ((mn, ml) :: ms.drop (k + 1)) by rw [← HD.out]; exact hR.out)
                clear hR HD HW
                go_upto_region 7 with fail
                obtain ⟨X, hX⟩ : ∃ X, X = wr.alloc (.cells #[.int .i64 mn, .int .i64 ml] 41) := ⟨_, rfl⟩
                rw [← hX] at HBX HNX
                obtain ⟨⟨u0, u1⟩, -⟩ := HNX.out.c2
                have x1' := keep_cell x1 HBX.out
                have HPX := hide (show ∀ j, k = j + 1 → ∃ pn : Int, lastAt ms k = pn ∧ X.cell? ⟨b, off + j * 2, none⟩ = some (.int .i64 pn) from fun j hj => by
                  obtain ⟨pn, h1, h2⟩ := HP.out j hj
                  exact ⟨pn, h1, keep_cell h2 HBX.out⟩)
                have HB3 := hide (show Below w.heap.size w X from HB2.out.trans (HBX.out.mono HB2.out.size))
                have HB4 := hide (show Below V.heap.size V X from hbw.out.trans (HBX.out.mono hbw.out.size))
                simp only [← hX]
                clear HBX HNX HP hX x0 x1 y0 y1
                cases hok : okM (mn, ml) with
                | false =>
                  have HF := hide (show R = false by rw [hR2.out]; exact goV_no (.inr hok))
                  rcases okM_no hok with (h1 | h1) | h1
                  · clear hR2 HPX hok
                    go_big_quiet (fail)
                    go_wp2
                    go_ret
                    exact ⟨by rw [HF.out]; rfl, below_drewN HB3.out _⟩
                  · have h2 : ¬ mn < 0 := by omega
                    clear hR2 HPX hok
                    go_big_quiet (fail)
                    go_wp2
                    go_ret
                    exact ⟨by rw [HF.out]; rfl, below_drewN HB3.out _⟩
                  · by_cases h2 : mn < 0
                    · clear hR2 HPX hok h1
                      go_big_quiet (fail)
                      go_wp2
                      go_ret
                      exact ⟨by rw [HF.out]; rfl, below_drewN HB3.out _⟩
                    · by_cases h3 : 15 < mn
                      · clear hR2 HPX hok h1
                        go_big_quiet (fail)
                        go_wp2
                        go_ret
                        exact ⟨by rw [HF.out]; rfl, below_drewN HB3.out _⟩
                      · rcases h1 with h1 | h1
                        · clear hR2 HPX hok
                          go_big_quiet (fail)
                          go_wp2
                          go_ret
                          exact ⟨by rw [HF.out]; rfl, below_drewN HB3.out _⟩
                        · have h4 : ¬ ml < 1 := by omega
                          clear hR2 HPX hok
                          go_big_quiet (fail)
                          go_wp2
                          go_ret
                          exact ⟨by rw [HF.out]; rfl, below_drewN HB3.out _⟩
                | true =>
                  obtain ⟨⟨h1, h2⟩, h3, h4⟩ := (okM_iff _).1 hok
                  simp only at h1 h2 h3 h4
                  have g1 : ¬ mn < 0 := by omega
                  have g2 : ¬ 15 < mn := by omega
                  have g3 : ¬ ml < 1 := by omega
                  have g4 : ¬ 2147483647 < ml := by omega
                  by_cases hk0 : k = 0
                  · subst hk0
                    have HF := hide (show R = goV (lastAt ms (0 + 1)) (ms.drop (0 + 1)) by rw [HLA.out, hR2.out]; exact goV_yes (by simp [lastAt]; omega) hok)
                    clear hR2 HPX hok h1 h2 h3 h4 HLA
                    go_big_quiet (fail)
                    go_wp2
                    go_roundw
                    case rel => exact ⟨hide (below_drewN HB4.out _), 0 + 1, by omega, by go_num, HF⟩
                    case measure => simp [intOf]; omega
                  · obtain ⟨j, hj⟩ : ∃ j, k = j + 1 := ⟨k - 1, by omega⟩
                    obtain ⟨pn, hp, z0⟩ := HPX.out j hj
                    have hk0' : (0 : Int) < (k : Int) := by omega
                    have hk0n : 0 < k := by omega
                    have hwj : IntKind.i64.wrap ((k : Int) - 1) = (j : Int) := by rw [IntKind.wrap_i64]; omega
                    have hkj : (k : Int) - 1 = (j : Int) := by omega
                    have hjl : (j : Int) < (l : Int) := by omega
                    have hjl' : j < l := by omega
                    have HJ := hide hj
                    clear hj
                    by_cases h5 : mn ≤ pn
                    · have HF := hide (show R = false by rw [hR2.out]; exact goV_no (.inl (by rw [hp]; exact h5)))
                      clear hR2 HPX hok h1 h2 h3 h4 HLA hp
                      go_big_quiet (fail)
                      go_wp2
                      go_ret
                      exact ⟨by rw [HF.out]; rfl, below_drewN HB3.out _⟩
                    · have HF := hide (show R = goV (lastAt ms (k + 1)) (ms.drop (k + 1)) by rw [HLA.out, hR2.out]; exact goV_yes (by rw [hp]; exact h5) hok)
                      clear hR2 HPX hok h1 h2 h3 h4 HLA hp
                      go_big_quiet (fail)
                      go_wp2
                      go_roundw
                      case rel => exact ⟨hide (below_drewN HB4.out _), k + 1, by omega, by go_num, HF⟩
                      case measure => simp [intOf]; omega
              · have HF := hide (show R = true by rw [hR.out, List.drop_of_length_le (by have := HL.out; omega)]; cases k <;> rfl)
                have hlt' : ¬ (k : Int) < (l : Int) := by omega
                clear hR
                go_wp2
                go_ret
                exact ⟨by rw [HF.out]; rfl, HB2.out⟩
          · have qz : (z == 0) = false := by simp [hz]
            have qz' : (z != 0) = true := by simp [hz]
            have HF := hide (show R = false by rw [HO2.out]; simp [hz])
            clear HO2 hz
            go_enter Try.func20, Try.ntmps20
            go_wp2
            go_ret
            first | exact ⟨by rw [HF.out]; rfl, HB.out⟩ | exact ⟨by rw [HF.out]; rfl, by rw [← HV.out]; exact HB.out⟩
end Go.Proofs.Ythjkfpcbbjmclaa
