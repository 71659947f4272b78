/- Which views may be. -/
import Derived.Test.YthjkfpcbbjmclaaSm2
namespace Go.Proofs.Ythjkfpcbbjmclaa
open Go.RowKit Go.ChangeShapes Go.WideShapes Go.ChangeAt Go.Deep

theorem head_at {ms : List Mb} (h : 0 < ms.length) : headZ ms = decide (ms[0].1 = 0) := by
  cases ms with
  | nil => simp at h
  | cons a r => rfl

theorem box_may (wr : World) (n k : Int) :
    Calls Try.prog 33 #[.agg #[.int .i64 n, .int .i64 k]] (wr.alloc (.cells #[.int .i64 n, .int .i64 k] 41)) fun e w' => e = .returned (.bool (okM (n, k))) ∧ Below wr.heap.size wr w' ∧ BoxL w' wr.heap.size [.int .i64 n, .int .i64 k] := by
  have hb := below_new wr (.cells #[.int .i64 n, .int .i64 k] 41)
  have hx := BoxL.new wr [.int .i64 n, .int .i64 k] 41
  refine (mayMember_any n k _).mono ?_
  rintro e w' ⟨rfl, h⟩
  exact ⟨rfl, hb.trans (h.mono hb.size), hx.below h⟩

set_option linter.unusedSimpArgs false in
set_option maxRecDepth 100000 in
set_option maxHeartbeats 4000000 in
/-- view.May. -/
theorem may_any (ep : Int) (ms : List Mb) (a : Option Addr) (l c : Nat) (w : World) (hl : ms.length = l) (hlen : l ≤ 20000) (hr : Reads w a (mV ms)) :
    Calls Try.prog 19 #[.agg #[.int .i64 ep, .slice a l c]] w fun e w' => e = .returned (.bool (mayV ep ms)) ∧ Below w.heap.size w w' := by
  have HB := hide (below_new w (.cells #[.int .i64 ep, .slice a l c] 24))
  have HX := hide (BoxL.new w [.int .i64 ep, .slice a l c] 24)
  obtain ⟨V, hV⟩ : ∃ V, V = w.alloc (.cells #[.int .i64 ep, .slice a l c] 24) := ⟨_, rfl⟩
  have HX := hide (show BoxL V w.heap.size [.int .i64 ep, .slice a l c] by rw [hV]; exact HX.out)
  rw [← hV] at HB
  have HR := hide (hr.below HB.out)
  have HL := hide hl
  have HV := hide hV
  obtain ⟨⟨x0, x1⟩, -⟩ := HX.out.c2
  have C36 := hide (mayBe_any ep V)
  have HO := hide (show mayV ep ms = (okN ep && (headZ ms && goV (-1) ms)) from rfl)
  generalize mayV ep ms = R at HO ⊢
  clear hr hl hV
  cases he : okN ep with
  | false =>
    rw [he] at C36
    have HF := hide (show R = false by rw [HO.out, he]; rfl)
    go_enter Try.func19, Try.ntmps19
    go_wp2_with (go_at_call 36; go_must (rw [← HV.out]; (with_reducible refine C36.out.mono ?_); rintro e w1 ⟨rfl, hw1⟩; subst hw1))
    go_ret
    exact ⟨by rw [HF.out]; rfl, HB.out⟩
  | true =>
    rw [he] at C36
    by_cases h0 : l = 0
    · subst h0
      have HF := hide (show R = false by rw [HO.out, he, List.eq_nil_of_length_eq_zero HL.out]; rfl)
      go_enter Try.func19, Try.ntmps19
      go_wp2_with (go_at_call 36; go_must (rw [← HV.out]; (with_reducible refine C36.out.mono ?_); rintro e w1 ⟨rfl, hw1⟩; subst hw1))
      go_ret
      exact ⟨by rw [HF.out]; rfl, HB.out⟩
    · have hm0 : 0 < ms.length := by have := HL.out; omega
      have q0 : ((l : Int) == 0) = false := by rw [beq_eq_false_iff_ne]; omega
      have ql : (0 : Int) < (l : Int) := by omega
      have ql' : 0 < l := by omega
      obtain ⟨b, off, har, y0, -⟩ := mem_at HR.out hm0
      rw [Nat.zero_mul, Nat.add_zero] at y0
      subst har
      have HH := hide (head_at hm0)
      have HO2 := hide (show R = (decide (ms[0].1 = 0) && goV (-1) ms) by rw [HO.out, he, HH.out]; rfl)
      clear HH HO
      generalize ms[0].1 = z at y0 HO2
      by_cases hz : z = 0
      · have qz : (z == 0) = true := by simp [hz]
        have qz' : (z != 0) = false := by simp [hz]
        have HR2 := hide (show R = goV (-1) ms by rw [HO2.out, hz]; rfl)
        clear HO2 hz
        go_enter Try.func19, Try.ntmps19
        go_wp2_with (go_at_call 36; go_must (rw [← HV.out]; (with_reducible refine C36.out.mono ?_); rintro e w1 ⟨rfl, hw1⟩; subst hw1))
        go_loopw [3, 27] (fun la i wr => Hid (Below w1.heap.size w1 wr) ∧ ∃ (k : Nat) (last : Int), k ≤ l ∧ i = .int .i64 (k : Nat) ∧ la = .int .i64 last ∧ Hid (R = goV last (ms.drop k))) (fun _ i _ => l - (intOf i).toNat)
        case atStart => exact ⟨hide (Below.refl _ _), 0, -1, Nat.zero_le _, rfl, rfl, by simpa using HR2⟩
        case round =>
          obtain ⟨hbw, k, last, hk, rfl, rfl, hR⟩ := hrel
          by_cases hlt : k < l
          · have hkc : k < ms.length := by have := HL.out; omega
            obtain ⟨cb, off', har, y0, y1⟩ := mem_at (HR.out.below hbw.out) hkc
            simp only [Option.some.injEq, Addr.mk.injEq] at har
            obtain ⟨rfl, rfl, _⟩ := har
            have HD := hide (show ms.drop k = ms[k] :: ms.drop (k + 1) from List.drop_eq_getElem_cons hkc)
            generalize ms[k] = m at y0 y1 HD
            obtain ⟨mn, ml⟩ := m
            simp only at y0 y1
            have hlt' : (k : Int) < (l : Int) := by omega
            have hR2 := hide (show R = goV last ((mn, ml) :: ms.drop (k + 1)) by rw [← HD.out]; exact hR.out)
            clear hR HD
            have C33 := hide (box_may wr mn ml)
            have HB2 := hide (show Below w.heap.size w wr from HB.out.trans (hbw.out.mono HB.out.size))
            have HBX := hide (below_new wr (.cells #[.int .i64 mn, .int .i64 ml] 41))
            by_cases h1 : mn ≤ last
            · have HF := hide (show R = false by rw [hR2.out]; exact goV_no (.inl h1))
              clear hR2
              go_wp2_with (go_at_call 33; go_must ((with_reducible refine C33.out.mono ?_); rintro e w2 ⟨rfl, hb2, hx2⟩))
              go_ret
              first | exact ⟨by rw [HF.out]; rfl, HB2.out.trans (HBX.out.mono HB2.out.size)⟩ | exact ⟨by rw [HF.out]; rfl, HB2.out.trans (hb2.mono HB2.out.size)⟩
            · cases hok : okM (mn, ml) with
              | false =>
                rw [hok] at C33
                have HF := hide (show R = false by rw [hR2.out]; exact goV_no (.inr hok))
                clear hR2
                go_wp2_with (go_at_call 33; go_must ((with_reducible refine C33.out.mono ?_); rintro e w2 ⟨rfl, hb2, hx2⟩; have HB3 := hide hb2; clear hb2 hx2))
                go_ret
                exact ⟨by rw [HF.out]; rfl, HB2.out.trans (HB3.out.mono HB2.out.size)⟩
              | true =>
                rw [hok] at C33
                have HF := hide (show R = goV mn (ms.drop (k + 1)) by rw [hR2.out]; exact goV_yes h1 hok)
                clear hR2
                go_wp2_with (go_at_call 33; go_must ((with_reducible refine C33.out.mono ?_); rintro e w2 ⟨rfl, hb2, hx2⟩; have HB3 := hide hb2; obtain ⟨⟨u0, u1⟩, -⟩ := hx2.c2; clear hb2 hx2))
                go_roundw
                case rel => exact ⟨hide (hbw.out.trans (HB3.out.mono hbw.out.size)), k + 1, mn, by omega, by go_num, rfl, HF⟩
                case measure => simp [intOf]; omega
          · have HF := hide (show R = true by rw [hR.out, List.drop_of_length_le (by have := HL.out; omega)]; rfl)
            have hlt' : ¬ (k : Int) < (l : Int) := by omega
            clear hR
            go_wp2
            go_ret
            exact ⟨by rw [HF.out]; rfl, HB.out.trans (hbw.out.mono HB.out.size)⟩
      · have qz : (z == 0) = false := by simp [hz]
        have qz' : (z != 0) = true := by simp [hz]
        have HF := hide (show R = false by rw [HO2.out]; simp [hz])
        clear HO2 hz
        go_enter Try.func19, Try.ntmps19
        go_wp2_with (go_at_call 36; go_must (rw [← HV.out]; (with_reducible refine C36.out.mono ?_); rintro e w1 ⟨rfl, hw1⟩; subst hw1))
        go_ret
        exact ⟨by rw [HF.out]; rfl, HB.out⟩
end Go.Proofs.Ythjkfpcbbjmclaa
