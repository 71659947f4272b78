/- The document's checkIns. -/
import Derived.Test.YtfdgkeljnmamiaaDoorNeed
import Derived.Test.YtfdgkeljnmamiaaDoorPlainA
import Derived.Lib.Hide
namespace Go.Proofs.YtfdgkeljnmamiaaDoor
open Go.RowKit Go.ChangeShapes Go.WideShapes Go.ChangeAt Go.Deep

theorem hasB_in {l n : Int} (h0 : 0 ≤ n) (h1 : n < l) : hasB l n = true := by simp [hasB, inB]; omega
theorem hasB_lo {l n : Int} (h0 : n < 0) : hasB l n = false := by simp [hasB, inB]; omega
theorem hasB_hi {l n : Int} (h1 : l ≤ n) : hasB l n = false := by simp [hasB, inB]; omega

theorem three_new (w : World) (a b c : Obj) : (((w.alloc a).alloc b).alloc c).heap[w.heap.size]? = some a ∧ (((w.alloc a).alloc b).alloc c).heap[w.heap.size + 1]? = some b ∧ (((w.alloc a).alloc b).alloc c).heap[w.heap.size + 1 + 1]? = some c ∧ Below w.heap.size w (((w.alloc a).alloc b).alloc c) := by
  have h1 : (w.alloc a).heap.size = w.heap.size + 1 := by simp
  have h2 : ((w.alloc a).alloc b).heap.size = w.heap.size + 1 + 1 := by simp
  refine ⟨?_, ?_, ?_, (((Below.refl _ _).alloc (Nat.le_refl _) _).alloc (by simp) _).alloc (by simp; omega) _⟩
  · rw [Go.heap_alloc_old _ _ (by omega), Go.heap_alloc_old _ _ (by omega)]; exact heap_alloc_new w _
  · rw [Go.heap_alloc_old _ _ (by omega)]
    have := heap_alloc_new (w.alloc a) b
    rwa [h1] at this
  · have := heap_alloc_new ((w.alloc a).alloc b) c
    rwa [h2] at this

set_option linter.unusedSimpArgs false in
set_option maxRecDepth 100000 in
set_option maxHeartbeats 8000000 in
theorem refIns_any (fa : Option Addr) (nf fc : Nat) (mn : Int) (aa : Option Addr) (na ac : Nat) (fu ta : Int) (nm : ByteArray) (ar lo : Int) (ca : Option Addr) (cn cc : Nat) (op n : Int) (w : World) :
    Calls Tryd.prog 37 #[.agg #[.slice fa nf fc, .int .i64 mn, .slice aa na ac, .int .i64 fu, .int .i64 ta], .agg #[.string nm, .int .i64 ar, .int .i64 lo, .slice ca cn cc], .agg #[.int .i64 op, .int .i64 n]] w fun e w' => e = .returned (.int .i64 (insErr lo cn nf op n)) ∧ Below w.heap.size w w' := by
  obtain ⟨r0, r1, r2, hb0⟩ := three_new w (.cells #[.slice fa nf fc, .int .i64 mn, .slice aa na ac, .int .i64 fu, .int .i64 ta] 25) (.cells #[.string nm, .int .i64 ar, .int .i64 lo, .slice ca cn cc] 43) (.cells #[.int .i64 op, .int .i64 n] 39)
  have HB := hide hb0
  have k0 := cell_row (w := (((w.alloc (.cells #[.slice fa nf fc, .int .i64 mn, .slice aa na ac, .int .i64 fu, .int .i64 ta] 25)).alloc (.cells #[.string nm, .int .i64 ar, .int .i64 lo, .slice ca cn cc] 43)).alloc (.cells #[.int .i64 op, .int .i64 n] 39))) (cs := [.slice fa nf fc, .int .i64 mn, .slice aa na ac, .int .i64 fu, .int .i64 ta]) (i := 0) r0 rfl
  have k2 := cell_row (cs := [.string nm, .int .i64 ar, .int .i64 lo, .slice ca cn cc]) (i := 2) r1 rfl
  have k3 := cell_row (cs := [.string nm, .int .i64 ar, .int .i64 lo, .slice ca cn cc]) (i := 3) r1 rfl
  have k4 := cell_row (cs := [.int .i64 op, .int .i64 n]) (i := 0) r2 rfl
  have k5 := cell_row (cs := [.int .i64 op, .int .i64 n]) (i := 1) r2 rfl
  clear r0 r1 r2 hb0
  have C51 := fun W => refHasN_any op W
  have C52 := fun W => refName_any op W
  have HE := hide (show insErr lo cn nf op n = (if (kindOf op).word.toList.isEmpty || !((kindOf op).hasN || decide (n = 0)) then 10
    else if op = 5 ∨ op = 6 then (if hasB lo n then 0 else 13)
    else if op = 14 ∨ op = 15 then (if hasB cn n then 0 else 11)
    else if op = 16 then (if hasB nf n then 0 else 14)
    else 0) from rfl)
  generalize insErr lo cn nf op n = r at HE ⊢
  generalize (kindOf op).word = wd at C52 HE
  generalize (kindOf op).hasN = hn at C51 HE
  have hE : ∀ q, wd.toList.isEmpty = q → (q = true ∨ q = false) := fun q _ => by cases q <;> simp
  by_cases he : wd.toList.isEmpty = true
  · have HR := hide (show r = 10 from by rw [HE.out, he]; simp)
    clear HE hE
    go_enter Tryd.func37, Tryd.ntmps37
    go_upto_region 1 with fail
    generalize (((w.alloc (.cells #[.slice fa nf fc, .int .i64 mn, .slice aa na ac, .int .i64 fu, .int .i64 ta] 25)).alloc (.cells #[.string nm, .int .i64 ar, .int .i64 lo, .slice ca cn cc] 43)).alloc (.cells #[.int .i64 op, .int .i64 n] 39)) = w0 at HB k0 k2 k3 k4 k5 ⊢
    go_wp2_with (first
      | (go_at_call 51; go_must (refine (C51 _).mono ?_; rintro e w1 ⟨rfl, hw1⟩; subst hw1))
      | (go_at_call 52; go_must (refine (C52 _).mono ?_; rintro e w2 ⟨rfl, hb2⟩; have HB2 := hide (chain HB.out hb2); have m0 := keep_cell k0 hb2; have m2 := keep_cell k2 hb2; have m3 := keep_cell k3 hb2; have m4 := keep_cell k4 hb2; have m5 := keep_cell k5 hb2; clear hb2)))
    go_ret
    exact ⟨ret_int HR.out.symm, HB2.out⟩
  · have he' : wd.toList.isEmpty = false := by simpa using he
    clear he hE
    by_cases hb : hn = false ∧ n ≠ 0
    · obtain ⟨rfl, h0⟩ := hb
      have HR := hide (show r = 10 from by rw [HE.out, he']; simp [h0])
      have h0' : (n != 0) = true := by simpa using h0
      have h0'' : (n == 0) = false := by simpa using h0
      clear HE h0
      go_enter Tryd.func37, Tryd.ntmps37
      go_upto_region 1 with fail
      generalize (((w.alloc (.cells #[.slice fa nf fc, .int .i64 mn, .slice aa na ac, .int .i64 fu, .int .i64 ta] 25)).alloc (.cells #[.string nm, .int .i64 ar, .int .i64 lo, .slice ca cn cc] 43)).alloc (.cells #[.int .i64 op, .int .i64 n] 39)) = w0 at HB k0 k2 k3 k4 k5 ⊢
      go_wp2_with (first
        | (go_at_call 51; go_must (refine (C51 _).mono ?_; rintro e w1 ⟨rfl, hw1⟩; subst hw1))
        | (go_at_call 52; go_must (refine (C52 _).mono ?_; rintro e w2 ⟨rfl, hb2⟩; have HB2 := hide (chain HB.out hb2); have m0 := keep_cell k0 hb2; have m2 := keep_cell k2 hb2; have m3 := keep_cell k3 hb2; have m4 := keep_cell k4 hb2; have m5 := keep_cell k5 hb2; clear hb2)))
      go_ret
      exact ⟨ret_int HR.out.symm, HB2.out⟩
    · have HE2 := hide (show r = (if op = 5 ∨ op = 6 then (if hasB lo n then 0 else 13)
        else if op = 14 ∨ op = 15 then (if hasB cn n then 0 else 11)
        else if op = 16 then (if hasB nf n then 0 else 14)
        else 0) from by
          rw [HE.out, he', if_neg]
          simp
          intro h1
          by_cases h2 : n = 0
          · exact h2
          · exact absurd ⟨h1, h2⟩ hb)
      have HQ := hide (show hn = true ∨ (hn = false ∧ n = 0) from by
        cases hn with
        | true => exact .inl rfl
        | false => exact .inr ⟨rfl, by by_cases h2 : n = 0; exact h2; exact absurd ⟨rfl, h2⟩ hb⟩)
      clear HE hb
      have hops : op = 5 ∨ op = 6 ∨ op = 14 ∨ op = 15 ∨ op = 16 ∨ ((op == 5) = false ∧ (op == 6) = false ∧ (op == 14) = false ∧ (op == 15) = false ∧ (op == 16) = false) := by
        simp only [beq_eq_false_iff_ne]; omega
      have hr3 : n < 0 ∨ 0 ≤ n := by omega
      rcases HQ.out with rfl | ⟨rfl, rfl⟩
      · clear HQ
        rcases hops with rfl | rfl | rfl | rfl | rfl | ⟨e5, e6, e14, e15, e16⟩
        · by_cases h0 : n < 0
          · have HR := hide (show r = 13 from by rw [HE2.out]; simp [hasB_lo h0])
            clear HE2 hr3
            go_enter Tryd.func37, Tryd.ntmps37
            go_upto_region 1 with fail
            generalize (((w.alloc (.cells #[.slice fa nf fc, .int .i64 mn, .slice aa na ac, .int .i64 fu, .int .i64 ta] 25)).alloc (.cells #[.string nm, .int .i64 ar, .int .i64 lo, .slice ca cn cc] 43)).alloc (.cells #[.int .i64 5, .int .i64 n] 39)) = w0 at HB k0 k2 k3 k4 k5 ⊢
            go_wp2_with (first
              | (go_at_call 51; go_must (refine (C51 _).mono ?_; rintro e w1 ⟨rfl, hw1⟩; subst hw1))
              | (go_at_call 52; go_must (refine (C52 _).mono ?_; rintro e w2 ⟨rfl, hb2⟩; have HB2 := hide (chain HB.out hb2); have m0 := keep_cell k0 hb2; have m2 := keep_cell k2 hb2; have m3 := keep_cell k3 hb2; have m4 := keep_cell k4 hb2; have m5 := keep_cell k5 hb2; clear hb2)))
            go_ret
            exact ⟨ret_int HR.out.symm, HB2.out⟩
          · by_cases h1 : lo ≤ n
            · have HR := hide (show r = 13 from by rw [HE2.out]; simp [hasB_hi h1])
              clear HE2 hr3
              go_enter Tryd.func37, Tryd.ntmps37
              go_upto_region 1 with fail
              generalize (((w.alloc (.cells #[.slice fa nf fc, .int .i64 mn, .slice aa na ac, .int .i64 fu, .int .i64 ta] 25)).alloc (.cells #[.string nm, .int .i64 ar, .int .i64 lo, .slice ca cn cc] 43)).alloc (.cells #[.int .i64 5, .int .i64 n] 39)) = w0 at HB k0 k2 k3 k4 k5 ⊢
              go_wp2_with (first
                | (go_at_call 51; go_must (refine (C51 _).mono ?_; rintro e w1 ⟨rfl, hw1⟩; subst hw1))
                | (go_at_call 52; go_must (refine (C52 _).mono ?_; rintro e w2 ⟨rfl, hb2⟩; have HB2 := hide (chain HB.out hb2); have m0 := keep_cell k0 hb2; have m2 := keep_cell k2 hb2; have m3 := keep_cell k3 hb2; have m4 := keep_cell k4 hb2; have m5 := keep_cell k5 hb2; clear hb2)))
              go_ret
              exact ⟨ret_int HR.out.symm, HB2.out⟩
            · have HR := hide (show r = 0 from by rw [HE2.out]; simp [hasB_in (show 0 ≤ n by omega) (show n < lo by omega)])
              clear HE2 hr3
              go_enter Tryd.func37, Tryd.ntmps37
              go_upto_region 1 with fail
              generalize (((w.alloc (.cells #[.slice fa nf fc, .int .i64 mn, .slice aa na ac, .int .i64 fu, .int .i64 ta] 25)).alloc (.cells #[.string nm, .int .i64 ar, .int .i64 lo, .slice ca cn cc] 43)).alloc (.cells #[.int .i64 5, .int .i64 n] 39)) = w0 at HB k0 k2 k3 k4 k5 ⊢
              go_wp2_with (first
                | (go_at_call 51; go_must (refine (C51 _).mono ?_; rintro e w1 ⟨rfl, hw1⟩; subst hw1))
                | (go_at_call 52; go_must (refine (C52 _).mono ?_; rintro e w2 ⟨rfl, hb2⟩; have HB2 := hide (chain HB.out hb2); have m0 := keep_cell k0 hb2; have m2 := keep_cell k2 hb2; have m3 := keep_cell k3 hb2; have m4 := keep_cell k4 hb2; have m5 := keep_cell k5 hb2; clear hb2)))
              go_ret
              exact ⟨ret_int HR.out.symm, HB2.out⟩
        · by_cases h0 : n < 0
          · have HR := hide (show r = 13 from by rw [HE2.out]; simp [hasB_lo h0])
            clear HE2 hr3
            go_enter Tryd.func37, Tryd.ntmps37
            go_upto_region 1 with fail
            generalize (((w.alloc (.cells #[.slice fa nf fc, .int .i64 mn, .slice aa na ac, .int .i64 fu, .int .i64 ta] 25)).alloc (.cells #[.string nm, .int .i64 ar, .int .i64 lo, .slice ca cn cc] 43)).alloc (.cells #[.int .i64 6, .int .i64 n] 39)) = w0 at HB k0 k2 k3 k4 k5 ⊢
            go_wp2_with (first
              | (go_at_call 51; go_must (refine (C51 _).mono ?_; rintro e w1 ⟨rfl, hw1⟩; subst hw1))
              | (go_at_call 52; go_must (refine (C52 _).mono ?_; rintro e w2 ⟨rfl, hb2⟩; have HB2 := hide (chain HB.out hb2); have m0 := keep_cell k0 hb2; have m2 := keep_cell k2 hb2; have m3 := keep_cell k3 hb2; have m4 := keep_cell k4 hb2; have m5 := keep_cell k5 hb2; clear hb2)))
            go_ret
            exact ⟨ret_int HR.out.symm, HB2.out⟩
          · by_cases h1 : lo ≤ n
            · have HR := hide (show r = 13 from by rw [HE2.out]; simp [hasB_hi h1])
              clear HE2 hr3
              go_enter Tryd.func37, Tryd.ntmps37
              go_upto_region 1 with fail
              generalize (((w.alloc (.cells #[.slice fa nf fc, .int .i64 mn, .slice aa na ac, .int .i64 fu, .int .i64 ta] 25)).alloc (.cells #[.string nm, .int .i64 ar, .int .i64 lo, .slice ca cn cc] 43)).alloc (.cells #[.int .i64 6, .int .i64 n] 39)) = w0 at HB k0 k2 k3 k4 k5 ⊢
              go_wp2_with (first
                | (go_at_call 51; go_must (refine (C51 _).mono ?_; rintro e w1 ⟨rfl, hw1⟩; subst hw1))
                | (go_at_call 52; go_must (refine (C52 _).mono ?_; rintro e w2 ⟨rfl, hb2⟩; have HB2 := hide (chain HB.out hb2); have m0 := keep_cell k0 hb2; have m2 := keep_cell k2 hb2; have m3 := keep_cell k3 hb2; have m4 := keep_cell k4 hb2; have m5 := keep_cell k5 hb2; clear hb2)))
              go_ret
              exact ⟨ret_int HR.out.symm, HB2.out⟩
            · have HR := hide (show r = 0 from by rw [HE2.out]; simp [hasB_in (show 0 ≤ n by omega) (show n < lo by omega)])
              clear HE2 hr3
              go_enter Tryd.func37, Tryd.ntmps37
              go_upto_region 1 with fail
              generalize (((w.alloc (.cells #[.slice fa nf fc, .int .i64 mn, .slice aa na ac, .int .i64 fu, .int .i64 ta] 25)).alloc (.cells #[.string nm, .int .i64 ar, .int .i64 lo, .slice ca cn cc] 43)).alloc (.cells #[.int .i64 6, .int .i64 n] 39)) = w0 at HB k0 k2 k3 k4 k5 ⊢
              go_wp2_with (first
                | (go_at_call 51; go_must (refine (C51 _).mono ?_; rintro e w1 ⟨rfl, hw1⟩; subst hw1))
                | (go_at_call 52; go_must (refine (C52 _).mono ?_; rintro e w2 ⟨rfl, hb2⟩; have HB2 := hide (chain HB.out hb2); have m0 := keep_cell k0 hb2; have m2 := keep_cell k2 hb2; have m3 := keep_cell k3 hb2; have m4 := keep_cell k4 hb2; have m5 := keep_cell k5 hb2; clear hb2)))
              go_ret
              exact ⟨ret_int HR.out.symm, HB2.out⟩
        · by_cases h0 : n < 0
          · have HR := hide (show r = 11 from by rw [HE2.out]; simp [hasB_lo h0])
            clear HE2 hr3
            go_enter Tryd.func37, Tryd.ntmps37
            go_upto_region 1 with fail
            generalize (((w.alloc (.cells #[.slice fa nf fc, .int .i64 mn, .slice aa na ac, .int .i64 fu, .int .i64 ta] 25)).alloc (.cells #[.string nm, .int .i64 ar, .int .i64 lo, .slice ca cn cc] 43)).alloc (.cells #[.int .i64 14, .int .i64 n] 39)) = w0 at HB k0 k2 k3 k4 k5 ⊢
            go_wp2_with (first
              | (go_at_call 51; go_must (refine (C51 _).mono ?_; rintro e w1 ⟨rfl, hw1⟩; subst hw1))
              | (go_at_call 52; go_must (refine (C52 _).mono ?_; rintro e w2 ⟨rfl, hb2⟩; have HB2 := hide (chain HB.out hb2); have m0 := keep_cell k0 hb2; have m2 := keep_cell k2 hb2; have m3 := keep_cell k3 hb2; have m4 := keep_cell k4 hb2; have m5 := keep_cell k5 hb2; clear hb2)))
            go_ret
            exact ⟨ret_int HR.out.symm, HB2.out⟩
          · by_cases h1 : (cn : Int) ≤ n
            · have HR := hide (show r = 11 from by rw [HE2.out]; simp [hasB_hi h1])
              clear HE2 hr3
              go_enter Tryd.func37, Tryd.ntmps37
              go_upto_region 1 with fail
              generalize (((w.alloc (.cells #[.slice fa nf fc, .int .i64 mn, .slice aa na ac, .int .i64 fu, .int .i64 ta] 25)).alloc (.cells #[.string nm, .int .i64 ar, .int .i64 lo, .slice ca cn cc] 43)).alloc (.cells #[.int .i64 14, .int .i64 n] 39)) = w0 at HB k0 k2 k3 k4 k5 ⊢
              go_wp2_with (first
                | (go_at_call 51; go_must (refine (C51 _).mono ?_; rintro e w1 ⟨rfl, hw1⟩; subst hw1))
                | (go_at_call 52; go_must (refine (C52 _).mono ?_; rintro e w2 ⟨rfl, hb2⟩; have HB2 := hide (chain HB.out hb2); have m0 := keep_cell k0 hb2; have m2 := keep_cell k2 hb2; have m3 := keep_cell k3 hb2; have m4 := keep_cell k4 hb2; have m5 := keep_cell k5 hb2; clear hb2)))
              go_ret
              exact ⟨ret_int HR.out.symm, HB2.out⟩
            · have HR := hide (show r = 0 from by rw [HE2.out]; simp [hasB_in (show 0 ≤ n by omega) (show n < (cn : Int) by omega)])
              clear HE2 hr3
              go_enter Tryd.func37, Tryd.ntmps37
              go_upto_region 1 with fail
              generalize (((w.alloc (.cells #[.slice fa nf fc, .int .i64 mn, .slice aa na ac, .int .i64 fu, .int .i64 ta] 25)).alloc (.cells #[.string nm, .int .i64 ar, .int .i64 lo, .slice ca cn cc] 43)).alloc (.cells #[.int .i64 14, .int .i64 n] 39)) = w0 at HB k0 k2 k3 k4 k5 ⊢
              go_wp2_with (first
                | (go_at_call 51; go_must (refine (C51 _).mono ?_; rintro e w1 ⟨rfl, hw1⟩; subst hw1))
                | (go_at_call 52; go_must (refine (C52 _).mono ?_; rintro e w2 ⟨rfl, hb2⟩; have HB2 := hide (chain HB.out hb2); have m0 := keep_cell k0 hb2; have m2 := keep_cell k2 hb2; have m3 := keep_cell k3 hb2; have m4 := keep_cell k4 hb2; have m5 := keep_cell k5 hb2; clear hb2)))
              go_ret
              exact ⟨ret_int HR.out.symm, HB2.out⟩
        · by_cases h0 : n < 0
          · have HR := hide (show r = 11 from by rw [HE2.out]; simp [hasB_lo h0])
            clear HE2 hr3
            go_enter Tryd.func37, Tryd.ntmps37
            go_upto_region 1 with fail
            generalize (((w.alloc (.cells #[.slice fa nf fc, .int .i64 mn, .slice aa na ac, .int .i64 fu, .int .i64 ta] 25)).alloc (.cells #[.string nm, .int .i64 ar, .int .i64 lo, .slice ca cn cc] 43)).alloc (.cells #[.int .i64 15, .int .i64 n] 39)) = w0 at HB k0 k2 k3 k4 k5 ⊢
            go_wp2_with (first
              | (go_at_call 51; go_must (refine (C51 _).mono ?_; rintro e w1 ⟨rfl, hw1⟩; subst hw1))
              | (go_at_call 52; go_must (refine (C52 _).mono ?_; rintro e w2 ⟨rfl, hb2⟩; have HB2 := hide (chain HB.out hb2); have m0 := keep_cell k0 hb2; have m2 := keep_cell k2 hb2; have m3 := keep_cell k3 hb2; have m4 := keep_cell k4 hb2; have m5 := keep_cell k5 hb2; clear hb2)))
            go_ret
            exact ⟨ret_int HR.out.symm, HB2.out⟩
          · by_cases h1 : (cn : Int) ≤ n
            · have HR := hide (show r = 11 from by rw [HE2.out]; simp [hasB_hi h1])
              clear HE2 hr3
              go_enter Tryd.func37, Tryd.ntmps37
              go_upto_region 1 with fail
              generalize (((w.alloc (.cells #[.slice fa nf fc, .int .i64 mn, .slice aa na ac, .int .i64 fu, .int .i64 ta] 25)).alloc (.cells #[.string nm, .int .i64 ar, .int .i64 lo, .slice ca cn cc] 43)).alloc (.cells #[.int .i64 15, .int .i64 n] 39)) = w0 at HB k0 k2 k3 k4 k5 ⊢
              go_wp2_with (first
                | (go_at_call 51; go_must (refine (C51 _).mono ?_; rintro e w1 ⟨rfl, hw1⟩; subst hw1))
                | (go_at_call 52; go_must (refine (C52 _).mono ?_; rintro e w2 ⟨rfl, hb2⟩; have HB2 := hide (chain HB.out hb2); have m0 := keep_cell k0 hb2; have m2 := keep_cell k2 hb2; have m3 := keep_cell k3 hb2; have m4 := keep_cell k4 hb2; have m5 := keep_cell k5 hb2; clear hb2)))
              go_ret
              exact ⟨ret_int HR.out.symm, HB2.out⟩
            · have HR := hide (show r = 0 from by rw [HE2.out]; simp [hasB_in (show 0 ≤ n by omega) (show n < (cn : Int) by omega)])
              clear HE2 hr3
              go_enter Tryd.func37, Tryd.ntmps37
              go_upto_region 1 with fail
              generalize (((w.alloc (.cells #[.slice fa nf fc, .int .i64 mn, .slice aa na ac, .int .i64 fu, .int .i64 ta] 25)).alloc (.cells #[.string nm, .int .i64 ar, .int .i64 lo, .slice ca cn cc] 43)).alloc (.cells #[.int .i64 15, .int .i64 n] 39)) = w0 at HB k0 k2 k3 k4 k5 ⊢
              go_wp2_with (first
                | (go_at_call 51; go_must (refine (C51 _).mono ?_; rintro e w1 ⟨rfl, hw1⟩; subst hw1))
                | (go_at_call 52; go_must (refine (C52 _).mono ?_; rintro e w2 ⟨rfl, hb2⟩; have HB2 := hide (chain HB.out hb2); have m0 := keep_cell k0 hb2; have m2 := keep_cell k2 hb2; have m3 := keep_cell k3 hb2; have m4 := keep_cell k4 hb2; have m5 := keep_cell k5 hb2; clear hb2)))
              go_ret
              exact ⟨ret_int HR.out.symm, HB2.out⟩
        · by_cases h0 : n < 0
          · have HR := hide (show r = 14 from by rw [HE2.out]; simp [hasB_lo h0])
            clear HE2 hr3
            go_enter Tryd.func37, Tryd.ntmps37
            go_upto_region 1 with fail
            generalize (((w.alloc (.cells #[.slice fa nf fc, .int .i64 mn, .slice aa na ac, .int .i64 fu, .int .i64 ta] 25)).alloc (.cells #[.string nm, .int .i64 ar, .int .i64 lo, .slice ca cn cc] 43)).alloc (.cells #[.int .i64 16, .int .i64 n] 39)) = w0 at HB k0 k2 k3 k4 k5 ⊢
            go_wp2_with (first
              | (go_at_call 51; go_must (refine (C51 _).mono ?_; rintro e w1 ⟨rfl, hw1⟩; subst hw1))
              | (go_at_call 52; go_must (refine (C52 _).mono ?_; rintro e w2 ⟨rfl, hb2⟩; have HB2 := hide (chain HB.out hb2); have m0 := keep_cell k0 hb2; have m2 := keep_cell k2 hb2; have m3 := keep_cell k3 hb2; have m4 := keep_cell k4 hb2; have m5 := keep_cell k5 hb2; clear hb2)))
            go_ret
            exact ⟨ret_int HR.out.symm, HB2.out⟩
          · by_cases h1 : (nf : Int) ≤ n
            · have HR := hide (show r = 14 from by rw [HE2.out]; simp [hasB_hi h1])
              clear HE2 hr3
              go_enter Tryd.func37, Tryd.ntmps37
              go_upto_region 1 with fail
              generalize (((w.alloc (.cells #[.slice fa nf fc, .int .i64 mn, .slice aa na ac, .int .i64 fu, .int .i64 ta] 25)).alloc (.cells #[.string nm, .int .i64 ar, .int .i64 lo, .slice ca cn cc] 43)).alloc (.cells #[.int .i64 16, .int .i64 n] 39)) = w0 at HB k0 k2 k3 k4 k5 ⊢
              go_wp2_with (first
                | (go_at_call 51; go_must (refine (C51 _).mono ?_; rintro e w1 ⟨rfl, hw1⟩; subst hw1))
                | (go_at_call 52; go_must (refine (C52 _).mono ?_; rintro e w2 ⟨rfl, hb2⟩; have HB2 := hide (chain HB.out hb2); have m0 := keep_cell k0 hb2; have m2 := keep_cell k2 hb2; have m3 := keep_cell k3 hb2; have m4 := keep_cell k4 hb2; have m5 := keep_cell k5 hb2; clear hb2)))
              go_ret
              exact ⟨ret_int HR.out.symm, HB2.out⟩
            · have HR := hide (show r = 0 from by rw [HE2.out]; simp [hasB_in (show 0 ≤ n by omega) (show n < (nf : Int) by omega)])
              clear HE2 hr3
              go_enter Tryd.func37, Tryd.ntmps37
              go_upto_region 1 with fail
              generalize (((w.alloc (.cells #[.slice fa nf fc, .int .i64 mn, .slice aa na ac, .int .i64 fu, .int .i64 ta] 25)).alloc (.cells #[.string nm, .int .i64 ar, .int .i64 lo, .slice ca cn cc] 43)).alloc (.cells #[.int .i64 16, .int .i64 n] 39)) = w0 at HB k0 k2 k3 k4 k5 ⊢
              go_wp2_with (first
                | (go_at_call 51; go_must (refine (C51 _).mono ?_; rintro e w1 ⟨rfl, hw1⟩; subst hw1))
                | (go_at_call 52; go_must (refine (C52 _).mono ?_; rintro e w2 ⟨rfl, hb2⟩; have HB2 := hide (chain HB.out hb2); have m0 := keep_cell k0 hb2; have m2 := keep_cell k2 hb2; have m3 := keep_cell k3 hb2; have m4 := keep_cell k4 hb2; have m5 := keep_cell k5 hb2; clear hb2)))
              go_ret
              exact ⟨ret_int HR.out.symm, HB2.out⟩
        · have HR := hide (show r = 0 from by
            simp only [beq_eq_false_iff_ne] at e5 e6 e14 e15 e16
            rw [HE2.out]; simp [e5, e6, e14, e15, e16])
          clear HE2 hr3
          go_enter Tryd.func37, Tryd.ntmps37
          go_upto_region 1 with fail
          generalize (((w.alloc (.cells #[.slice fa nf fc, .int .i64 mn, .slice aa na ac, .int .i64 fu, .int .i64 ta] 25)).alloc (.cells #[.string nm, .int .i64 ar, .int .i64 lo, .slice ca cn cc] 43)).alloc (.cells #[.int .i64 op, .int .i64 n] 39)) = w0 at HB k0 k2 k3 k4 k5 ⊢
          go_wp2_with (first
            | (go_at_call 51; go_must (refine (C51 _).mono ?_; rintro e w1 ⟨rfl, hw1⟩; subst hw1))
            | (go_at_call 52; go_must (refine (C52 _).mono ?_; rintro e w2 ⟨rfl, hb2⟩; have HB2 := hide (chain HB.out hb2); have m0 := keep_cell k0 hb2; have m2 := keep_cell k2 hb2; have m3 := keep_cell k3 hb2; have m4 := keep_cell k4 hb2; have m5 := keep_cell k5 hb2; clear hb2)))
          go_ret
          exact ⟨ret_int HR.out.symm, HB2.out⟩
      · clear HQ
        rcases hops with rfl | rfl | rfl | rfl | rfl | ⟨e5, e6, e14, e15, e16⟩
        · by_cases h1 : lo ≤ 0
          · have HR := hide (show r = 13 from by rw [HE2.out]; simp [hasB_hi h1])
            clear HE2 hr3
            go_enter Tryd.func37, Tryd.ntmps37
            go_upto_region 1 with fail
            generalize (((w.alloc (.cells #[.slice fa nf fc, .int .i64 mn, .slice aa na ac, .int .i64 fu, .int .i64 ta] 25)).alloc (.cells #[.string nm, .int .i64 ar, .int .i64 lo, .slice ca cn cc] 43)).alloc (.cells #[.int .i64 5, .int .i64 0] 39)) = w0 at HB k0 k2 k3 k4 k5 ⊢
            go_wp2_with (first
              | (go_at_call 51; go_must (refine (C51 _).mono ?_; rintro e w1 ⟨rfl, hw1⟩; subst hw1))
              | (go_at_call 52; go_must (refine (C52 _).mono ?_; rintro e w2 ⟨rfl, hb2⟩; have HB2 := hide (chain HB.out hb2); have m0 := keep_cell k0 hb2; have m2 := keep_cell k2 hb2; have m3 := keep_cell k3 hb2; have m4 := keep_cell k4 hb2; have m5 := keep_cell k5 hb2; clear hb2)))
            go_ret
            exact ⟨ret_int HR.out.symm, HB2.out⟩
          · have HR := hide (show r = 0 from by rw [HE2.out]; simp [hasB_in (show (0 : Int) ≤ 0 by omega) (show 0 < lo by omega)])
            clear HE2 hr3
            go_enter Tryd.func37, Tryd.ntmps37
            go_upto_region 1 with fail
            generalize (((w.alloc (.cells #[.slice fa nf fc, .int .i64 mn, .slice aa na ac, .int .i64 fu, .int .i64 ta] 25)).alloc (.cells #[.string nm, .int .i64 ar, .int .i64 lo, .slice ca cn cc] 43)).alloc (.cells #[.int .i64 5, .int .i64 0] 39)) = w0 at HB k0 k2 k3 k4 k5 ⊢
            go_wp2_with (first
              | (go_at_call 51; go_must (refine (C51 _).mono ?_; rintro e w1 ⟨rfl, hw1⟩; subst hw1))
              | (go_at_call 52; go_must (refine (C52 _).mono ?_; rintro e w2 ⟨rfl, hb2⟩; have HB2 := hide (chain HB.out hb2); have m0 := keep_cell k0 hb2; have m2 := keep_cell k2 hb2; have m3 := keep_cell k3 hb2; have m4 := keep_cell k4 hb2; have m5 := keep_cell k5 hb2; clear hb2)))
            go_ret
            exact ⟨ret_int HR.out.symm, HB2.out⟩
        · by_cases h1 : lo ≤ 0
          · have HR := hide (show r = 13 from by rw [HE2.out]; simp [hasB_hi h1])
            clear HE2 hr3
            go_enter Tryd.func37, Tryd.ntmps37
            go_upto_region 1 with fail
            generalize (((w.alloc (.cells #[.slice fa nf fc, .int .i64 mn, .slice aa na ac, .int .i64 fu, .int .i64 ta] 25)).alloc (.cells #[.string nm, .int .i64 ar, .int .i64 lo, .slice ca cn cc] 43)).alloc (.cells #[.int .i64 6, .int .i64 0] 39)) = w0 at HB k0 k2 k3 k4 k5 ⊢
            go_wp2_with (first
              | (go_at_call 51; go_must (refine (C51 _).mono ?_; rintro e w1 ⟨rfl, hw1⟩; subst hw1))
              | (go_at_call 52; go_must (refine (C52 _).mono ?_; rintro e w2 ⟨rfl, hb2⟩; have HB2 := hide (chain HB.out hb2); have m0 := keep_cell k0 hb2; have m2 := keep_cell k2 hb2; have m3 := keep_cell k3 hb2; have m4 := keep_cell k4 hb2; have m5 := keep_cell k5 hb2; clear hb2)))
            go_ret
            exact ⟨ret_int HR.out.symm, HB2.out⟩
          · have HR := hide (show r = 0 from by rw [HE2.out]; simp [hasB_in (show (0 : Int) ≤ 0 by omega) (show 0 < lo by omega)])
            clear HE2 hr3
            go_enter Tryd.func37, Tryd.ntmps37
            go_upto_region 1 with fail
            generalize (((w.alloc (.cells #[.slice fa nf fc, .int .i64 mn, .slice aa na ac, .int .i64 fu, .int .i64 ta] 25)).alloc (.cells #[.string nm, .int .i64 ar, .int .i64 lo, .slice ca cn cc] 43)).alloc (.cells #[.int .i64 6, .int .i64 0] 39)) = w0 at HB k0 k2 k3 k4 k5 ⊢
            go_wp2_with (first
              | (go_at_call 51; go_must (refine (C51 _).mono ?_; rintro e w1 ⟨rfl, hw1⟩; subst hw1))
              | (go_at_call 52; go_must (refine (C52 _).mono ?_; rintro e w2 ⟨rfl, hb2⟩; have HB2 := hide (chain HB.out hb2); have m0 := keep_cell k0 hb2; have m2 := keep_cell k2 hb2; have m3 := keep_cell k3 hb2; have m4 := keep_cell k4 hb2; have m5 := keep_cell k5 hb2; clear hb2)))
            go_ret
            exact ⟨ret_int HR.out.symm, HB2.out⟩
        · by_cases h1 : (cn : Int) ≤ 0
          · have HR := hide (show r = 11 from by rw [HE2.out]; simp [hasB_hi h1])
            clear HE2 hr3
            go_enter Tryd.func37, Tryd.ntmps37
            go_upto_region 1 with fail
            generalize (((w.alloc (.cells #[.slice fa nf fc, .int .i64 mn, .slice aa na ac, .int .i64 fu, .int .i64 ta] 25)).alloc (.cells #[.string nm, .int .i64 ar, .int .i64 lo, .slice ca cn cc] 43)).alloc (.cells #[.int .i64 14, .int .i64 0] 39)) = w0 at HB k0 k2 k3 k4 k5 ⊢
            go_wp2_with (first
              | (go_at_call 51; go_must (refine (C51 _).mono ?_; rintro e w1 ⟨rfl, hw1⟩; subst hw1))
              | (go_at_call 52; go_must (refine (C52 _).mono ?_; rintro e w2 ⟨rfl, hb2⟩; have HB2 := hide (chain HB.out hb2); have m0 := keep_cell k0 hb2; have m2 := keep_cell k2 hb2; have m3 := keep_cell k3 hb2; have m4 := keep_cell k4 hb2; have m5 := keep_cell k5 hb2; clear hb2)))
            go_ret
            exact ⟨ret_int HR.out.symm, HB2.out⟩
          · have HR := hide (show r = 0 from by rw [HE2.out]; simp [hasB_in (show (0 : Int) ≤ 0 by omega) (show 0 < (cn : Int) by omega)])
            clear HE2 hr3
            go_enter Tryd.func37, Tryd.ntmps37
            go_upto_region 1 with fail
            generalize (((w.alloc (.cells #[.slice fa nf fc, .int .i64 mn, .slice aa na ac, .int .i64 fu, .int .i64 ta] 25)).alloc (.cells #[.string nm, .int .i64 ar, .int .i64 lo, .slice ca cn cc] 43)).alloc (.cells #[.int .i64 14, .int .i64 0] 39)) = w0 at HB k0 k2 k3 k4 k5 ⊢
            go_wp2_with (first
              | (go_at_call 51; go_must (refine (C51 _).mono ?_; rintro e w1 ⟨rfl, hw1⟩; subst hw1))
              | (go_at_call 52; go_must (refine (C52 _).mono ?_; rintro e w2 ⟨rfl, hb2⟩; have HB2 := hide (chain HB.out hb2); have m0 := keep_cell k0 hb2; have m2 := keep_cell k2 hb2; have m3 := keep_cell k3 hb2; have m4 := keep_cell k4 hb2; have m5 := keep_cell k5 hb2; clear hb2)))
            go_ret
            exact ⟨ret_int HR.out.symm, HB2.out⟩
        · by_cases h1 : (cn : Int) ≤ 0
          · have HR := hide (show r = 11 from by rw [HE2.out]; simp [hasB_hi h1])
            clear HE2 hr3
            go_enter Tryd.func37, Tryd.ntmps37
            go_upto_region 1 with fail
            generalize (((w.alloc (.cells #[.slice fa nf fc, .int .i64 mn, .slice aa na ac, .int .i64 fu, .int .i64 ta] 25)).alloc (.cells #[.string nm, .int .i64 ar, .int .i64 lo, .slice ca cn cc] 43)).alloc (.cells #[.int .i64 15, .int .i64 0] 39)) = w0 at HB k0 k2 k3 k4 k5 ⊢
            go_wp2_with (first
              | (go_at_call 51; go_must (refine (C51 _).mono ?_; rintro e w1 ⟨rfl, hw1⟩; subst hw1))
              | (go_at_call 52; go_must (refine (C52 _).mono ?_; rintro e w2 ⟨rfl, hb2⟩; have HB2 := hide (chain HB.out hb2); have m0 := keep_cell k0 hb2; have m2 := keep_cell k2 hb2; have m3 := keep_cell k3 hb2; have m4 := keep_cell k4 hb2; have m5 := keep_cell k5 hb2; clear hb2)))
            go_ret
            exact ⟨ret_int HR.out.symm, HB2.out⟩
          · have HR := hide (show r = 0 from by rw [HE2.out]; simp [hasB_in (show (0 : Int) ≤ 0 by omega) (show 0 < (cn : Int) by omega)])
            clear HE2 hr3
            go_enter Tryd.func37, Tryd.ntmps37
            go_upto_region 1 with fail
            generalize (((w.alloc (.cells #[.slice fa nf fc, .int .i64 mn, .slice aa na ac, .int .i64 fu, .int .i64 ta] 25)).alloc (.cells #[.string nm, .int .i64 ar, .int .i64 lo, .slice ca cn cc] 43)).alloc (.cells #[.int .i64 15, .int .i64 0] 39)) = w0 at HB k0 k2 k3 k4 k5 ⊢
            go_wp2_with (first
              | (go_at_call 51; go_must (refine (C51 _).mono ?_; rintro e w1 ⟨rfl, hw1⟩; subst hw1))
              | (go_at_call 52; go_must (refine (C52 _).mono ?_; rintro e w2 ⟨rfl, hb2⟩; have HB2 := hide (chain HB.out hb2); have m0 := keep_cell k0 hb2; have m2 := keep_cell k2 hb2; have m3 := keep_cell k3 hb2; have m4 := keep_cell k4 hb2; have m5 := keep_cell k5 hb2; clear hb2)))
            go_ret
            exact ⟨ret_int HR.out.symm, HB2.out⟩
        · by_cases h1 : (nf : Int) ≤ 0
          · have HR := hide (show r = 14 from by rw [HE2.out]; simp [hasB_hi h1])
            clear HE2 hr3
            go_enter Tryd.func37, Tryd.ntmps37
            go_upto_region 1 with fail
            generalize (((w.alloc (.cells #[.slice fa nf fc, .int .i64 mn, .slice aa na ac, .int .i64 fu, .int .i64 ta] 25)).alloc (.cells #[.string nm, .int .i64 ar, .int .i64 lo, .slice ca cn cc] 43)).alloc (.cells #[.int .i64 16, .int .i64 0] 39)) = w0 at HB k0 k2 k3 k4 k5 ⊢
            go_wp2_with (first
              | (go_at_call 51; go_must (refine (C51 _).mono ?_; rintro e w1 ⟨rfl, hw1⟩; subst hw1))
              | (go_at_call 52; go_must (refine (C52 _).mono ?_; rintro e w2 ⟨rfl, hb2⟩; have HB2 := hide (chain HB.out hb2); have m0 := keep_cell k0 hb2; have m2 := keep_cell k2 hb2; have m3 := keep_cell k3 hb2; have m4 := keep_cell k4 hb2; have m5 := keep_cell k5 hb2; clear hb2)))
            go_ret
            exact ⟨ret_int HR.out.symm, HB2.out⟩
          · have HR := hide (show r = 0 from by rw [HE2.out]; simp [hasB_in (show (0 : Int) ≤ 0 by omega) (show 0 < (nf : Int) by omega)])
            clear HE2 hr3
            go_enter Tryd.func37, Tryd.ntmps37
            go_upto_region 1 with fail
            generalize (((w.alloc (.cells #[.slice fa nf fc, .int .i64 mn, .slice aa na ac, .int .i64 fu, .int .i64 ta] 25)).alloc (.cells #[.string nm, .int .i64 ar, .int .i64 lo, .slice ca cn cc] 43)).alloc (.cells #[.int .i64 16, .int .i64 0] 39)) = w0 at HB k0 k2 k3 k4 k5 ⊢
            go_wp2_with (first
              | (go_at_call 51; go_must (refine (C51 _).mono ?_; rintro e w1 ⟨rfl, hw1⟩; subst hw1))
              | (go_at_call 52; go_must (refine (C52 _).mono ?_; rintro e w2 ⟨rfl, hb2⟩; have HB2 := hide (chain HB.out hb2); have m0 := keep_cell k0 hb2; have m2 := keep_cell k2 hb2; have m3 := keep_cell k3 hb2; have m4 := keep_cell k4 hb2; have m5 := keep_cell k5 hb2; clear hb2)))
            go_ret
            exact ⟨ret_int HR.out.symm, HB2.out⟩
        · have HR := hide (show r = 0 from by
            simp only [beq_eq_false_iff_ne] at e5 e6 e14 e15 e16
            rw [HE2.out]; simp [e5, e6, e14, e15, e16])
          clear HE2 hr3
          go_enter Tryd.func37, Tryd.ntmps37
          go_upto_region 1 with fail
          generalize (((w.alloc (.cells #[.slice fa nf fc, .int .i64 mn, .slice aa na ac, .int .i64 fu, .int .i64 ta] 25)).alloc (.cells #[.string nm, .int .i64 ar, .int .i64 lo, .slice ca cn cc] 43)).alloc (.cells #[.int .i64 op, .int .i64 0] 39)) = w0 at HB k0 k2 k3 k4 k5 ⊢
          go_wp2_with (first
            | (go_at_call 51; go_must (refine (C51 _).mono ?_; rintro e w1 ⟨rfl, hw1⟩; subst hw1))
            | (go_at_call 52; go_must (refine (C52 _).mono ?_; rintro e w2 ⟨rfl, hb2⟩; have HB2 := hide (chain HB.out hb2); have m0 := keep_cell k0 hb2; have m2 := keep_cell k2 hb2; have m3 := keep_cell k3 hb2; have m4 := keep_cell k4 hb2; have m5 := keep_cell k5 hb2; clear hb2)))
          go_ret
          exact ⟨ret_int HR.out.symm, HB2.out⟩
end Go.Proofs.YtfdgkeljnmamiaaDoor
