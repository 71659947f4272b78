/- A table's methods: Park. -/
import Derived.Test.YtandbkbodlbjcaaWaw
namespace Go.Proofs.Ytandbkbodlbjcaa
open Go.RowKit Go.ChangeShapes Go.WideShapes Go.ChangeAt Go.Deep Go.Maps Go.Sort

/-- Park, plain. -/
def parkT (T : Tb) (x on : ByteArray) : Bool × Tb :=
  if validL on.data.toList = false then (false, T) else if inB T.goi x = true then (true, { T with goi := del T.goi x, prk := T.prk ++ [(x, on)], wt := T.wt + 1 }) else (false, { T with goi := del T.goi x })
set_option maxRecDepth 100000 in
set_option maxHeartbeats 2000000 in
theorem park_any {κ : Cl} {w : World} {cb : Nat} {T : Tb} (h : TabM κ w cb T) (x on : ByteArray) (hx : x.size ≤ 1000000) (hon : on.size ≤ 1000000) (hl : T.prk.length ≤ 1000) (hw : T.wt ≤ 1000) :
    Calls Try.prog 17 #[.pointer (some ⟨cb, 0, none⟩), .string x, .string on] w fun e w' => e = .returned (.bool (parkT T x on).1) ∧ ∃ κ', TabM κ' w' cb (parkT T x on).2 ∧ Stp κ κ' w w' := by
  have C33 := hide (fun w => valid_any on (by unfold maxLen; omega) w)
  by_cases hv : validL on.data.toList = true
  · have hon12 := valid_size hv
    rw [hv] at C33
    have C43 := hide (tab_stop h x hx)
    by_cases hq : inB T.goi x = true
    · have hx12 : x.size ≤ 12 := by
        obtain ⟨h1, h2, vr, vg, vp, va, h3, h4, h5, h6, h7⟩ := h
        exact h5.1.2.1 x (inB_iff.1 hq)
      have HP := hide (show parkT T x on = (true, { T with goi := del T.goi x, prk := T.prk ++ [(x, on)], wt := T.wt + 1 }) by unfold parkT; rw [if_neg (by rw [hv]; simp), if_pos hq])
      rw [hq] at C43
      have CA := hide (fun w => tapart_any x (by omega) w)
      have CB := hide (fun w => tapart_any on (by omega) w)
      have HX := hide hx12
      have HON := hide hon12
      have HL := hide hl
      have HWT := hide hw
      rw [HP.out]
      dsimp only
      clear h hq HP hl hx12 hv hon12
      go_enter Try.func17, Try.ntmps17
      go_upto_region 3 with (first
        | (go_at_call 33; go_must ((with_reducible refine (C33.out _).mono ?_); rintro e w0 ⟨rfl, rfl⟩))
        | (go_at_call 43; go_must ((with_reducible refine C43.out.mono ?_); rintro e w1 ⟨rfl, hT1, hS1⟩; have HT1 := hide hT1; have HS1 := hide hS1; clear hT1 hS1)))
      go_region_held3 (fun _ => True) (exact True.intro) (first
        | (go_at_call 36; (with_reducible refine (CA.out _).mono ?_); rintro e w5 ⟨rfl, hb5⟩; have HT5 := hide (HT1.out.drew.below hb5); have HB5 := hide (below_undrew hb5); clear hb5)
        | (go_at_call 36; (with_reducible refine (CB.out _).mono ?_); rintro e w6 ⟨rfl, hb6⟩; have HT6 := hide (HT5.out.below hb6); have HB6 := hide hb6; clear hb6)
        | (go_at_call 45; (with_reducible refine (wait_any HT6.out x on HX.out HON.out HL.out HWT.out).mono ?_); rintro e w7 ⟨rfl, κ7, hT7, hS7⟩; have HT7 := hide hT7; have HS7 := hide hS7; clear hT7 hS7))
      go_wp2
      go_ret
      exact ⟨rfl, κ7, HT7.out, HS1.out.trans ((Stp.ofB HB5.out).trans ((Stp.ofB HB6.out).trans HS7.out))⟩
    · have hq' : inB T.goi x = false := by simpa using hq
      have HP := hide (show parkT T x on = (false, { T with goi := del T.goi x }) by unfold parkT; rw [if_neg (by rw [hv]; simp), if_neg hq])
      rw [hq'] at C43
      rw [HP.out]
      dsimp only
      clear h hq hq' HP hl hv hon12
      go_enter Try.func17, Try.ntmps17
      go_wp2_with (first
        | (go_at_call 33; go_must ((with_reducible refine (C33.out _).mono ?_); rintro e w0 ⟨rfl, rfl⟩))
        | (go_at_call 43; go_must ((with_reducible refine C43.out.mono ?_); rintro e w1 ⟨rfl, hT1, hS1⟩; have HT1 := hide hT1; have HS1 := hide hS1; clear hT1 hS1)))
      go_ret
      exact ⟨rfl, κ, HT1.out, HS1.out⟩
  · have hv' : validL on.data.toList = false := by simpa using hv
    have HP := hide (show parkT T x on = (false, T) by unfold parkT; rw [if_pos hv'])
    rw [hv'] at C33
    rw [HP.out]
    have HT := hide h
    clear h HP hl hv hv'
    go_enter Try.func17, Try.ntmps17
    go_wp2_with (go_at_call 33; go_must ((with_reducible refine (C33.out _).mono ?_); rintro e w0 ⟨rfl, rfl⟩))
    go_ret
    exact ⟨rfl, κ, HT.out, Stp.refl _ _⟩
end Go.Proofs.Ytandbkbodlbjcaa
