/- PackLengths answers true for every number. No condition. -/
import Derived.Test.YtlpgbmakgkdhjaaPack
import Derived.WalkKit
import Derived.ProofKit
import Derived.OpenShut
import Derived.ShutString
namespace Go.Proofs.Ytlpgbmakgkdhjaa
namespace packLengths
open Go.ChangeShapes Go.WideShapes Go.ChangeAt Go.RowKit
open Go.ChangeMaps (open_string shut_string)


theorem own : ownKnob Try.prog.godebug = none := by kernel_rfl


set_option maxRecDepth 100000 in
set_option maxHeartbeats 400000 in
theorem walk (n : Int) (h1 : -9223372036854775808 ≤ n) (h2 : n ≤ 9223372036854775807) (w : World) :
    Calls Try.prog 7 #[.int .i64 n] w fun e w' => e = .returned (.bool true) ∧ Below w.heap.size w w' := by
  have HA := hide (show n < 0 → -(n + 1) = ((absN n : Nat) : Int) by intro h; unfold absN; rw [if_pos h]; omega)
  have HB := hide (show ¬ n < 0 → n = ((absN n : Nat) : Int) by intro h; unfold absN; rw [if_neg h]; omega)
  by_cases hn : n < 0
  all_goals
    go_enter Try.func7, Try.ntmps7
    go_wp2_with (first | (go_at_call 9; refine (alive_any _).mono ?_; rintro e w1 ⟨rfl, hb1⟩) | (go_at_call 10; go_must (refine (int_one _ _ n ⟨h1, h2⟩ (reads_new w1 (iV [n]) 3)).mono ?_; rintro e w2 ⟨g, cap, L, rfl, hL, hL1, hL10, hLc, hg, hr, hb2⟩; obtain ⟨x, hx, hcell⟩ := enc_last h1 h2 hL.out hr)))
    have hbw : Below w.heap.size w w2 := (hb1.alloc hb1.size _).trans (hb2.mono (by have := hb1.size; simp; omega))
    have HE := hide (show L = wantF 9 (absN n) by rw [hL.out]; exact enc_want n)
    clear hr hb1 hb2 hg
    go_loop [5, 6] (fun a b => ∃ f u c : Nat, a = .int .i64 (u : Nat) ∧ b = .int .i64 (c : Nat) ∧ Hid (wantF 9 (absN n) + 1 = c + wantF f u) ∧ f + c = 10 ∧ 1 ≤ c ∧ u ≤ 9223372036854775807) (fun _ b => 10 - (intOf b).toNat)
    case atStart =>
      refine ⟨9, absN n, 1, ?_, rfl, hide (by omega), by omega, by omega, by unfold absN; split <;> omega⟩
      first | exact congrArg _ (HA.out hn) | exact congrArg _ (HB.out (by omega))
    case round =>
      obtain ⟨f, u, c, rfl, rfl, hW, hfc, hc1, hu⟩ := hrel
      by_cases hgo : 64 ≤ u ∧ c < 10
      · obtain ⟨hu64, hc10⟩ := hgo
        obtain ⟨f', rfl⟩ : ∃ f', f = f' + 1 := ⟨f - 1, by omega⟩
        have hW' := hide (want_round n f' u c hW.out hu64)
        go_wp2
        go_round
        case rel => exact ⟨f', u / 128, c + 1, by go_num, by go_num, hW', by omega, by omega, by omega⟩
        case measure => simp [intOf]; omega
      · have hwe := want_end f u (by omega)
        have hLc : ((L : Int) == (c : Int)) = true := by
          rw [beq_iff_eq]; have h3 := HE.out; have h4 := hW.out; omega
        clear hwe
        by_cases hu64 : 64 ≤ u
        all_goals
          go_wp2
          go_ret
          exact ⟨ret_bool (decide_eq_true (by omega)), hbw⟩

set_option maxRecDepth 100000 in
theorem lifted (os : Os) (started : os.Started) (H : Type) (enc : TypeId × Value → H) :
    ReturnsInHanded {} Try.checked os 7 .any (Rows.packLengthsSpec.pre6 enc Try.prog Try.f7 Rows.packLengthsRow.domain false) (Rows.packLengthsSpec.post enc Try.prog Try.f7 false true false false) := by
  refine returnsInHanded_of_change (C := Try.checked) own started (by kernel_rfl) Try.func7
    (ChangeSpec.witness6 (enc := enc) (C := Try.checked) false ⟨#[], #[.int .i64 0], []⟩ 8 (by kernel_rfl) (by kernel_rfl) (by kernel_rfl) (by kernel_rfl)) ?_
  intro W base args ds gs before hval0 hW hcnd _
  have hval : ∀ (j : Nat) t v, Try.f7.params[j]? = some t → args[j]? = some v → Value.okWide Try.prog W .any base t v := hval0
  have hW' := hW
  obtain ⟨p, q, hA0, hV, rfl, hfz, hnd⟩ := hW
  have hA : DataW.TrodAll enc Try.prog W 0 (fun _ => true) true Try.f7.params.toList args.toList ds p := hA0
  rw [Try.params7] at hA hval
  obtain ⟨v0, vs0, d0, ds0, p0, q0, hargs, rfl, rfl, h0, r0⟩ := trodAll_cons hA
  obtain ⟨rfl, rfl, rfl⟩ := trodAll_nil r0
  obtain rfl : args = #[v0] := by cases args; simp_all
  obtain ⟨rfl, rfl⟩ := trodVars_none hV
  obtain ⟨a0, rfl, rfl, rfl, w0⟩ := open_int Try.underlying3 (hval 0 3 v0 rfl rfl) h0
  clear hA0 hval0
  simp only [List.append_nil] at hW'
  have bd := bounds_i64 w0
  refine (walk a0 bd.1 bd.2 W).mono fun e W' ⟨he, bel⟩ => ?_
  subst he
  exact ⟨_, rfl, _, _, _, [], _, [], hW', trodAll_mk1 (shut_bool Try.underlying4 _), (trodAll_cons_mk (shut_int Try.underlying3 w0) trodAll_mk0), rfl, bel.frame _, fun h => by cases h⟩

theorem over : Rows.packLengthsRow.holds Try.pinned (OpenSpec.ofChange Rows.packLengthsSpec) :=
  OpenClaim.holds_of_wide 7 Try.f7 rfl rfl rfl rfl rfl rfl rfl ⟨rfl, rfl, rfl, rfl, rfl⟩ rfl rfl rfl rfl rfl (by kernel_rfl) Try.func7 (by kernel_rfl)
    (of_decide_eq_true (by kernel_rfl)) (by unfold Func.isWrapper; first | (rw [if_pos (by decide +kernel)]; kernel_rfl) | (rw [if_neg (by decide +kernel)]; exact ⟨rfl, rfl⟩))
    (fun os started H enc _ => lifted os started H enc)

end packLengths

theorem packLengths_holds : Rows.PackLengthsSaid := packLengths.over
#print axioms packLengths_holds
end Go.Proofs.Ytlpgbmakgkdhjaa
