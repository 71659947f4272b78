/- closeUpTo. -/
import Derived.Test.YtofigofaiadffaaFor
namespace Go.Proofs.Ytofigofaiadffaa
open Go.RowKit Go.ChangeShapes Go.WideShapes Go.ChangeAt Go.Deep

theorem closeL_eq (s : Lk) (n : Int) : closeL s n = clI s (n.toNat - s.acked) := by
  unfold closeL clI
  simp only [Lk.mk.injEq, true_and, and_true]
  omega
theorem LinkP.size_le {D : Nat → Prop} {w w' : World} {g : Nat} {s : Lk} (h : LinkP D w g s) (e : w' = w) : LinkP D w' g s := e ▸ h
set_option linter.unusedSimpArgs false in
set_option maxRecDepth 100000 in
set_option maxHeartbeats 4000000 in
theorem close_any (D : Nat → Prop) (g : Nat) (s : Lk) (n : Int) (w : World) (h : LinkP D w g s) (hu : s.used ≤ 1000000) (hn : n ≤ (s.used : Int)) :
    Calls Try.prog 34 #[.pointer (some ⟨g, 0, none⟩), .int .i64 n] w fun e w' => e = .returned (.tuple #[]) ∧ LinkP D w' g (closeL s n) ∧ Kp (fun k => k = g) w w' := by
  obtain ⟨d, hd⟩ : ∃ d, d = n.toNat - s.acked := ⟨_, rfl⟩
  have HCL := hide (closeL_eq s n)
  rw [← hd] at HCL
  unfold Lk.used at hn hu
  have hdl : d ≤ s.op.length := by omega
  obtain ⟨A, hA⟩ : ∃ A, A = s.acked := ⟨_, rfl⟩
  have HA := hide hA
  have hub : A ≤ 1000000 := by omega
  have HT := hide (fun i (hi : i ≤ d) => show (i < d ↔ ((A + i : Nat) : Int) < n) from by omega)
  have H0 := hide (show LinkP D w g (clI s 0) from by unfold clI; simpa using h)
  have hdb : d ≤ 1000000 := by omega
  have HDL := hide hdl
  clear hd hn hu h hA hdl
  rw [HCL.out]
  have hA0 : w.cell? ⟨g, 2, none⟩ = some (.int .i64 ((A + 0 : Nat) : Int)) := by
    obtain ⟨m, hc, _, hr⟩ := H0.out
    rw [hc.acked, hr.acked, HA.out]; rfl
  have HA0 := hide hA0
  clear hA0
  go_enter Try.func34, Try.ntmps34
  go_wp2_with fail
  go_loopw [] (fun wr => ∃ k : Nat, k ≤ d ∧ Hid (wr.cell? ⟨g, 2, none⟩ = some (.int .i64 ((A + k : Nat) : Int))) ∧ Hid (LinkP D wr g (clI s k)) ∧ Hid (Kp (fun k => k = g) w wr)) (fun wr => (A + d) - (intOf ((wr.cell? ⟨g, 2, none⟩).getD undef)).toNat)
  case atStart => exact ⟨0, Nat.zero_le _, HA0, H0, hide (Kp.refl _ _)⟩
  case round =>
    obtain ⟨k, hk, HC, HL, HK⟩ := hrel
    have HTk := hide (HT.out k hk)
    by_cases hlt : k < d
    · have hx := HTk.out.1 hlt
      obtain ⟨va, v0, v1, v2, z, zf, W, hW, x2, x30, x31, x32, hf, rfl, hLP, hKP⟩ := close_put HL.out (by have := HDL.out; omega)
      rw [← HA.out] at z hW x2 x30 x31 x32 hLP hKP
      obtain ⟨i, hi⟩ : ∃ i, i = A + k := ⟨_, rfl⟩
      rw [← hi] at z hW x2 x30 x31 x32 hLP hKP hx
      have hq : ((i + 1 : Nat) : Int) = (i : Int) + 1 := by omega
      have hib : i ≤ 2000000 := by omega
      have C27 := hide (show Calls Try.prog 27 #[.pointer (some ⟨g, 0, none⟩), .int .i64 ((i : Int) + 1)] W fun e w' => e = .returned (.pointer (some ⟨g, 3 + ((i + 1) % 8) * 3, none⟩)) ∧ w' = W from hq ▸ place_any g (i + 1) W)
      rw [hq] at hW x2
      have h8 : (i + 1) % 8 < 8 := Nat.mod_lt _ (by omega)
      have HNX := hide (show (put3 W g (3 + ((i + 1) % 8) * 3) (.slice none 0 0) (.int .i64 0) (.int .i64 0)).cell? ⟨g, 2, none⟩ = some (.int .i64 ((A + (k + 1) : Nat) : Int)) from by
        obtain ⟨m, hc, _, hr⟩ := hLP
        rw [hc.acked, hr.acked]
        unfold clI
        rw [HA.out])
      have HLP := hide hLP
      have HKP := hide (HK.out.trans hKP)
      generalize (i + 1) % 8 = kk at C27 x30 x31 x32 HLP HKP h8 HNX
      have f0 := hf (3 + kk * 3) (by omega)
      have f1 := hf (3 + kk * 3 + 1) (by omega)
      have f2 := hf (3 + kk * 3 + 2) (by omega)
      have HII := hide hi
      have HW := hide hW
      clear hf hLP hKP hW hi hq HC HTk
      go_wp2_with (go_at_call 27; go_must (rw [← HW.out]; (with_reducible refine C27.out.mono ?_); rintro e w9 ⟨rfl, hw⟩; have hw' : W = w9 := hw.symm; subst hw'))
      unfold put3 at HLP HKP HNX
      go_roundw
      case rel => exact ⟨k + 1, by omega, HNX, HLP, HKP⟩
      case measure => rw [HNX.out, z]; simp only [Option.getD_some, intOf]; have := HII.out; omega
    · obtain rfl : k = d := by omega
      have hx : ¬ ((A + k : Nat) : Int) < n := fun h => hlt (HTk.out.2 h)
      have z := HC.out
      generalize A + k = i at z hx
      go_wp2
      go_end0
      exact ⟨rfl, HL.out, HK.out⟩
end Go.Proofs.Ytofigofaiadffaa
