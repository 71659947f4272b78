/- ViewNewest's walk. -/
import Derived.Test.YthjkfpcbbjmclaaNws
import Derived.Test.YthjkfpcbbjmclaaAlv
import Derived.Test.YthjkfpcbbjmclaaSam
import Derived.Test.YthjkfpcbbjmclaaSml
namespace Go.Proofs.Ythjkfpcbbjmclaa
open Go.RowKit Go.ChangeShapes Go.WideShapes Go.ChangeAt Go.Deep
namespace viewNewest

theorem top_row {w : World} {vs : List Vm} (h : ∀ x ∈ vs, VmR w x) : VmR w (topV vs) := by
  cases vs with
  | nil => exact ⟨rfl, ⟨Nat.le_refl _, Nat.zero_le _⟩, fun _ => ⟨rfl, rfl⟩, .inl rfl⟩
  | cons x r => exact h _ (topV_mem (by simp))

set_option linter.unusedSimpArgs false in
set_option maxRecDepth 100000 in
set_option maxHeartbeats 4000000 in
theorem walk (a : Option Addr) (l c : Nat) (vs : List Vm) (w : World) (hl : vs.length = l) (hlc : l ≤ c) (hv : ∀ x ∈ vs, VmR w x) (hr : Reads w a (vV vs)) :
    Calls Try.prog 4 #[.slice a l c] w fun e w' => e = .returned (.bool true) ∧ Below w.heap.size w w' := by
  have C8 := hide (alive_any w)
  by_cases h50 : 50 < l
  · have h50' : (50 : Int) < (l : Int) := by omega
    go_enter Try.func4, Try.ntmps4
    go_wp2_with (go_at_call 8; go_must ((with_reducible refine C8.out.mono ?_); rintro e w1 ⟨rfl, hb1⟩; have HB1 := hide hb1; clear hb1))
    go_ret
    exact ⟨rfl, HB1.out⟩
  · have h50' : ¬ (50 : Int) < (l : Int) := by omega
    have HL := hide hl
    have HV := hide hv
    have HR := hide hr
    have C9 := hide (fun ep a n c X => big_any ep a n c X)
    have C23 := hide (fun X (hX : Below w.heap.size w X) (hs : ∀ x ∈ vs, x.n ≤ 200) => newest_any vs a l c X hl (by omega) hlc (hr.below hX) (fun x hx => ⟨(hv x hx).below hX, by have := hs x hx; omega⟩))
    have C24 := hide (fun X (hX : Below w.heap.size w X) => rnewest_any vs a l c X hl (by omega) (hr.below hX))
    have HT := hide (top_row hv)
    have HTM := hide (show (∀ x ∈ vs, x.n ≤ 200) → (topV vs).n ≤ 200 from fun h => by
      cases vs with
      | nil => exact Nat.zero_le _
      | cons x r => exact h _ (topV_mem (by simp)))
    generalize topV vs = R at C23 C24 HT HTM
    clear hl hv hr
    go_enter Try.func4, Try.ntmps4
    go_wp2_with (go_at_call 8; go_must ((with_reducible refine C8.out.mono ?_); rintro e w1 ⟨rfl, hb1⟩; have HB1 := hide hb1; clear hb1))
    go_loopw [4] (fun i wr => Hid (Below w.heap.size w wr) ∧ ∃ k : Nat, k ≤ l ∧ i = .int .i64 (k : Nat) ∧ Hid (∀ j (h : j < vs.length), j < k → vs[j].n ≤ 200)) (fun i _ => l - (intOf i).toNat)
    case atStart => exact ⟨HB1, 0, Nat.zero_le _, rfl, hide fun j _ h => by omega⟩
    case round =>
      obtain ⟨hbw, k, hk, rfl, hA⟩ := hrel
      by_cases hlt : k < l
      · have hlt' : (k : Int) < (l : Int) := by omega
        have hkl : k < vs.length := by have := HL.out; omega
        obtain ⟨g, off, har, y0, y1⟩ := vw_at (HR.out.below hbw.out) hkl
        subst har
        have HN := hide (fun (h : vs[k].n ≤ 200) j (h1 : j < vs.length) (h2 : j < k + 1) => show vs[j].n ≤ 200 by
          rcases Nat.lt_or_eq_of_le (Nat.le_of_lt_succ h2) with h3 | rfl
          · exact hA.out j h1 h3
          · exact h)
        generalize vs[k] = x at y0 y1 HN
        obtain ⟨xe, xa, xn, xc, xl⟩ := x
        simp only [Vm.sl] at y0 y1 HN
        clear hA
        by_cases hx : 200 < xn
        · have hd : decide (200 < xn) = true := by simpa using hx
          go_wp2_with (go_at_call 9; go_must ((with_reducible refine (C9.out _ _ _ _ _).mono ?_); rintro e w2 ⟨rfl, hb2⟩; have HB2 := hide (hbw.out.trans (hb2.mono hbw.out.size)); clear hb2))
          go_ret
          exact ⟨rfl, HB2.out⟩
        · have hd : decide (200 < xn) = false := by simpa using hx
          have HN2 := hide (HN.out (by omega))
          go_wp2_with (go_at_call 9; go_must ((with_reducible refine (C9.out _ _ _ _ _).mono ?_); rintro e w2 ⟨rfl, hb2⟩; have HB2 := hide (hbw.out.trans (hb2.mono hbw.out.size)); clear hb2))
          go_roundw
          case rel => exact ⟨HB2, k + 1, by omega, by go_num, HN2⟩
          case measure => simp [intOf]; omega
      · have hlt' : ¬ (k : Int) < (l : Int) := by omega
        have HALL := hide (show ∀ x ∈ vs, x.n ≤ 200 from fun x hx => by
          obtain ⟨i, hi, rfl⟩ := List.getElem_of_mem hx
          exact hA.out i hi (by have := HL.out; omega))
        have hR := HTM.out HALL.out
        have C23' := hide (C23.out wr hbw.out HALL.out)
        obtain ⟨re, ra, rn, rc, rl⟩ := R
        simp only [Vm.sl] at C24 hR
        have HLN := hide (show rl.length = rn from HT.out.len)
        have C18 := hide (fun a c W (ha : Reads W a (mV rl)) (hb : Reads W ra (mV rl)) => show Calls Try.prog 18 #[.agg #[.int .i64 re, .slice a rn c], .agg #[.int .i64 re, .slice ra rn rc]] W fun e w' => e = .returned (.bool true) ∧ Below W.heap.size W w' from by
          have := sameView_any re re rl rl a ra rn c rn rc W HLN.out HLN.out (by omega) ha hb
          simpa using this)
        have HRD := hide (show Reads w ra (mV rl) from HT.out.rd)
        clear hA C23 HT HTM HALL
        go_wp2_with first
          | (go_at_call 18; go_must ((with_reducible refine (C18.out _ _ _ HO2.out (HRD.out.below HB3.out)).mono ?_); rintro e w4 ⟨rfl, hb4⟩; have HB4 := hide (HB3.out.trans (hb4.mono HB3.out.size)); clear hb4))
          | (go_at_call 24; go_must ((with_reducible refine (C24.out _ HB2.out).mono ?_); rintro e w3 ⟨rfl, hb3⟩; have HB3 := hide (HB2.out.trans (hb3.mono HB2.out.size)); have HO2 := hide (HO1.out.below hb3); clear hb3))
          | (go_at_call 23; go_must ((with_reducible refine C23'.out.mono ?_); rintro e w2 ⟨v, rfl, ho, hb2⟩; obtain ⟨a1, c1, rfl, -, -, -, hr1, -⟩ := (show Own _ _ v rn rl by have h1 : Own _ _ v rl.length rl := ho; rw [HLN.out] at h1; exact h1).form; have HO1 := hide hr1; have HB2 := hide (hbw.out.trans (hb2.mono hbw.out.size)); clear hb2 ho hr1))
        go_ret
        exact ⟨rfl, HB4.out⟩
end viewNewest
end Go.Proofs.Ythjkfpcbbjmclaa
