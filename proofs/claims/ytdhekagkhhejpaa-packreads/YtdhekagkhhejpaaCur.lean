/- What a cursor's calls come to. -/
import Derived.Test.YtdhekagkhhejpaaPack
import Derived.Test.YtdhekagkhhejpaaDec
namespace Go.Proofs.Ytdhekagkhhejpaa
open Go.RowKit

/-- What firstNumber answers: the number and its width, or 0 and 0. -/
def decPair (o : Option (Nat × Nat)) : Value := .tuple #[.int .u64 ((o.getD (0, 0)).1 : Nat), .int .i64 ((o.getD (0, 0)).2 : Nat)]

theorem ret_none : Ending.returned (.tuple #[.int .u64 0, .int .i64 0]) = .returned (decPair none) := rfl
theorem ret_some {a c : Int} {u k : Nat} (h1 : a = (u : Nat)) (h2 : c = (k : Nat)) : Ending.returned (.tuple #[.int .u64 a, .int .i64 c]) = .returned (decPair (some (u, k))) := by
  subst h1; subst h2; rfl

set_option maxRecDepth 100000 in
set_option maxHeartbeats 1000000 in
theorem first_some (b off : Nat) (cap : Nat) (bs : List Nat) (w : World) (hB : Byt bs) (hlen : bs.length ≤ 140737488355328) (hc : ∀ j u, (bV bs)[j]? = some u → w.cell? ⟨b, off + j, none⟩ = some u) :
    Calls Try.prog 25 #[.slice (some ⟨b, off, none⟩) bs.length cap] w fun e w' => e = .returned (decPair (dec bs)) ∧ w' = w := by
  go_enter Try.func25, Try.ntmps25
  go_wp2
  go_loop [2, 4] (fun a c => ∃ i u : Nat, a = .int .u64 (u : Nat) ∧ c = .int .i64 (i : Nat) ∧ i ≤ 10 ∧ i ≤ bs.length ∧ Hid (dec bs = decI (10 - i) i u (bs.drop i)) ∧ Hid (u < 2 ^ (7 * i))) (fun _ i => 10 - (intOf i).toNat)
  case atStart => exact ⟨0, 0, rfl, rfl, by omega, by omega, hide rfl, hide (by simp)⟩
  case round =>
    obtain ⟨i, u, rfl, rfl, hi, hil, hD, hu⟩ := hrel
    by_cases hgo : i < bs.length ∧ i < 10
    · obtain ⟨h1, h2⟩ := hgo
      have hcell : w.cell? ⟨b, off + i, none⟩ = some (.int .u8 (bs[i] : Nat)) := hc i _ (by simp [bV, h1])
      have hxb := hB bs[i] (List.getElem_mem _)
      have hst := hide (dec_step bs i u h2 h1)
      obtain ⟨x, hx⟩ : ∃ x, x = bs[i] := ⟨_, rfl⟩
      rw [← hx] at hcell hxb hst
      clear hx
      have HB := hide (fun h9 => step_bits i u x h2 hxb hu.out h9)
      have HL := hide (step_lt i u x hu.out)
      by_cases h91 : i = 9 ∧ 1 < x
      · have HN := hide (show dec bs = none from by rw [hD.out, hst.out, if_pos h91])
        obtain ⟨rfl, hx1⟩ := h91
        clear hst hD HB HL
        go_wp2
        go_ret2
        exact ⟨by rw [HN.out]; exact ret_none, rfl⟩
      · have HC := hide (show dec bs = _ from by rw [hD.out, hst.out, if_neg h91])
        have HB' := hide (HB.out (fun h => by omega))
        clear hst hD HB
        by_cases hx128 : 128 ≤ x
        · have h9 : ((i : Int) == 9) = false := by rw [beq_eq_false_iff_ne]; omega
          have HN := hide (HC.out.trans (if_pos hx128))
          clear HC
          go_wp2
          go_round
          case rel => exact ⟨i + 1, _, congrArg _ HB'.out, by go_num, by omega, by omega, HN, HL⟩
          case measure => simp [intOf]; omega
        · have HD := hide (HC.out.trans (if_neg hx128))
          clear HC
          by_cases h0 : 0 < i ∧ x = 0
          · have HN := hide (HD.out.trans (if_pos h0))
            obtain ⟨hi0, rfl⟩ := h0
            clear HD HB' HL
            by_cases h9 : i = 9
            · have h9b : ((i : Int) == 9) = true := by rw [beq_iff_eq]; omega
              clear h9
              go_wp2
              go_ret2
              exact ⟨by rw [HN.out]; exact ret_none, rfl⟩
            · have h9b : ((i : Int) == 9) = false := by rw [beq_eq_false_iff_ne]; omega
              clear h9
              go_wp2
              go_ret2
              exact ⟨by rw [HN.out]; exact ret_none, rfl⟩
          · have HN := hide (HD.out.trans (if_neg h0))
            clear HD
            have hx0 : 0 < i → ((x : Int) == 0) = false := fun h => by rw [beq_eq_false_iff_ne]; omega
            by_cases h9 : i = 9
            · have h9b : ((i : Int) == 9) = true := by rw [beq_iff_eq]; omega
              have hx0' := hx0 (by omega)
              have hx1 : x ≤ 1 := by omega
              have hi0 : 0 < i := by omega
              clear h9 hx0
              go_wp2
              go_ret2
              exact ⟨by rw [HN.out]; exact ret_some HB'.out (by omega), rfl⟩
            · have h9b : ((i : Int) == 9) = false := by rw [beq_eq_false_iff_ne]; omega
              clear h9
              by_cases hi0 : 0 < i
              · have hx0' := hx0 hi0
                clear hx0
                go_wp2
                go_ret2
                exact ⟨by rw [HN.out]; exact ret_some HB'.out (by omega), rfl⟩
              · clear hx0
                go_wp2
                go_ret2
                exact ⟨by rw [HN.out]; exact ret_some HB'.out (by omega), rfl⟩
    · have hn := hide (show dec bs = none by rw [hD.out, dec_stop bs i u (by omega)])
      clear hD
      by_cases hl : i < bs.length
      all_goals
        go_wp2
        go_ret2
        exact ⟨by rw [hn.out]; exact ret_none, rfl⟩
end Go.Proofs.Ytdhekagkhhejpaa
