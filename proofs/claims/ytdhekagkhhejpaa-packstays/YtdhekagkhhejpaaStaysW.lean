/- The walk of PackStays. -/
import Derived.Test.YtdhekagkhhejpaaOpen
namespace Go.Proofs.Ytdhekagkhhejpaa
namespace packStays
open Go.RowKit

theorem rdInt_empty (bs : List Nat) (bad : Bool) (h : (rdInt bs bad).2.2 = true) (h0 : bad = true → bs = []) : (rdInt bs bad).2.1 = [] := by
  unfold rdInt at *
  cases hd : dec bs with
  | none => rfl
  | some uk => obtain ⟨u, k⟩ := uk; simp [hd] at h; simp [h0 h]

theorem rdBytes_empty (bs : List Nat) (bad : Bool) (h : (rdBytes bs bad).2.2 = true) (h0 : bad = true → bs = []) : (rdBytes bs bad).2.1 = [] := by
  unfold rdBytes at *
  split at h
  · rename_i hc; rw [if_pos hc]
  · rename_i hc; rw [if_neg hc]
    simp only at h ⊢
    rw [rdInt_empty bs bad h h0]; simp

theorem rdInt_stays : rdInt [] true = (0, [], true) := by decide
theorem rdBytes_stays : rdBytes [] true = ([], [], true) := by decide

theorem Cur.left {w : World} {B T c : Nat} {bs : List Nat} {bad : Bool} (h : Cur w B T c bs bad) : ∃ a cap, w.cell? ⟨c, 0, none⟩ = some (.slice a bs.length cap) := by
  obtain ⟨a, cap, h0, _⟩ := h
  exact ⟨a, cap, h0⟩

set_option maxRecDepth 100000 in
set_option maxHeartbeats 400000 in
theorem walk_big (a0 : Option Addr) (l0 c0 : Nat) (a1 : Option Addr) (l1 c1 : Nat) (w : World) (hbig : 1000 < l0 ∨ 200 < l1) :
    Calls Try.prog 6 #[.slice a0 l0 c0, .slice a1 l1 c1] w fun e w' => e = .returned (.bool true) ∧ Below w.heap.size w w' := by
  by_cases h : 1000 < l0
  all_goals
    go_enter Try.func6, Try.ntmps6
    go_wp2_with (go_at_call 7; refine (alive_any _).mono ?_; rintro e w1 ⟨rfl, hb1⟩)
    go_ret
    exact ⟨rfl, hb1⟩

set_option maxRecDepth 100000 in
set_option maxHeartbeats 400000 in
theorem walk_nil (a0 : Option Addr) (l0 c0 : Nat) (bs : List Nat) (a1 : Option Addr) (c1 : Nat) (w : World) (hl0 : bs.length = l0) (hB : Byt bs) (hr0 : Reads w a0 (bV bs)) (hs0 : l0 ≤ 1000) :
    Calls Try.prog 6 #[.slice a0 l0 c0, .slice a1 0 c1] w fun e w' => e = .returned (.bool true) ∧ Below w.heap.size w w' := by
  go_enter Try.func6, Try.ntmps6
  go_wp2_with (first | (go_at_call 7; refine (alive_any _).mono ?_; rintro e w1 ⟨rfl, hb1⟩) | (go_at_call 10; go_must (refine (new_any a0 l0 c0 bs _ hl0 hB (hr0.below hb1) (by omega)).mono ?_; rintro e w2 ⟨c, rfl, hC2, hb2⟩)))
  have hb : Below w.heap.size w w2 := hb1.trans (hb2.mono hb1.size)
  have hcb := hC2.bad
  go_loopw [7, 8] (fun v i wr => i = .int .i64 (0 : Nat) ∧ v = .bool false ∧ wr = w2) (fun _ _ _ => 0)
  case atStart => exact ⟨rfl, rfl, rfl⟩
  case round =>
    obtain ⟨rfl, rfl, rfl⟩ := hrel
    go_wp2_with (go_at_call 16; go_must (refine (bad_any c false _ hcb).mono ?_; rintro e w5 ⟨rfl, rfl⟩))
    go_ret
    exact ⟨rfl, hb⟩

set_option maxRecDepth 100000 in
set_option maxHeartbeats 800000 in
theorem walk_some (a0 : Option Addr) (l0 c0 : Nat) (bs : List Nat) (b off l1 c1 : Nat) (cs : List Bool) (w : World) (hl0 : bs.length = l0) (hB : Byt bs) (hr0 : Reads w a0 (bV bs)) (hl1 : cs.length = l1)
    (hc : ∀ j u, (tV cs)[j]? = some u → w.cell? ⟨b, off + j, none⟩ = some u) (hs0 : l0 ≤ 1000) (hs1 : l1 ≤ 200) :
    Calls Try.prog 6 #[.slice a0 l0 c0, .slice (some ⟨b, off, none⟩) l1 c1] w fun e w' => e = .returned (.bool true) ∧ Below w.heap.size w w' := by
  go_enter Try.func6, Try.ntmps6
  go_wp2_with (first | (go_at_call 7; refine (alive_any _).mono ?_; rintro e w1 ⟨rfl, hb1⟩) | (go_at_call 10; go_must (refine (new_any a0 l0 c0 bs _ hl0 hB (hr0.below hb1) (by omega)).mono ?_; rintro e w2 ⟨c, rfl, hC2, hb2⟩)))
  have hb : Below w.heap.size w w2 := hb1.trans (hb2.mono hb1.size)
  go_loopw [7, 8] (fun v i wr => ∃ (k : Nat) (r : List Nat) (bd : Bool), i = .int .i64 (k : Nat) ∧ v = .bool bd ∧ k ≤ l1 ∧ Cur wr w1.heap.size w2.heap.size c r bd ∧ Hid (bd = true → r = []) ∧ Below w.heap.size w wr) (fun _ i _ => l1 - (intOf i).toNat)
  case atStart => exact ⟨0, bs, false, rfl, rfl, by omega, hC2, hide (by simp), hb⟩
  case round =>
    obtain ⟨k, r, bd, rfl, rfl, hk, hC, hem, hbel⟩ := hrel
    have hcb := hC.bad
    by_cases hlt : k < l1
    · have hcell : wr.cell? ⟨b, off + k, none⟩ = some (.bool (cs[k]'(by omega))) := by
        have h0 := hc k (.bool (cs[k]'(by omega))) (by simp [tV, hl1, hlt])
        rw [hbel.cell (cell_some_lt h0)]; exact h0
      obtain ⟨x, hx⟩ : ∃ x, x = cs[k]'(by omega) := ⟨_, rfl⟩
      rw [← hx] at hcell
      clear hx hc
      have hlo := hC.lo
      have hwb := hb1.size
      cases bd
      · have hE := hide (rdBytes_empty r false)
        have hE' := hide (rdInt_empty r false)
        cases x
        · go_wp2_with fail
          refine (bad_any c false _ hcb).mono ?_
          rintro e w5 ⟨rfl, rfl⟩
          go_wp2_with fail
          refine (curBytes_any _ _ c r false _ hC).mono ?_
          rintro e w6 ⟨v, rfl, ho6, hC6, hg6⟩
          have hbel6 := hbel.grown hg6 hbel.size (fun q hq => by simp at hq; omega)
          have hcb6 := hC6.bad
          generalize (rdBytes r false).2.1 = r' at *
          generalize (rdBytes r false).2.2 = b' at *
          go_wp2_with fail
          refine (bad_any c b' _ hcb6).mono ?_
          rintro e w7 ⟨rfl, rfl⟩
          go_wp2
          go_roundw
          case rel => exact ⟨k + 1, r', b', by go_num, rfl, by omega, hC6, hide (fun h => hE.out h (by simp)), hbel6⟩
          case measure => simp [intOf]; omega
        · go_wp2_with fail
          refine (bad_any c false _ hcb).mono ?_
          rintro e w5 ⟨rfl, rfl⟩
          go_wp2_with fail
          refine (curInt_any _ _ c r false _ hC).mono ?_
          rintro e w6 ⟨rfl, hC6, hg6⟩
          have hbel6 := hbel.grown hg6 hbel.size (fun q hq => by simp at hq; omega)
          have hcb6 := hC6.bad
          generalize (rdInt r false).2.1 = r' at *
          generalize (rdInt r false).2.2 = b' at *
          go_wp2_with fail
          refine (bad_any c b' _ hcb6).mono ?_
          rintro e w7 ⟨rfl, rfl⟩
          go_wp2
          go_roundw
          case rel => exact ⟨k + 1, r', b', by go_num, rfl, by omega, hC6, hide (fun h => hE'.out h (by simp)), hbel6⟩
          case measure => simp [intOf]; omega
      · have hr0 : r = [] := hem.out rfl
        subst hr0
        have HI := hide (curInt_any _ _ c [] true _ hC)
        rw [rdInt_stays] at HI
        have HT := hide (curBytes_any _ _ c [] true _ hC)
        rw [rdBytes_stays] at HT
        cases x
        · go_wp2_with fail
          refine (bad_any c true _ hcb).mono ?_
          rintro e w5 ⟨rfl, rfl⟩
          go_wp2_with fail
          refine HT.out.mono ?_
          rintro e w6 ⟨v, rfl, ho6, hC6, hg6⟩
          have hbel6 := hbel.grown hg6 hbel.size (fun q hq => by simp at hq; omega)
          have hcb6 := hC6.bad
          obtain ⟨a6, cap6, hc06⟩ := Cur.left hC6
          obtain ⟨av, capv, rfl, _⟩ := own_slice ho6
          go_wp2_with fail
          refine (bad_any c true _ hcb6).mono ?_
          rintro e w7 ⟨rfl, rfl⟩
          go_wp2_with fail
          refine (left_any c a6 _ cap6 _ hc06).mono ?_
          rintro e w8 ⟨rfl, rfl⟩
          go_wp2_with fail
          refine (end_any c a6 _ cap6 true _ hc06 hcb6).mono ?_
          rintro e w9 ⟨rfl, rfl⟩
          go_wp2
          go_roundw
          case rel => exact ⟨k + 1, [], true, by go_num, rfl, by omega, hC6, hide (fun _ => rfl), hbel6⟩
          case measure => simp [intOf]; omega
        · go_wp2_with fail
          refine (bad_any c true _ hcb).mono ?_
          rintro e w5 ⟨rfl, rfl⟩
          go_wp2_with fail
          refine HI.out.mono ?_
          rintro e w6 ⟨rfl, hC6, hg6⟩
          have hbel6 := hbel.grown hg6 hbel.size (fun q hq => by simp at hq; omega)
          have hcb6 := hC6.bad
          obtain ⟨a6, cap6, hc06⟩ := Cur.left hC6
          go_wp2_with fail
          refine (bad_any c true _ hcb6).mono ?_
          rintro e w7 ⟨rfl, rfl⟩
          go_wp2_with fail
          refine (left_any c a6 _ cap6 _ hc06).mono ?_
          rintro e w8 ⟨rfl, rfl⟩
          go_wp2_with fail
          refine (end_any c a6 _ cap6 true _ hc06 hcb6).mono ?_
          rintro e w9 ⟨rfl, rfl⟩
          go_wp2
          go_roundw
          case rel => exact ⟨k + 1, [], true, by go_num, rfl, by omega, hC6, hide (fun _ => rfl), hbel6⟩
          case measure => simp [intOf]; omega
    · go_wp2_with (go_at_call 16; go_must (refine (bad_any c bd _ hcb).mono ?_; rintro e w5 ⟨rfl, rfl⟩))
      go_ret
      cases bd
      all_goals exact ⟨rfl, hbel⟩

theorem walk (a0 : Option Addr) (l0 c0 : Nat) (bs : List Nat) (a1 : Option Addr) (l1 c1 : Nat) (cs : List Bool) (w : World) (hl0 : bs.length = l0) (hB : Byt bs) (hr0 : Reads w a0 (bV bs)) (hl1 : cs.length = l1) (hr1 : Reads w a1 (tV cs)) :
    Calls Try.prog 6 #[.slice a0 l0 c0, .slice a1 l1 c1] w fun e w' => e = .returned (.bool true) ∧ Below w.heap.size w w' := by
  by_cases hbig : 1000 < l0 ∨ 200 < l1
  · exact walk_big a0 l0 c0 a1 l1 c1 w hbig
  · by_cases h0 : cs = []
    · subst h0
      simp at hl1
      subst hl1
      exact walk_nil a0 l0 c0 bs a1 c1 w hl0 hB hr0 (by omega)
    · rcases hr1 with h | ⟨b, off, rfl, hc⟩
      · simp [tV] at h; exact absurd h h0
      · exact walk_some a0 l0 c0 bs b off l1 c1 cs w hl0 hB hr0 hl1 hc (by omega) (by omega)
end packStays
end Go.Proofs.Ytdhekagkhhejpaa
