/- BeatOften: the walk. -/
import Derived.Test.YtcfenakafcfjbaaAlv
namespace Go.Proofs.Ytcfenakafcfjbaa
open Go.RowKit Go.ChangeShapes Go.WideShapes Go.ChangeAt Go.Deep Go.Maps Go.Sort
namespace beatOften

def oneF (y t : Int) : Int → Option Int := upd (fun _ => none) y t
theorem one_upd (y t s : Int) : upd (oneF y t) y s = oneF y s := by
  funext z
  unfold oneF upd
  split <;> rfl
theorem one_get (y t : Int) : (oneF y t) y = some t := by simp [oneF, upd]
theorem late_one {t wait now : Int} (hw : 1 ≤ wait) (hn : 0 ≤ now ∧ now ≤ 1000000) (h : t < now - wait) (x : Int) : lateS (oneF 3 t) wait now x ↔ x ∈ [3] := by
  simp only [lateS, lateP, oneF, upd, okT, List.mem_singleton]
  constructor
  · rintro ⟨_, _, t', h1, h2⟩
    by_cases e : x = 3
    · exact e
    · simp [e] at h1
  · rintro rfl
    exact ⟨by simp; omega, by unfold I64; omega, t, by simp, by omega⟩
theorem late_none {t wait now : Int} (hw : 1 ≤ wait) (h : ¬ t < now - wait) (x : Int) : lateS (oneF 3 t) wait now x ↔ x ∈ ([] : List Int) := by
  simp only [lateS, lateP, oneF, upd, okT, List.not_mem_nil, iff_false]
  rintro ⟨_, _, t', h1, h2⟩
  by_cases e : x = 3
  · simp [e] at h1; omega
  · simp [e] at h1

theorem walk0 (wait every n : Int) (w : World) (h : ¬ (1 ≤ wait ∧ wait ≤ 100 ∧ 1 ≤ every ∧ every ≤ 200 ∧ 1 ≤ n ∧ n ≤ 100)) :
    Calls Try.prog 4 #[.int .i64 wait, .int .i64 every, .int .i64 n] w fun e w' => e = .returned (.bool true) ∧ Below w.heap.size w w' := by
  have C6 := hide (alive_any w)
  rcases (show wait < 1 ∨ (¬ wait < 1 ∧ wait > 100) ∨ (¬ wait < 1 ∧ ¬ wait > 100 ∧ every < 1) ∨ (¬ wait < 1 ∧ ¬ wait > 100 ∧ ¬ every < 1 ∧ every > 200) ∨ (¬ wait < 1 ∧ ¬ wait > 100 ∧ ¬ every < 1 ∧ ¬ every > 200 ∧ n < 1) ∨ (¬ wait < 1 ∧ ¬ wait > 100 ∧ ¬ every < 1 ∧ ¬ every > 200 ∧ ¬ n < 1 ∧ n > 100) by omega) with h1 | ⟨h1, h2⟩ | ⟨h1, h2, h3⟩ | ⟨h1, h2, h3, h4⟩ | ⟨h1, h2, h3, h4, h5⟩ | ⟨h1, h2, h3, h4, h5, h6⟩
  all_goals
    clear h
    go_enter Try.func4, Try.ntmps4
    go_wp2_with (go_at_call 6; go_must ((with_reducible refine C6.out.mono ?_); rintro e w1 ⟨rfl, hb⟩; have HB := hide hb; clear hb))
    go_ret
    exact ⟨rfl, HB.out⟩

/-- When it was heard of last, ahead of the k-th time. -/
def tm (k : Nat) (every : Int) : Int := if k = 0 then 0 else ((k : Int) - 1) * every
def St (B : Nat) (w0 wr : World) (cb : Nat) (wait t : Int) (N : Nat) : Prop := ∃ E, BeM E wr cb wait N (oneF 3 t) (oneF 3 1) ∧ (∀ j, E j → B ≤ j) ∧ Below B w0 wr

theorem St.below {B cb N : Nat} {w0 wr w' : World} {wait t : Int} (h : St B w0 wr cb wait t N) (hB : B ≤ wr.heap.size) (hb : Below wr.heap.size wr w') : St B w0 w' cb wait t N := by
  obtain ⟨E, h1, h2, h3⟩ := h
  exact ⟨E, h1.below hb, h2, h3.trans (hb.mono hB)⟩
/-- Late answers its one node or none. -/
theorem st_late {B cb N : Nat} {w0 wr : World} {wait t now : Int} (h : St B w0 wr cb wait t N) (hB : B ≤ wr.heap.size) (hN : N ≤ 1000) (hw : 1 ≤ wait) (hn : 0 ≤ now ∧ now ≤ 1000000) (q : Bool) (hq : q = decide (t < now - wait)) :
    Calls Try.prog 15 #[.pointer (some ⟨cb, 0, none⟩), .int .i64 now] wr fun e w' => ∃ a c, e = .returned (.slice a (if q then 1 else 0) c) ∧ St B w0 w' cb wait t N ∧ B ≤ w'.heap.size := by
  have h' := h
  obtain ⟨E, h1, h2, h3⟩ := h
  refine (late_any wr h1 (by omega) now).mono ?_
  intro e w' hl
  by_cases ht : t < now - wait
  · obtain ⟨a, c, rfl, _, _, hb⟩ := late_row hl [3] (by simp) (late_one hw hn ht)
    refine ⟨a, c, ?_, h'.below hB hb, Nat.le_trans hB hb.size⟩
    rw [hq, decide_eq_true ht]; rfl
  · obtain ⟨a, c, rfl, _, _, hb⟩ := late_row hl [] List.Pairwise.nil (late_none hw ht)
    refine ⟨a, c, ?_, h'.below hB hb, Nat.le_trans hB hb.size⟩
    rw [hq, decide_eq_false ht]; rfl
theorem st_heard {B cb N : Nat} {w0 wr : World} {wait t now : Int} (h : St B w0 wr cb wait t N) (hB : B ≤ w0.heap.size) (hN : N ≤ 1000) (hn : 0 ≤ now ∧ now ≤ 1000000) (ht : 0 ≤ t ∧ t ≤ now) :
    Calls Try.prog 9 #[.pointer (some ⟨cb, 0, none⟩), .int .i64 3, .int .i64 1, .int .i64 now] wr fun e w' => e = .returned (.bool true) ∧ St B w0 w' cb wait now (N + 1) := by
  obtain ⟨E, h1, h2, h3⟩ := h
  refine (heard_yes h1 (by omega) 3 1 now (by unfold I64; omega) (by unfold I64; omega) (by rw [one_get]; unfold I64; simp; omega) (by simp [heardQ, one_get, okT]; omega)).mono ?_
  rintro e w' ⟨rfl, hM, hS⟩
  rw [one_get, one_upd] at hM
  have e2 : max ((some t).getD 0) now = now := by simp; omega
  rw [e2] at hM
  exact ⟨rfl, E, hM, h2, hS.kp.below h3 hB (fun j hj e => by have := h2 j e; omega)⟩

theorem mul_k {k : Nat} {every : Int} (he : 1 ≤ every ∧ every ≤ 200) (hk : k ≤ 100) : ∃ m : Int, m = (k : Int) * every ∧ 0 ≤ m ∧ m ≤ 20000 ∧ tm k every = if k = 0 then 0 else m - every := by
  refine ⟨_, rfl, Int.mul_nonneg (by omega) (by omega), ?_, ?_⟩
  · have h1 : (k : Int) * every ≤ 100 * every := Int.mul_le_mul_of_nonneg_right (by omega) (by omega)
    omega
  · unfold tm
    split
    · rfl
    · rw [Int.sub_mul]; omega

set_option maxRecDepth 100000 in
set_option maxHeartbeats 4000000 in
theorem walk1 (wait every : Int) (n : Nat) (w : World) (hw1 : 1 ≤ wait) (hw2 : wait ≤ 100) (he1 : 1 ≤ every) (he2 : every ≤ 200) (hn1 : 1 ≤ n) (hn2 : n ≤ 100) :
    Calls Try.prog 4 #[.int .i64 wait, .int .i64 every, .int .i64 (n : Int)] w fun e w' => e = .returned (.bool true) ∧ Below w.heap.size w w' := by
  have C6 := hide (alive_any w)
  have i1 : ¬ wait < 1 := by omega
  have i2 : ¬ wait > 100 := by omega
  have i3 : ¬ every < 1 := by omega
  have i4 : ¬ every > 200 := by omega
  have i5 : ¬ (n : Int) < 1 := by omega
  have i6 : ¬ (n : Int) > 100 := by omega
  go_enter Try.func4, Try.ntmps4
  go_upto_region 4 with (go_at_call 6; go_must ((with_reducible refine C6.out.mono ?_); rintro e w1 ⟨rfl, hb⟩; have HB1 := hide hb; clear hb))
  have hb2 := below_new w1 (.cells #[.int .i64 3] 3)
  have C7 := hide (new_one (w1.alloc (.cells #[.int .i64 3] 3)) wait (by unfold I64; omega) [3] (some ⟨w1.heap.size, 0, none⟩) 1 1 rfl (by omega) (by intro x hx; simp at hx; omega) (reads1 w1 3))
  have HB2 := hide (HB1.out.trans (hb2.mono HB1.out.size))
  clear hb2
  go_upto_region 5 with (go_at_call 7; go_must ((with_reducible refine C7.out.mono ?_); rintro e w2 ⟨cb, E, rfl, hM, hb, hE⟩; have HS := hide (show St w.heap.size w w2 cb wait 0 1 from ⟨E, hM, fun j hj => Nat.le_trans HB2.out.size (hE j hj), HB2.out.trans (hb.mono HB2.out.size)⟩); clear hM hb hE))
  clear C6 C7 HB1 HB2 i1 i2 i3 i4 i5 i6
  have HW := hide (And.intro hw1 hw2)
  have HE := hide (And.intro he1 he2)
  have HN := hide (And.intro hn1 hn2)
  clear hw1 hw2 he1 he2 hn1 hn2
  go_wp2
  go_loopw [9, 10] (fun i _ wr => ∃ k : Nat, k ≤ n ∧ i = .int .i64 (k : Nat) ∧ Hid (St w.heap.size w wr cb wait (tm k every) (1 + k))) (fun i _ _ => n - (intOf i).toNat)
  case atStart => exact ⟨0, Nat.zero_le _, rfl, HS⟩
  case round =>
    obtain ⟨k, hk, rfl, HA⟩ := hrel
    by_cases hlt : k < n
    · have hlt' : (k : Int) < (n : Int) := by omega
      obtain ⟨m, hm, hm1, hm2, hm3⟩ := mul_k (k := k) HE.out (by have := HN.out; omega)
      have hwm : wrap64 ((k : Int) * every) = m := by rw [← hm]; unfold wrap64; omega
      have HM := hide (And.intro hm1 hm2)
      have HT := hide hm3
      have HT2 := hide (show tm (k + 1) every = m from by rw [hm]; unfold tm; simp)
      have hB := hide (show w.heap.size ≤ wr.heap.size from HA.out.choose_spec.2.2.size)
      have HTT := hide (show 0 ≤ tm k every ∧ tm k every ≤ m from by have h1 := hm; have := HE.out; rw [hm3]; split; exact ⟨by omega, by omega⟩; refine ⟨?_, by omega⟩; have h2 : 1 * every ≤ (k : Int) * every := Int.mul_le_mul_of_nonneg_right (by omega) (by omega); omega)
      have hC := fun b hb => st_late HA.out hB.out (by have := HN.out; omega) HW.out.1 (now := m) (by have := HM.out; omega) b hb
      by_cases h0 : k = 0
      · have C15 := hide (hC false (by have := HW.out; have h4 := HT.out; rw [if_pos h0] at h4; rw [h4]; symm; rw [decide_eq_false_iff_not]; subst h0; simp at hm; omega))
        have hz : ¬ ((k : Int) > 0) := by omega
        clear hm hm1 hm2 hm3 h0 hC
        go_upto_region 9 with (go_at_call 15; go_must ((with_reducible refine C15.out.mono ?_); rintro e w3 ⟨a, c, rfl, hS3, hB3⟩; have HS3 := hide hS3; clear hS3 hB3))
        have C9 := hide (st_heard HS3.out (Nat.le_refl _) (by have := HN.out; omega) (now := m) (by have := HM.out; omega) HTT.out)
        go_wp2_with (go_at_call 9; go_must ((with_reducible refine C9.out.mono ?_); rintro e w4 ⟨rfl, hS4⟩; have HS4 := hide hS4; clear hS4))
        go_roundw
        case rel => exact ⟨k + 1, by omega, by go_num, by rw [HT2.out]; exact HS4⟩
        case measure => simp [intOf]; omega
      · have hz : ((k : Int) > 0) := by omega
        have h4 : tm k every = m - every := by rw [hm3, if_neg h0]
        by_cases hwe : every > wait
        · have C15 := hide (hC true (by rw [h4]; symm; rw [decide_eq_true_eq]; omega))
          clear hm hm1 hm2 hm3 h0 hC h4
          go_upto_region 9 with (go_at_call 15; go_must ((with_reducible refine C15.out.mono ?_); rintro e w3 ⟨a, c, rfl, hS3, hB3⟩; have HS3 := hide hS3; clear hS3 hB3))
          have C9 := hide (st_heard HS3.out (Nat.le_refl _) (by have := HN.out; omega) (now := m) (by have := HM.out; omega) HTT.out)
          go_wp2_with (go_at_call 9; go_must ((with_reducible refine C9.out.mono ?_); rintro e w4 ⟨rfl, hS4⟩; have HS4 := hide hS4; clear hS4))
          go_roundw
          case rel => exact ⟨k + 1, by omega, by go_num, by rw [HT2.out]; exact HS4⟩
          case measure => simp [intOf]; omega
        · have C15 := hide (hC false (by rw [h4]; symm; rw [decide_eq_false_iff_not]; omega))
          clear hm hm1 hm2 hm3 h0 hC h4
          go_upto_region 9 with (go_at_call 15; go_must ((with_reducible refine C15.out.mono ?_); rintro e w3 ⟨a, c, rfl, hS3, hB3⟩; have HS3 := hide hS3; clear hS3 hB3))
          have C9 := hide (st_heard HS3.out (Nat.le_refl _) (by have := HN.out; omega) (now := m) (by have := HM.out; omega) HTT.out)
          go_wp2_with (go_at_call 9; go_must ((with_reducible refine C9.out.mono ?_); rintro e w4 ⟨rfl, hS4⟩; have HS4 := hide hS4; clear hS4))
          go_roundw
          case rel => exact ⟨k + 1, by omega, by go_num, by rw [HT2.out]; exact HS4⟩
          case measure => simp [intOf]; omega
    · obtain rfl : k = n := by omega
      obtain ⟨m, hm, hm1, hm2, hm3⟩ := mul_k (k := k) HE.out (by have := HN.out; omega)
      have ht : tm k every = m - every := by rw [hm3, if_neg (by have := HN.out; omega)]
      have hB := hide (show w.heap.size ≤ wr.heap.size from HA.out.choose_spec.2.2.size)
      have l0 : 0 ≤ m - every := by
        have h2 : 1 * every ≤ (k : Int) * every := Int.mul_le_mul_of_nonneg_right (by have := HN.out; omega) (by have := HE.out; omega)
        omega
      obtain ⟨la, hla⟩ : ∃ la, la = m - every := ⟨_, rfl⟩
      have q0 : wrap64 ((k : Int) - 1) = (k : Int) - 1 := by have := HN.out; unfold wrap64; omega
      have q1 : wrap64 (((k : Int) - 1) * every) = la := by rw [Int.sub_mul, ← hm, hla]; have := HE.out; unfold wrap64; omega
      have q2 : wrap64 (la + wait) = la + wait := by have := HW.out; have := HE.out; unfold wrap64; omega
      have q3 : wrap64 (la + wait + 1) = la + wait + 1 := by have := HW.out; have := HE.out; unfold wrap64; omega
      rw [ht, ← hla] at HA
      have C15 := hide (st_late HA.out hB.out (by have := HN.out; omega) HW.out.1 (now := la + wait) (by have := HW.out; have := HE.out; omega) false (by symm; rw [decide_eq_false_iff_not]; omega))
      have HL := hide (show 0 ≤ la ∧ la ≤ 20000 by have := HE.out; omega)
      clear hm hm1 hm2 hm3 ht l0 hla
      go_wp2_with (go_at_call 15; ((with_reducible refine C15.out.mono ?_); rintro e w3 ⟨a, c, rfl, hS3, hB3⟩; have HS3 := hide hS3; have HB3 := hide hB3; clear hS3 hB3))
      have D15 := hide (st_late HS3.out HB3.out (by have := HN.out; omega) HW.out.1 (now := la + wait + 1) (by have := HW.out; have := HL.out; omega) true (by symm; rw [decide_eq_true_eq]; omega))
      go_wp2_with (go_at_call 15; go_must ((with_reducible refine D15.out.mono ?_); rintro e w4 ⟨a4, c4, rfl, hS4, _⟩; have HS4 := hide hS4; clear hS4))
      go_ret
      exact ⟨rfl, HS4.out.choose_spec.2.2⟩

theorem walk (wait every n : Int) (w : World) (_h1 : I64 wait) (_h2 : I64 every) (_h3 : I64 n) :
    Calls Try.prog 4 #[.int .i64 wait, .int .i64 every, .int .i64 n] w fun e w' => e = .returned (.bool true) ∧ Below w.heap.size w w' := by
  by_cases h : 1 ≤ wait ∧ wait ≤ 100 ∧ 1 ≤ every ∧ every ≤ 200 ∧ 1 ≤ n ∧ n ≤ 100
  · obtain ⟨h1, h2, h3, h4, h5, h6⟩ := h
    obtain ⟨m, rfl⟩ : ∃ m : Nat, n = (m : Int) := ⟨n.toNat, by omega⟩
    exact walk1 wait every m w h1 h2 h3 h4 (by omega) (by omega)
  · exact walk0 wait every n w h
end beatOften
end Go.Proofs.Ytcfenakafcfjbaa
