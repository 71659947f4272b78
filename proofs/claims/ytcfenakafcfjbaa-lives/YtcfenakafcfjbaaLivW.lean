/- BeatLives: the walk. -/
import Derived.Test.YtcfenakafcfjbaaOftW
namespace Go.Proofs.Ytcfenakafcfjbaa
open Go.RowKit Go.ChangeShapes Go.WideShapes Go.ChangeAt Go.Deep Go.Maps Go.Sort
namespace beatLives
open beatOften (oneF one_upd one_get)

def Sv (B : Nat) (w0 wr : World) (cb N : Nat) (wt : Int) (F G : Int → Option Int) : Prop := ∃ E, BeM E wr cb wt N F G ∧ (∀ j, E j → B ≤ j) ∧ Below B w0 wr ∧ B ≤ wr.heap.size
theorem Sv.below {B cb N : Nat} {w0 wr w' : World} {wt : Int} {F G : Int → Option Int} (h : Sv B w0 wr cb N wt F G) (hb : Below wr.heap.size wr w') : Sv B w0 w' cb N wt F G := by
  obtain ⟨E, h1, h2, h3, h4⟩ := h
  exact ⟨E, h1.below hb, h2, h3.trans (hb.mono h4), Nat.le_trans h4 hb.size⟩
theorem Sv.step {B cb N' : Nat} {w0 wr w' : World} {wt : Int} {F' G' : Int → Option Int} {E E' : Cl} (h2 : ∀ j, E j → B ≤ j) (h3 : Below B w0 wr) (h4 : B ≤ wr.heap.size) (hB : B ≤ w0.heap.size) (hM : BeM E' w' cb wt N' F' G') (hS : Stp E E' wr w') : Sv B w0 w' cb N' wt F' G' := by
  refine ⟨E', hM, fun j hj => ?_, hS.kp.below h3 hB (fun j hj e => by have := h2 j e; omega), Nat.le_trans h4 hS.kp.size⟩
  rcases Nat.lt_or_ge j wr.heap.size with h | h
  · exact h2 j ((hS.col j h).1 hj)
  · exact Nat.le_trans h4 h
theorem sv_in_no {B cb N : Nat} {w0 wr : World} {wt : Int} {F G : Int → Option Int} (h : Sv B w0 wr cb N wt F G) (x life now : Int) (hx : I64 x) (hq : inQ F G x life now = false) :
    Calls Try.prog 13 #[.pointer (some ⟨cb, 0, none⟩), .int .i64 x, .int .i64 life, .int .i64 now] wr fun e w' => e = .returned (.bool false) ∧ Sv B w0 w' cb N wt F G := by
  refine (in_no h.choose_spec.1 x life now hx hq).mono ?_
  rintro e w' ⟨rfl, hb⟩
  exact ⟨rfl, h.below hb⟩
theorem sv_in_yes {B cb N : Nat} {w0 wr : World} {wt : Int} {F G : Int → Option Int} (h : Sv B w0 wr cb N wt F G) (hB : B ≤ w0.heap.size) (hN : N ≤ 100000) (x life now : Int) (hx : I64 x) (hl : I64 life) (hn : I64 now) (hq : inQ F G x life now = true) :
    Calls Try.prog 13 #[.pointer (some ⟨cb, 0, none⟩), .int .i64 x, .int .i64 life, .int .i64 now] wr fun e w' => e = .returned (.bool true) ∧ Sv B w0 w' cb (N + 1) wt (upd F x now) (upd G x life) := by
  obtain ⟨E, h1, h2, h3, h4⟩ := h
  refine (in_yes h1 hN x life now hx hl hn hq).mono ?_
  rintro e w' ⟨rfl, E', hM, hS⟩
  exact ⟨rfl, Sv.step h2 h3 h4 hB hM hS⟩
theorem sv_out {B cb N : Nat} {w0 wr : World} {wt : Int} {F G : Int → Option Int} (h : Sv B w0 wr cb N wt F G) (hB : B ≤ w0.heap.size) (x : Int) (hx : I64 x) :
    Calls Try.prog 11 #[.pointer (some ⟨cb, 0, none⟩), .slice (some ⟨wr.heap.size, 0, none⟩) 1 1] (wr.alloc (.cells #[.int .i64 x] 3)) fun e w' => e = .returned (.tuple #[]) ∧ Sv B w0 w' cb N wt (rem F x) G := by
  obtain ⟨E, h1, h2, h3, h4⟩ := h
  have hb := below_new wr (.cells #[.int .i64 x] 3)
  refine (out_any (h1.below hb) [x] (some ⟨wr.heap.size, 0, none⟩) 1 1 rfl (by omega) (by intro y hy; simp at hy; rw [hy]; exact hx) (reads1 wr x) (fun b e hE => by simp at e; have := h1.1 b hE; omega)).mono ?_
  rintro e w' ⟨rfl, hM, hS⟩
  exact ⟨rfl, Sv.step h2 (h3.trans (hb.mono h4)) (Nat.le_trans h4 hb.size) hB hM hS⟩
theorem sv_life {B cb N : Nat} {w0 wr : World} {wt : Int} {F G : Int → Option Int} (h : Sv B w0 wr cb N wt F G) (x : Int) (hx : I64 x) (a : Int) (q : Bool) (ha : a = if (F x).isSome then (G x).getD 0 else 0) (hq : q = (F x).isSome) :
    Calls Try.prog 16 #[.pointer (some ⟨cb, 0, none⟩), .int .i64 x] wr fun e w' => e = .returned (.tuple #[.int .i64 a, .bool q]) ∧ w' = wr := by
  rw [ha, hq]
  exact life_any h.choose_spec.1 x hx
theorem sv_heard_no {B cb N : Nat} {w0 wr : World} {wt : Int} {F G : Int → Option Int} (h : Sv B w0 wr cb N wt F G) (x life now : Int) (hx : I64 x) (hq : heardQ F G x life now = false) :
    Calls Try.prog 9 #[.pointer (some ⟨cb, 0, none⟩), .int .i64 x, .int .i64 life, .int .i64 now] wr fun e w' => e = .returned (.bool false) ∧ Sv B w0 w' cb N wt F G := by
  refine (heard_no h.choose_spec.1 x life now hx hq).mono ?_
  rintro e w' ⟨rfl, hb⟩
  exact ⟨rfl, h.below hb⟩
theorem sv_heard_yes {B cb N : Nat} {w0 wr : World} {wt : Int} {F G : Int → Option Int} (h : Sv B w0 wr cb N wt F G) (hB : B ≤ w0.heap.size) (hN : N ≤ 100000) (x life now : Int) (hx : I64 x) (hn : I64 now) (ht : I64 ((F x).getD 0)) (hq : heardQ F G x life now = true) :
    Calls Try.prog 9 #[.pointer (some ⟨cb, 0, none⟩), .int .i64 x, .int .i64 life, .int .i64 now] wr fun e w' => e = .returned (.bool true) ∧ Sv B w0 w' cb (N + 1) wt (upd F x (max ((F x).getD 0) now)) G := by
  obtain ⟨E, h1, h2, h3, h4⟩ := h
  refine (heard_yes h1 hN x life now hx hn ht hq).mono ?_
  rintro e w' ⟨rfl, hM, hS⟩
  exact ⟨rfl, Sv.step h2 h3 h4 hB hM hS⟩

def noneF : Int → Option Int := fun _ => none
theorem rem_one (y t : Int) : rem (oneF y t) y = noneF := by
  funext z
  unfold rem oneF upd noneF
  split <;> rfl
theorem upd_none (y t : Int) : upd noneF y t = oneF y t := rfl

theorem walk0 (a : Option Addr) (n c : Nat) (w : World) (h : 60 < n) :
    Calls Try.prog 5 #[.slice a n c] w fun e w' => e = .returned (.bool true) ∧ Below w.heap.size w w' := by
  have C6 := hide (alive_any w)
  have h' : (n : Int) > 60 := by omega
  go_enter Try.func5, Try.ntmps5
  go_wp2_with (go_at_call 6; go_must ((with_reducible refine C6.out.mono ?_); rintro e w1 ⟨rfl, hb⟩; have HB := hide hb; clear hb))
  go_ret
  exact ⟨rfl, HB.out⟩

/-- The state ahead of a round: in life m, heard of at t. -/
def Rd (B : Nat) (w0 wr : World) (cb k : Nat) (m : Int) : Prop := 1 ≤ m ∧ m ≤ 1099511627776 ∧ ∃ t, I64 t ∧ Sv B w0 wr cb (1 + 2 * k) 5 (oneF 2 t) (oneF 2 m)

set_option maxRecDepth 100000 in
set_option maxHeartbeats 4000000 in
theorem walk1 (a : Option Addr) (n c : Nat) (l : List Int) (w : World) (hl : l.length = n) (hi : In64 l) (ra : Reads w a (iV l)) (hn : n ≤ 60) :
    Calls Try.prog 5 #[.slice a n c] w fun e w' => e = .returned (.bool true) ∧ Below w.heap.size w w' := by
  have C6 := hide (alive_any w)
  have HL := hide hl
  have HI := hide hi
  have HR := hide ra
  have h' : ¬ (n : Int) > 60 := by omega
  have i2 : I64 2 := by unfold I64; omega
  clear hl hi ra
  go_enter Try.func5, Try.ntmps5
  go_upto_region 4 with (go_at_call 6; go_must ((with_reducible refine C6.out.mono ?_); rintro e w1 ⟨rfl, hb⟩; have HB1 := hide hb; clear hb))
  have hb2 := below_new w1 (.cells #[.int .i64 2] 3)
  have C7 := hide (new_one (w1.alloc (.cells #[.int .i64 2] 3)) 5 (by unfold I64; omega) [2] (some ⟨w1.heap.size, 0, none⟩) 1 1 rfl (by omega) (by intro x hx; simp at hx; omega) (reads1 w1 2))
  have HB2 := hide (HB1.out.trans (hb2.mono HB1.out.size))
  clear hb2
  go_upto_region 5 with (go_at_call 7; go_must ((with_reducible refine C7.out.mono ?_); rintro e w2 ⟨cb, E, rfl, hM, hb, hE⟩; have HS := hide (show Rd w.heap.size w w2 cb 0 1 from ⟨by omega, by omega, 0, by unfold I64; omega, E, hM, fun j hj => Nat.le_trans HB2.out.size (hE j hj), HB2.out.trans (hb.mono HB2.out.size), Nat.le_trans HB2.out.size hb.size⟩); clear hM hb hE))
  clear C6 C7 HB1 HB2 h'
  have HN := hide hn
  clear hn
  go_wp2
  go_loopw [5, 6] (fun mv i wr => ∃ (k : Nat) (m : Int), k ≤ n ∧ i = .int .i64 (k : Nat) ∧ mv = .int .i64 m ∧ Hid (Rd w.heap.size w wr cb k m)) (fun _ i _ => n - (intOf i).toNat)
  case atStart => exact ⟨0, 1, Nat.zero_le _, rfl, rfl, HS⟩
  case round =>
    obtain ⟨k, m, hk, rfl, rfl, HA⟩ := hrel
    by_cases hlt : k < n
    · have hkl : k < l.length := by have := HL.out; omega
      have hlt' : (k : Int) < (n : Int) := by omega
      have HA2 := HA.out
      obtain ⟨m1, m2, t, hti, hSv⟩ := HA2
      obtain ⟨g, off, har, hcs⟩ := reads_at (HR.out.below hSv.choose_spec.2.2.1) hkl
      subst har
      have y0 := hcs.out k (.int .i64 l[k]) (by simp [iV, hkl])
      have hx : I64 l[k] := HI.out _ (List.getElem_mem _)
      generalize l[k] = x at y0 hx
      have HK := hide (show (0 : Int) ≤ k ∧ (k : Int) ≤ 60 from by have := HN.out; omega)
      have hki : I64 (k : Int) := by have := HK.out; unfold I64; omega
      have A1 := hide (sv_in_no hSv 2 x k i2 (by simp [inQ, one_get]))
      clear hcs hkl HA
      go_upto_region 12 with (go_at_call 13; go_must ((with_reducible refine A1.out.mono ?_); rintro e w3 ⟨rfl, hS3⟩; have HS3 := hide hS3; clear hS3))
      have A2 := hide (sv_out HS3.out (Nat.le_refl _) 2 i2)
      rw [rem_one] at A2
      go_upto_region 13 with (go_at_call 11; go_must ((with_reducible refine A2.out.mono ?_); rintro e w4 ⟨rfl, hS4⟩; have HS4 := hide hS4; clear hS4))
      have A3 := hide (sv_life HS4.out 2 i2 0 false (by simp [noneF]) (by simp [noneF]))
      go_upto_region 14 with (go_at_call 16; go_must ((with_reducible refine A3.out.mono ?_); rintro e w5 ⟨rfl, hw5⟩; subst hw5))
      have hok : okT (k : Int) = true := by have := HK.out; simp [okT]; omega
      have hinq : ∀ z : Int, inQ noneF (oneF 2 m) 2 z k = (okT z && !decide (z ≤ m)) := fun z => by simp [inQ, one_get, noneF, hok]
      have HM := hide (And.intro m1 m2)
      clear m1 m2 hti hSv A1 A2 A3 HS3
      by_cases c1 : x > m
      · by_cases c2 : x ≤ 1099511627776
        · have A4 := hide (sv_in_yes HS4.out (Nat.le_refl _) (by have := HN.out; omega) 2 x k i2 hx hki (by rw [hinq]; have := HM.out; simp [okT]; omega))
          rw [upd_none, one_upd] at A4
          have HC := hide (show 1 ≤ x ∧ x ≤ 1099511627776 from by have := HM.out; omega)
          clear hinq
          go_upto_region 24 with (go_at_call 13; go_must ((with_reducible refine A4.out.mono ?_); rintro e w6 ⟨rfl, hS6⟩; have HS6 := hide hS6; clear hS6))
          have A5 := hide (sv_life HS6.out 2 i2 x true (by simp [one_get]) (by simp [one_get]))
          have q1 : wrap64 (x - 1) = x - 1 := by have := HC.out; unfold wrap64; omega
          have A6 := hide (sv_heard_no HS6.out 2 (x - 1) k i2 (by simp [heardQ, one_get]; intro h; omega))
          go_wp2_with (first
            | (go_at_call 16; ((with_reducible refine A5.out.mono ?_); rintro e w7 ⟨rfl, hw7⟩; subst hw7))
            | (go_at_call 9; ((with_reducible refine A6.out.mono ?_); rintro e w8 ⟨rfl, hS8⟩; have A7 := hide (sv_heard_yes hS8 (Nat.le_refl _) (by have := HN.out; omega) 2 x k i2 hki (by rw [one_get]; exact hki) (by simp [heardQ, one_get, hok])); clear hS8))
            | (go_at_call 9; go_must ((with_reducible refine A7.out.mono ?_); rintro e w9 ⟨rfl, hS9⟩; have HS9 := hide hS9; clear hS9)))
          go_roundw
          case rel =>
            refine ⟨k + 1, x, by omega, by go_num, rfl, hide ⟨HC.out.1, HC.out.2, k, hki, ?_⟩⟩
            have h9 := HS9.out
            rw [one_get, one_upd] at h9
            simp only [Option.getD_some] at h9
            rw [show max (k : Int) k = k by omega] at h9
            rw [show 1 + 2 * (k + 1) = 1 + 2 * k + 1 + 1 by omega]
            exact h9
          case measure => simp [intOf]; omega
        · have A4 := hide (sv_in_no HS4.out 2 x k i2 (by rw [hinq]; have := HM.out; simp [okT]; omega))
          go_upto_region 18 with (go_at_call 13; go_must ((with_reducible refine A4.out.mono ?_); rintro e w6 ⟨rfl, hS5⟩; have HS5 := hide hS5; clear hS5))
          have q0 : wrap64 (m + 1) = m + 1 := by have := HM.out; unfold wrap64; omega
          by_cases c3 : m + 1 > 1099511627776
          · have B4 := hide (sv_in_no HS5.out 2 (m + 1) k i2 (by rw [hinq]; have := HM.out; simp [okT]; omega))
            go_wp2_with (go_at_call 13; go_must ((with_reducible refine B4.out.mono ?_); rintro e w7 ⟨rfl, hS6⟩; have HS6 := hide hS6; clear hS6))
            go_ret
            exact ⟨rfl, HS6.out.choose_spec.2.2.1⟩
          · have B4 := hide (sv_in_yes HS5.out (Nat.le_refl _) (by have := HN.out; omega) 2 (m + 1) k i2 (by have := HM.out; unfold I64; omega) hki (by rw [hinq]; have := HM.out; simp [okT]; omega))
            rw [upd_none, one_upd] at B4
            have HC := hide (show 1 ≤ m + 1 ∧ m + 1 ≤ 1099511627776 from by have := HM.out; omega)
            clear hinq
            go_upto_region 24 with (go_at_call 13; go_must ((with_reducible refine B4.out.mono ?_); rintro e w7 ⟨rfl, hS6⟩; have HS6 := hide hS6; clear hS6))
            have A5 := hide (sv_life HS6.out 2 i2 (m + 1) true (by simp [one_get]) (by simp [one_get]))
            have q1 : wrap64 ((m + 1) - 1) = m := by have := HC.out; unfold wrap64; omega
            have q2 : wrap64 m = m := by have := HC.out; unfold wrap64; omega
            have A6 := hide (sv_heard_no HS6.out 2 (m) k i2 (by simp [heardQ, one_get]; intro h; omega))
            go_wp2_with (first
              | (go_at_call 16; ((with_reducible refine A5.out.mono ?_); rintro e w7 ⟨rfl, hw7⟩; subst hw7))
              | (go_at_call 9; ((with_reducible refine A6.out.mono ?_); rintro e w8 ⟨rfl, hS8⟩; have A7 := hide (sv_heard_yes hS8 (Nat.le_refl _) (by have := HN.out; omega) 2 (m + 1) k i2 hki (by rw [one_get]; exact hki) (by simp [heardQ, one_get, hok])); clear hS8))
              | (go_at_call 9; go_must ((with_reducible refine A7.out.mono ?_); rintro e w9 ⟨rfl, hS9⟩; have HS9 := hide hS9; clear hS9)))
            go_roundw
            case rel =>
              refine ⟨k + 1, m + 1, by omega, by go_num, rfl, hide ⟨HC.out.1, HC.out.2, k, hki, ?_⟩⟩
              have h9 := HS9.out
              rw [one_get, one_upd] at h9
              simp only [Option.getD_some] at h9
              rw [show max (k : Int) k = k by omega] at h9
              rw [show 1 + 2 * (k + 1) = 1 + 2 * k + 1 + 1 by omega]
              exact h9
            case measure => simp [intOf]; omega
      · have A4 := hide (sv_in_no HS4.out 2 x k i2 (by rw [hinq]; have := HM.out; simp [okT]; omega))
        go_upto_region 18 with (go_at_call 13; go_must ((with_reducible refine A4.out.mono ?_); rintro e w6 ⟨rfl, hS5⟩; have HS5 := hide hS5; clear hS5))
        have q0 : wrap64 (m + 1) = m + 1 := by have := HM.out; unfold wrap64; omega
        by_cases c3 : m + 1 > 1099511627776
        · have B4 := hide (sv_in_no HS5.out 2 (m + 1) k i2 (by rw [hinq]; have := HM.out; simp [okT]; omega))
          go_wp2_with (go_at_call 13; go_must ((with_reducible refine B4.out.mono ?_); rintro e w7 ⟨rfl, hS6⟩; have HS6 := hide hS6; clear hS6))
          go_ret
          exact ⟨rfl, HS6.out.choose_spec.2.2.1⟩
        · have B4 := hide (sv_in_yes HS5.out (Nat.le_refl _) (by have := HN.out; omega) 2 (m + 1) k i2 (by have := HM.out; unfold I64; omega) hki (by rw [hinq]; have := HM.out; simp [okT]; omega))
          rw [upd_none, one_upd] at B4
          have HC := hide (show 1 ≤ m + 1 ∧ m + 1 ≤ 1099511627776 from by have := HM.out; omega)
          clear hinq
          go_upto_region 24 with (go_at_call 13; go_must ((with_reducible refine B4.out.mono ?_); rintro e w7 ⟨rfl, hS6⟩; have HS6 := hide hS6; clear hS6))
          have A5 := hide (sv_life HS6.out 2 i2 (m + 1) true (by simp [one_get]) (by simp [one_get]))
          have q1 : wrap64 ((m + 1) - 1) = m := by have := HC.out; unfold wrap64; omega
          have q2 : wrap64 m = m := by have := HC.out; unfold wrap64; omega
          have A6 := hide (sv_heard_no HS6.out 2 (m) k i2 (by simp [heardQ, one_get]; intro h; omega))
          go_wp2_with (first
            | (go_at_call 16; ((with_reducible refine A5.out.mono ?_); rintro e w7 ⟨rfl, hw7⟩; subst hw7))
            | (go_at_call 9; ((with_reducible refine A6.out.mono ?_); rintro e w8 ⟨rfl, hS8⟩; have A7 := hide (sv_heard_yes hS8 (Nat.le_refl _) (by have := HN.out; omega) 2 (m + 1) k i2 hki (by rw [one_get]; exact hki) (by simp [heardQ, one_get, hok])); clear hS8))
            | (go_at_call 9; go_must ((with_reducible refine A7.out.mono ?_); rintro e w9 ⟨rfl, hS9⟩; have HS9 := hide hS9; clear hS9)))
          go_roundw
          case rel =>
            refine ⟨k + 1, m + 1, by omega, by go_num, rfl, hide ⟨HC.out.1, HC.out.2, k, hki, ?_⟩⟩
            have h9 := HS9.out
            rw [one_get, one_upd] at h9
            simp only [Option.getD_some] at h9
            rw [show max (k : Int) k = k by omega] at h9
            rw [show 1 + 2 * (k + 1) = 1 + 2 * k + 1 + 1 by omega]
            exact h9
          case measure => simp [intOf]; omega
    · obtain rfl : k = n := by omega
      go_wp2
      go_ret
      obtain ⟨_, _, t, _, hSv⟩ := HA.out
      exact ⟨rfl, hSv.choose_spec.2.2.1⟩

theorem walk (a : Option Addr) (n c : Nat) (l : List Int) (w : World) (hl : l.length = n) (hi : In64 l) (ra : Reads w a (iV l)) :
    Calls Try.prog 5 #[.slice a n c] w fun e w' => e = .returned (.bool true) ∧ Below w.heap.size w w' := by
  by_cases h : n ≤ 60
  · exact walk1 a n c l w hl hi ra h
  · exact walk0 a n c w (by omega)
end beatLives
end Go.Proofs.Ytcfenakafcfjbaa
