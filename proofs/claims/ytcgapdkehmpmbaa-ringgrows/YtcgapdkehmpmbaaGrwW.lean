/- RingGrows answers true. -/
import Derived.Test.YtcgapdkehmpmbaaSizW
namespace Go.Proofs.Ytcgapdkehmpmbaa
open Go.RowKit Go.ChangeShapes Go.WideShapes Go.ChangeAt Go.Deep

/-- Places that are less than a ring's size apart are not one. -/
theorem plc_apart {n : Nat} (h : 1 ≤ n) (f : Int) (i j : Nat) (hij : i < j) (hj : j < n) : plc n (f + (i : Int)) ≠ plc n (f + (j : Int)) := by
  intro e
  have h2 : ((plc n (f + (i : Int)) : Nat) : Int) = ((plc n (f + (j : Int)) : Nat) : Int) := by rw [e]
  rw [plc_cast h, plc_cast h] at h2
  have e1 := Int.emod_add_mul_ediv (f + (i : Int)) (n : Int)
  have e2 := Int.emod_add_mul_ediv (f + (j : Int)) (n : Int)
  have h6 : (n : Int) * ((f + (j : Int)) / (n : Int) - (f + (i : Int)) / (n : Int)) = (j : Int) - (i : Int) := by
    rw [Int.mul_sub]; omega
  have h7 : (n : Int) ∣ (j : Int) - (i : Int) := ⟨_, h6.symm⟩
  have h8 := Int.le_of_dvd (by omega) h7
  omega

theorem growK_length (n m : Nat) (L : List Int) (f : Int) (k : Nat) : (growK n m L f k).length = m := by
  induction k with
  | zero => simp [growK]
  | succ k ih => simp [growK, ih]

theorem growK_at (n m : Nat) (L : List Int) (f : Int) (hm : 1 ≤ m) : ∀ k, k ≤ m → ∀ i : Nat, i < k → (growK n m L f k).getD (plc m (f + (i : Int))) 0 = L.getD (plc n (f + (i : Int))) 0 := by
  intro k
  induction k with
  | zero => intro _ i hi; omega
  | succ k ih =>
    intro hk i hi
    show ((growK n m L f k).set (plc m (f + (k : Int))) (L.getD (plc n (f + (k : Int))) 0)).getD (plc m (f + (i : Int))) 0 = _
    by_cases e : i = k
    · subst e
      have := plc_lt hm (f + (i : Int))
      simp [List.getD, growK_length, this]
    · have hne := plc_apart hm f i k (by omega) (by omega)
      rw [List.getD, List.getElem?_set_ne (fun e => hne e.symm), ← List.getD]
      exact ih (by omega) i (by omega)

namespace ringGrows

/-- The first k of the row stand in the ring. -/
def St (w wr : World) (cb : Nat) (f : Int) (n k : Nat) : Prop := ∃ g m L, RingP wr cb g m L ∧ n ≤ m ∧ (∀ i : Nat, i < k → L.getD (plc m (f + (i : Int))) 0 = 100 + (i : Int)) ∧ w.heap.size ≤ g

theorem St.drewN {w wr : World} {cb : Nat} {f : Int} {n k : Nat} (h : St w wr cb f n k) (q : Nat) : St w (wr.drewN q) cb f n k := by
  obtain ⟨g, m, L, h1, h2, h3, h4⟩ := h
  exact ⟨g, m, L, h1.drewN q, h2, h3, h4⟩

theorem St.put {w wr : World} {cb : Nat} {f : Int} {n k : Nat} (h : St w wr cb f n k) (hk : k < n) (hb : Below w.heap.size w wr) :
    Calls Try.prog 9 #[.pointer (some ⟨cb, 0, none⟩), .int .i64 (f + (k : Int)), .int .i64 (100 + (k : Int))] wr fun e w' => e = .returned (.tuple #[]) ∧ St w w' cb f n (k + 1) ∧ Below w.heap.size w w' := by
  obtain ⟨g, m, L, h1, h2, h3, h4⟩ := h
  refine (put_any wr cb g m L _ (100 + (k : Int)) h1).mono ?_
  rintro e w' ⟨rfl, hR, hg⟩
  refine ⟨rfl, ⟨g, m, _, hR, h2, fun i hi => ?_, h4⟩, hb.grown hg hb.size (fun k hk => by cases hk; exact h4)⟩
  have hp := h1.pow.pos.1
  by_cases e : i = k
  · subst e
    have := plc_lt hp (f + (i : Int))
    have h5 := h1.len
    simp [List.getD, h5, this]
  · have hne := plc_apart hp f i k (by omega) (by omega)
    rw [List.getD, List.getElem?_set_ne (fun e => hne e.symm), ← List.getD]
    exact h3 i (by omega)

theorem St.grow {w wr : World} {cb : Nat} {f : Int} {n : Nat} (h : St w wr cb f n n) (hb : Below w.heap.size w wr) (hf : I64 f) (ht : I64 (f + (n : Int))) :
    Calls Try.prog 11 #[.pointer (some ⟨cb, 0, none⟩), .int .i64 f, .int .i64 (f + (n : Int))] wr fun e w' => ∃ cb', e = .returned (.pointer (some ⟨cb', 0, none⟩)) ∧ St w w' cb' f n n ∧ Below w.heap.size w w' := by
  obtain ⟨g, m, L, h1, h2, h3, h4⟩ := h
  refine (grown_any wr cb g m L f (f + (n : Int)) h1 hf ht).mono ?_
  rintro e w' ⟨cb', g', rfl, hR, -, hg', hb'⟩
  have hc : cnt m f (f + (n : Int)) = n := by unfold cnt; omega
  have hgz : m ≤ gsz m := by have := h1.pow.pos; unfold gsz; split <;> omega
  rw [hc] at hR
  refine ⟨cb', rfl, ⟨g', gsz m, _, hR, by omega, fun i hi => ?_, Nat.le_trans hb.size hg'⟩, hb.trans (hb'.mono hb.size)⟩
  rw [growK_at m (gsz m) L f (by have := h1.pow.pos; omega) n (by omega) i hi]
  exact h3 i hi

theorem St.get {w wr : World} {cb : Nat} {f : Int} {n k : Nat} (h : St w wr cb f n n) (hk : k < n) :
    Calls Try.prog 14 #[.pointer (some ⟨cb, 0, none⟩), .int .i64 (f + (k : Int))] wr fun e w' => e = .returned (.int .i64 (100 + (k : Int))) ∧ ∃ q, w' = wr.drewN q := by
  obtain ⟨g, m, L, h1, h2, h3, h4⟩ := h
  have := get_any wr cb g m L (f + (k : Int)) h1
  rw [h3 k hk] at this
  exact this

theorem St.size {w wr : World} {cb : Nat} {f : Int} {n : Nat} (h : St w wr cb f n n) :
    Calls Try.prog 13 #[.pointer (some ⟨cb, 0, none⟩)] wr fun e w' => (∃ m : Nat, e = .returned (.int .i64 (m : Int)) ∧ n ≤ m ∧ m ≤ 65536) ∧ w' = wr := by
  obtain ⟨g, m, L, h1, h2, h3, h4⟩ := h
  refine (size_any wr cb g m L h1).mono ?_
  rintro e w' ⟨rfl, rfl⟩
  exact ⟨⟨m, rfl, h2, h1.pow.pos.2⟩, rfl⟩

theorem new_st (w w1 : World) (f : Int) (n : Nat) (hn : n ≤ 64) (hb : Below w.heap.size w w1) : Calls Try.prog 7 #[.int .i64 (n : Int), .slice none 0 0] w1 fun e w' => ∃ cb, e = .returned (.pointer (some ⟨cb, 0, none⟩)) ∧ St w w' cb f n 0 ∧ Below w.heap.size w w' := by
  refine (new_none (n : Int) w1).mono ?_
  rintro e w' ⟨cb, g, m, rfl, hU, hR, h1, h2, h3⟩
  refine ⟨cb, rfl, ⟨g, m, _, hR, ?_, fun i hi => by omega, Nat.le_trans hb.size h2⟩, hb.trans (h3.mono hb.size)⟩
  rcases hU.2.1 with h | h <;> omega

set_option maxRecDepth 100000 in
theorem walk_skip (f n t : Int) (w : World) (h : n < 0 ∨ 64 < n ∨ t < 0 ∨ 5 < t ∨ 1152921504606846976 < f ∨ f < -1152921504606846976) : Calls Try.prog 4 #[.int .i64 f, .int .i64 n, .int .i64 t] w fun e w' => e = .returned (.bool true) ∧ Below w.heap.size w w' := by
  have h' : n < 0 ∨ (¬ n < 0 ∧ 64 < n) ∨ (¬ n < 0 ∧ ¬ 64 < n ∧ t < 0) ∨ (¬ n < 0 ∧ ¬ 64 < n ∧ ¬ t < 0 ∧ 5 < t) ∨ (¬ n < 0 ∧ ¬ 64 < n ∧ ¬ t < 0 ∧ ¬ 5 < t ∧ 1152921504606846976 < f) ∨ (¬ n < 0 ∧ ¬ 64 < n ∧ ¬ t < 0 ∧ ¬ 5 < t ∧ ¬ 1152921504606846976 < f ∧ f < -1152921504606846976) := by omega
  clear h
  rcases h' with h1 | ⟨h1, h2⟩ | ⟨h1, h2, h3⟩ | ⟨h1, h2, h3, h4⟩ | ⟨h1, h2, h3, h4, h5⟩ | ⟨h1, h2, h3, h4, h5, h6⟩
  all_goals
    go_enter Try.func4, Try.ntmps4
    go_wp2_with (go_at_call 6; go_must ((with_reducible refine (alive_any w).mono ?_); rintro e w1 ⟨rfl, hb1⟩))
    go_ret
    exact ⟨rfl, hb1⟩

set_option maxRecDepth 100000 in
set_option maxHeartbeats 2000000 in
theorem walk_main (f : Int) (n t : Nat) (w : World) (hn : n ≤ 64) (ht : t ≤ 5) (hf1 : ¬ 1152921504606846976 < f) (hf2 : ¬ f < -1152921504606846976) : Calls Try.prog 4 #[.int .i64 f, .int .i64 (n : Int), .int .i64 (t : Int)] w fun e w' => e = .returned (.bool true) ∧ Below w.heap.size w w' := by
  have C7 := hide (fun W h => new_st w W f n hn h)
  have HF := hide (show I64 f by unfold I64; omega)
  have HFN := hide (show I64 (f + (n : Int)) by unfold I64; omega)
  go_enter Try.func4, Try.ntmps4
  go_wp2_with (first
    | (go_at_call 6; go_must ((with_reducible refine (alive_any w).mono ?_); rintro e w1 ⟨rfl, hb1⟩; have HB1 := hide hb1; clear hb1))
    | (go_at_call 7; go_must ((with_reducible refine (C7.out w1 HB1.out).mono ?_); rintro e w2 ⟨cb, rfl, hS2, hb2⟩; have HS2 := hide hS2; have HB2 := hide hb2; clear hS2 hb2)))
  go_loopw [9] (fun j wr => Hid (Below w.heap.size w wr) ∧ ∃ k : Nat, k ≤ n ∧ j = .int .i64 (k : Nat) ∧ Hid (St w wr cb f n k)) (fun j _ => n - (intOf j).toNat)
  case atStart => exact ⟨HB2, 0, Nat.zero_le _, rfl, HS2⟩
  case round =>
    obtain ⟨HB, k, hk, rfl, HS⟩ := hrel
    by_cases hlt : k < n
    · have C9 := hide (HS.out.put hlt HB.out)
      go_wp2_with (go_at_call 9; go_must ((with_reducible refine C9.out.mono ?_); rintro e w3 ⟨rfl, hS3, hb3⟩; have HS3 := hide hS3; have HB3 := hide hb3; clear hS3 hb3))
      go_roundw
      case rel => exact ⟨HB3, k + 1, by omega, by go_num, HS3⟩
      case measure => simp [intOf]; omega
    · obtain rfl : k = n := by omega
      go_wp2
      go_loopw [8, 10] (fun r j wr => Hid (Below w.heap.size w wr) ∧ ∃ q cb : Nat, q ≤ t ∧ r = .pointer (some ⟨cb, 0, none⟩) ∧ j = .int .i64 (q : Nat) ∧ Hid (St w wr cb f k k)) (fun _ j _ => t - (intOf j).toNat)
      case atStart => exact ⟨HB, 0, cb, Nat.zero_le _, rfl, rfl, HS⟩
      case round =>
        obtain ⟨HBq, q, cq, hq, rfl, rfl, HSq⟩ := hrel
        by_cases hqt : q < t
        · have C11 := hide (HSq.out.grow HBq.out HF.out HFN.out)
          go_wp2_with (go_at_call 11; go_must ((with_reducible refine C11.out.mono ?_); rintro e w4 ⟨c4, rfl, hS4, hb4⟩; have HS4 := hide hS4; have HB4 := hide hb4; clear hS4 hb4))
          go_roundw
          case rel => exact ⟨HB4, q + 1, c4, by omega, rfl, by go_num, HS4⟩
          case measure => simp [intOf]; omega
        · obtain rfl : q = t := by omega
          go_wp2
          go_loopw [11] (fun j wr => Hid (Below w.heap.size w wr) ∧ ∃ p : Nat, p ≤ k ∧ j = .int .i64 (p : Nat) ∧ Hid (St w wr cq f k k)) (fun j _ => k - (intOf j).toNat)
          case atStart => exact ⟨HBq, 0, Nat.zero_le _, rfl, HSq⟩
          case round =>
            obtain ⟨HBp, p, hp, rfl, HSp⟩ := hrel
            by_cases hpk : p < k
            · have C14 := hide (HSp.out.get hpk)
              go_wp2_with (go_at_call 14; go_must ((with_reducible refine C14.out.mono ?_); rintro e w5 ⟨rfl, u, rfl⟩))
              go_roundw
              case rel => exact ⟨hide (below_drewN HBp.out u), p + 1, by omega, by go_num, hide (HSp.out.drewN u)⟩
              case measure => simp [intOf]; omega
            · obtain rfl : p = k := by omega
              have C13 := hide HSp.out.size
              go_wp2_with (go_at_call 13; go_must ((with_reducible refine C13.out.mono ?_); rintro e w6 ⟨⟨m, rfl, hm1, hm2⟩, rfl⟩; have hm3 : (p : Int) ≤ (m : Int) := (by omega)))
              go_ret
              exact ⟨rfl, HBp.out⟩

/-- RingGrows answers true for every input. -/
theorem walk (f n t : Int) (w : World) (_hf : I64 f) (_hn : I64 n) (_ht : I64 t) : Calls Try.prog 4 #[.int .i64 f, .int .i64 n, .int .i64 t] w fun e w' => e = .returned (.bool true) ∧ Below w.heap.size w w' := by
  by_cases h : n < 0 ∨ 64 < n ∨ t < 0 ∨ 5 < t ∨ 1152921504606846976 < f ∨ f < -1152921504606846976
  · exact walk_skip f n t w h
  · obtain ⟨a, rfl⟩ : ∃ a : Nat, n = (a : Int) := ⟨n.toNat, by omega⟩
    obtain ⟨b, rfl⟩ : ∃ b : Nat, t = (b : Int) := ⟨t.toNat, by omega⟩
    exact walk_main f a b w (by omega) (by omega) (by omega) (by omega)
end ringGrows
end Go.Proofs.Ytcgapdkehmpmbaa
