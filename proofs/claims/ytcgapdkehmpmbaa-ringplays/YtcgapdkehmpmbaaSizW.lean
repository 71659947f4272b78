/- RingSizes answers true. -/
import Derived.Test.YtcgapdkehmpmbaaAlv
import Derived.Test.YtcgapdkehmpmbaaNeR
namespace Go.Proofs.Ytcgapdkehmpmbaa
open Go.RowKit Go.ChangeShapes Go.WideShapes Go.ChangeAt Go.Deep

theorem plc_add {n : Nat} (i : Int) (k : Int) : plc n (i + k * (n : Int)) = plc n i := by
  unfold plc
  rw [Int.add_mul_emod_self_right]

theorem plc_next {n : Nat} (h : 1 ≤ n) (i : Int) (h1 : n ≠ 1) : plc n (i + 1) ≠ plc n i := by
  intro e
  have h2 : ((plc n (i + 1) : Nat) : Int) = ((plc n i : Nat) : Int) := by rw [e]
  rw [plc_cast h, plc_cast h] at h2
  have h3 := Int.emod_emod_of_dvd i (Int.dvd_refl (n : Int))
  have h4 := Int.emod_nonneg i (show (n : Int) ≠ 0 by omega)
  have h5 := Int.emod_lt_of_pos i (show 0 < (n : Int) by omega)
  have e1 := Int.emod_add_mul_ediv i (n : Int)
  have e2 := Int.emod_add_mul_ediv (i + 1) (n : Int)
  have h6 : (n : Int) * ((i + 1) / (n : Int) - i / (n : Int)) = 1 := by
    rw [Int.mul_sub]; omega
  have h7 : (n : Int) ∣ 1 := ⟨_, h6.symm⟩
  have h8 := Int.le_of_dvd (by decide) h7
  omega

theorem one_at {n : Nat} (h : 1 ≤ n) (i v : Int) (p : Nat) (hp : p = plc n i) : ((List.replicate n (0 : Int)).set (plc n i) v).getD p 0 = v := by
  subst hp
  have := plc_lt h i
  simp [List.getD, this]

theorem one_off {n : Nat} (i v : Int) (p : Nat) (hp : p ≠ plc n i) : ((List.replicate n (0 : Int)).set (plc n i) v).getD p 0 = 0 := by
  rw [List.getD, List.getElem?_set_ne (fun e => hp e.symm)]
  by_cases h : p < n
  · simp [h]
  · simp [h]

/-- What New answers where nothing is put at first. -/
theorem new_none (s : Int) (w : World) : Calls Try.prog 7 #[.int .i64 s, .slice none 0 0] w fun e w' => ∃ cb g n, e = .returned (.pointer (some ⟨cb, 0, none⟩)) ∧ UpTo s n ∧ RingP w' cb g n (List.replicate n 0) ∧ w.heap.size ≤ cb ∧ w.heap.size ≤ g ∧ Below w.heap.size w w' := by
  refine (new_any s none 0 0 [] w rfl (by omega) (.inl rfl)).mono ?_
  rintro e w' ⟨cb, g, m, rfl, hU, hR, h1, h2, h3⟩
  exact ⟨cb, g, m, rfl, hU, hR, h1, h2, h3⟩

theorem get_q (w : World) (cb g n : Nat) (L : List Int) (i x : Int) (h : RingP w cb g n L) (hx : L.getD (plc n i) 0 = x) (q : Nat) :
    Calls Try.prog 14 #[.pointer (some ⟨cb, 0, none⟩), .int .i64 i] (w.drewN q) fun e w' => e = .returned (.int .i64 x) ∧ ∃ u, w' = w.drewN u := by
  refine (get_any _ cb g n L i (h.drewN q)).mono ?_
  rintro e w' ⟨rfl, u, rfl⟩
  exact ⟨by rw [hx], q + u, World.drewN_drewN _ _ _⟩

namespace ringSizes

theorem walk_skip (s i v : Int) (w : World) (h : 70000 < s) : Calls Try.prog 5 #[.int .i64 s, .int .i64 i, .int .i64 v] w fun e w' => e = .returned (.bool true) ∧ Below w.heap.size w w' := by
  go_enter Try.func5, Try.ntmps5
  go_wp2_with (go_at_call 6; go_must ((with_reducible refine (alive_any w).mono ?_); rintro e w1 ⟨rfl, hb1⟩))
  go_ret
  exact ⟨rfl, hb1⟩

set_option maxRecDepth 100000 in
set_option maxHeartbeats 2000000 in
theorem walk_main (s i v : Int) (w : World) (h : ¬ 70000 < s) (hi : I64 i) : Calls Try.prog 5 #[.int .i64 s, .int .i64 i, .int .i64 v] w fun e w' => e = .returned (.bool true) ∧ Below w.heap.size w w' := by
  obtain ⟨hi1, hi2⟩ := hi
  have C7 := hide (fun W => new_none s W)
  go_enter Try.func5, Try.ntmps5
  go_wp2_with (first
    | (go_at_call 6; go_must ((with_reducible refine (alive_any w).mono ?_); rintro e w1 ⟨rfl, hb1⟩; have HB1 := hide hb1; clear hb1))
    | (go_at_call 7; go_must ((with_reducible refine (C7.out w1).mono ?_); rintro e w2 ⟨cb, g, n, rfl, hU, hR2, hcb, hg, hb2⟩; have HU := hide hU; have HR2 := hide hR2; have HB2 := hide (HB1.out.trans (hb2.mono HB1.out.size)); have HG := hide (Nat.le_trans HB1.out.size hg); clear hU hR2 hcb hg hb2)))
  go_loopw [9] (fun j wr => w2 = wr ∧ ∃ m : Nat, Hid (Upw s m) ∧ 1 ≤ m ∧ m ≤ 65536 ∧ j = .int .i64 (m : Nat)) (fun j _ => 65536 - (intOf j).toNat)
  case atStart => exact ⟨rfl, 1, hide (Upw.one s), by omega, by omega, rfl⟩
  case round =>
    obtain ⟨rfl, m, HW, hn1, hn2, rfl⟩ := hrel
    by_cases h1 : (m : Int) < s ∧ m < 65536
    · have HW2 := hide (HW.out.next h1.1 h1.2)
      obtain ⟨h1, h2⟩ := h1
      have h2' : (m : Int) < 65536 := by omega
      go_wp2
      go_roundw
      case rel => exact ⟨by first | rfl | trivial, 2 * m, HW2, by omega, by have := HW2.out.1.pos; omega, by go_num⟩
      case measure => simp [intOf]; omega
    · have hmn := (HW.out.last h1).same HU.out
      subst hmn
      have h3 : ¬ (m : Int) < s ∨ ((m : Int) < s ∧ ¬ (m : Int) < 65536) := by omega
      clear h1
      have C13 := hide (size_any w2 cb g m _ HR2.out)
      have C9 := hide (put_any w2 cb g m _ i v HR2.out)
      have C14 := hide (fun W (h : RingP W cb g m ((List.replicate m 0).set (plc m i) v)) => (show Calls Try.prog 14 #[.pointer (some ⟨cb, 0, none⟩), .int .i64 i] W (fun e w' => e = .returned (.int .i64 v) ∧ ∃ q, w' = W.drewN q) from get_q W cb g m _ i v h (one_at hn1 i v _ rfl) 0))
      have C14b := hide (fun W (h : RingP W cb g m ((List.replicate m 0).set (plc m i) v)) => get_q W cb g m _ (i + (m : Int)) v h (one_at hn1 i v _ (by have := plc_add (n := m) i 1; rwa [Int.one_mul] at this)))
      have C14c := hide (fun W (h : RingP W cb g m ((List.replicate m 0).set (plc m i) v)) => get_q W cb g m _ (i - (m : Int)) v h (one_at hn1 i v _ (by have := plc_add (n := m) i (-1); rwa [show i + -1 * (m : Int) = i - (m : Int) by omega] at this)))
      have C14d := hide (fun W (h : RingP W cb g m ((List.replicate m 0).set (plc m i) v)) => get_q W cb g m _ (i + 3 * (m : Int)) v h (one_at hn1 i v _ (plc_add (n := m) i 3)))
      have C14e := hide (fun W (h : RingP W cb g m ((List.replicate m 0).set (plc m i) v)) (h1 : m ≠ 1) => get_q W cb g m _ (i + 1) 0 h (one_off i v _ (plc_next hn1 i h1)))
      have h5 : (4611686018427387904 < i) ∨ (¬ 4611686018427387904 < i ∧ i < -4611686018427387904) ∨ (¬ 4611686018427387904 < i ∧ ¬ i < -4611686018427387904 ∧ ((m : Int) == 1) = true) ∨ (¬ 4611686018427387904 < i ∧ ¬ i < -4611686018427387904 ∧ ((m : Int) == 1) = false ∧ Hid (m ≠ 1)) := by
        by_cases e1 : m = 1
        · have e2 : ((m : Int) == 1) = true := by simp; omega
          by_cases e4 : 4611686018427387904 < i
          · exact .inl e4
          · by_cases e5 : i < -4611686018427387904
            · exact .inr (.inl ⟨e4, e5⟩)
            · exact .inr (.inr (.inl ⟨e4, e5, e2⟩))
        · have e2 : ((m : Int) == 1) = false := by simp; omega
          have e3 := hide e1
          by_cases e4 : 4611686018427387904 < i
          · exact .inl e4
          · by_cases e5 : i < -4611686018427387904
            · exact .inr (.inl ⟨e4, e5⟩)
            · exact .inr (.inr (.inr ⟨e4, e5, e2, e3⟩))
      rcases h3 with h3 | ⟨h3, h4⟩ <;> rcases h5 with h5 | ⟨h5, h6⟩ | ⟨h5, h6, h7⟩ | ⟨h5, h6, h7, H8⟩
      all_goals
        go_wp2_with (first
          | (go_at_call 13; go_must ((with_reducible refine C13.out.mono ?_); rintro e w3 ⟨rfl, rfl⟩))
          | (go_at_call 9; go_must ((with_reducible refine C9.out.mono ?_); rintro e w4 ⟨rfl, hR4, hg4⟩; have HR4 := hide hR4; have HB4 := hide (HB2.out.grown hg4 HB2.out.size (fun k hk => by cases hk; exact HG.out)); clear hR4 hg4))
          | (go_at_call 14; (with_reducible refine (C14.out w4 HR4.out).mono ?_); rintro e w5 ⟨rfl, q5, rfl⟩)
          | (go_at_call 14; (with_reducible refine (C14b.out w4 HR4.out _).mono ?_); rintro e w5 ⟨rfl, q5, rfl⟩)
          | (go_at_call 14; (with_reducible refine (C14c.out w4 HR4.out _).mono ?_); rintro e w5 ⟨rfl, q5, rfl⟩)
          | (go_at_call 14; (with_reducible refine (C14d.out w4 HR4.out _).mono ?_); rintro e w5 ⟨rfl, q5, rfl⟩)
          | (go_at_call 14; (with_reducible refine (C14e.out w4 HR4.out H8.out _).mono ?_); rintro e w5 ⟨rfl, q5, rfl⟩))
        go_ret
        exact ⟨rfl, below_drewN HB4.out _⟩

/-- RingSizes answers true for every input. -/
theorem walk (s i v : Int) (w : World) (_hs : I64 s) (hi : I64 i) (_hv : I64 v) : Calls Try.prog 5 #[.int .i64 s, .int .i64 i, .int .i64 v] w fun e w' => e = .returned (.bool true) ∧ Below w.heap.size w w' := by
  by_cases h : 70000 < s
  · exact walk_skip s i v w h
  · exact walk_main s i v w h hi
end ringSizes
end Go.Proofs.Ytcgapdkehmpmbaa
