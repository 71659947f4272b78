/- The walk of FrameEnds. -/
import Derived.Test.YtpieagcijfkpnaaDoorFrU
namespace Go.Proofs.YtpieagcijfkpnaaDoor
open Go.RowKit Go.ChangeShapes Go.WideShapes Go.ChangeAt Go.Deep
namespace frameEnds

/-- What Pack answers of a frame: an error and nothing, or bytes. -/
def PackAns (k : Nat) (w : World) (e : Ending) (w' : World) : Prop :=
  Below w.heap.size w w' ∧ ((k ≠ 0 ∧ e = .returned (.tuple #[.slice none 0 0, .int .i64 (k : Nat)])) ∨ (k = 0 ∧ ∃ q m cp, 0 < m ∧ e = .returned (.tuple #[.slice (some ⟨q, 0, none⟩) m cp, .int .i64 0])))

theorem pack_ans (f : Fr) (a : Option Addr) (l c : Nat) (w : World) (hok : Txt.ok w ⟨a, l, c, f.load⟩) (hlm : l ≤ 9223372036854775807) (hT : Tab w) : Calls Tryd.prog 9 #[f.val a l c] w (PackAns (wrongL f) w) := by
  by_cases hw : wrongL f = 0
  · refine (packQ f a l c w hok hw hT).mono ?_
    rintro e w' ⟨q, m, cp, rfl, ho, hb⟩
    have hl := ho.len
    rw [seal_len] at hl
    exact ⟨hb, .inr ⟨hw, q, m, cp, by omega, rfl⟩⟩
  · refine (pack_no f a l c w hok.1 hlm hw).mono ?_
    rintro e w' ⟨rfl, hb⟩
    exact ⟨hb, .inl ⟨hw, rfl⟩⟩

theorem zero_ok {w : World} {B q n : Nat} (hn : n ≤ 6000) (ho : w.ownsRow B 5 1 (.slice (some ⟨q, 0, none⟩) n n) n (bV (List.replicate n 0))) : Txt.ok w ⟨some ⟨q, 0, none⟩, n, n, List.replicate n 0⟩ :=
  ⟨by simp, (fun x hx => by rw [List.eq_of_mem_replicate hx]; omega), ⟨Nat.le_refl _, by show n ≤ maxLen; unfold maxLen; omega⟩, (fun h => by cases h), own_reads ho⟩

theorem nil_ok (w : World) : Txt.ok w ⟨none, 0, 0, []⟩ := ⟨rfl, (fun x hx => by cases hx), ⟨Nat.le_refl _, Nat.zero_le _⟩, (fun _ => ⟨rfl, rfl⟩), .inl rfl⟩

set_option maxRecDepth 100000 in
set_option maxHeartbeats 1000000 in
theorem num0 (n : Int) (w : World) (hT : Tab w) : Calls Tryd.prog 6 #[.int .i64 0, .int .i64 n] w fun e w' => e = .returned (.bool true) ∧ Below w.heap.size w w' := by
  have HW := hide (show wrongL ⟨n, 0, 0, 0, 0, []⟩ = if okN 15 n = true then 0 else 1 by simp [wrongL, Fr.ok, show okN 15 0 = true from rfl, show okN 2147483647 0 = true from rfl])
  have HWV := hide (fun (W : World) (hb : Below w.heap.size w W) (o : Obj) => hb.alloc hb.size o)
  have CP := hide (fun W (hb : Below w.heap.size w W) => pack_ans ⟨n, 0, 0, 0, 0, []⟩ none 0 0 W (nil_ok W) (by omega) (hT.below hb))
  simp only [Fr.val] at CP
  by_cases hn : 0 ≤ n ∧ n ≤ 15
  · rw [HW.out, if_pos ((okN_iff 15 n).2 hn)] at CP
    obtain ⟨h0, h1⟩ := hn
    go_enter Tryd.func6, Tryd.ntmps6
    go_wp2_with (first
      | (go_at_call 8; go_must ((with_reducible refine (alive_any w hT).mono ?_); rintro e w1 ⟨rfl, hb1⟩))
      | (go_at_call 9; go_must ((with_reducible refine (CP.out _ (HWV.out w1 hb1 _)).mono ?_); rintro e w2 ⟨hb2, hh⟩; rcases hh with ⟨h, -⟩ | ⟨-, q2, m2, p2, hm2, rfl⟩; (exact absurd rfl h)))
      | (go_at_call 11; go_must ((with_reducible refine (lnum_any _ _).mono ?_); rintro e w4 ⟨rfl, rfl⟩)))
    go_ret
    exact ⟨by first | rfl | exact ret_bool (show (!decide (n ≤ 15)) = true by simp [h1]), (hb1.alloc hb1.size _).trans (hb2.mono (hb1.alloc hb1.size _).size)⟩
  · rw [HW.out, if_neg (fun h => hn ((okN_iff 15 n).1 h))] at CP
    by_cases h0 : 0 ≤ n
    · have h1 : ¬ n ≤ 15 := fun h => hn ⟨h0, h⟩
      clear hn
      go_enter Tryd.func6, Tryd.ntmps6
      go_wp2_with (first
        | (go_at_call 8; go_must ((with_reducible refine (alive_any w hT).mono ?_); rintro e w1 ⟨rfl, hb1⟩))
        | (go_at_call 9; go_must ((with_reducible refine (CP.out _ (HWV.out w1 hb1 _)).mono ?_); rintro e w2 ⟨hb2, hh⟩; rcases hh with ⟨-, rfl⟩ | ⟨h, -⟩; rotate_left; (exact absurd h (by decide))))
        | (go_at_call 11; go_must ((with_reducible refine (lnum_any _ _).mono ?_); rintro e w4 ⟨rfl, rfl⟩)))
      go_ret
      exact ⟨by first | rfl | exact ret_bool (show (!decide (n ≤ 15)) = true by simp [h1]), (hb1.alloc hb1.size _).trans (hb2.mono (hb1.alloc hb1.size _).size)⟩
    · clear hn
      go_enter Tryd.func6, Tryd.ntmps6
      go_wp2_with (first
        | (go_at_call 8; go_must ((with_reducible refine (alive_any w hT).mono ?_); rintro e w1 ⟨rfl, hb1⟩))
        | (go_at_call 9; go_must ((with_reducible refine (CP.out _ (HWV.out w1 hb1 _)).mono ?_); rintro e w2 ⟨hb2, hh⟩; rcases hh with ⟨-, rfl⟩ | ⟨h, -⟩; rotate_left; (exact absurd h (by decide))))
        | (go_at_call 11; go_must ((with_reducible refine (lnum_any _ _).mono ?_); rintro e w4 ⟨rfl, rfl⟩)))
      go_ret
      exact ⟨by first | rfl | exact ret_bool (show (!decide (n ≤ 15)) = true by simp [h1]), (hb1.alloc hb1.size _).trans (hb2.mono (hb1.alloc hb1.size _).size)⟩

set_option maxRecDepth 100000 in
set_option maxHeartbeats 1000000 in
theorem num1 (n : Int) (w : World) (hT : Tab w) : Calls Tryd.prog 6 #[.int .i64 1, .int .i64 n] w fun e w' => e = .returned (.bool true) ∧ Below w.heap.size w w' := by
  have HW := hide (show wrongL ⟨0, n, 0, 0, 0, []⟩ = if okN 15 n = true then 0 else 1 by simp [wrongL, Fr.ok, show okN 15 0 = true from rfl, show okN 2147483647 0 = true from rfl])
  have HWV := hide (fun (W : World) (hb : Below w.heap.size w W) (o : Obj) => hb.alloc hb.size o)
  have CP := hide (fun W (hb : Below w.heap.size w W) => pack_ans ⟨0, n, 0, 0, 0, []⟩ none 0 0 W (nil_ok W) (by omega) (hT.below hb))
  simp only [Fr.val] at CP
  by_cases hn : 0 ≤ n ∧ n ≤ 15
  · rw [HW.out, if_pos ((okN_iff 15 n).2 hn)] at CP
    obtain ⟨h0, h1⟩ := hn
    go_enter Tryd.func6, Tryd.ntmps6
    go_wp2_with (first
      | (go_at_call 8; go_must ((with_reducible refine (alive_any w hT).mono ?_); rintro e w1 ⟨rfl, hb1⟩))
      | (go_at_call 9; go_must ((with_reducible refine (CP.out _ (HWV.out w1 hb1 _)).mono ?_); rintro e w2 ⟨hb2, hh⟩; rcases hh with ⟨h, -⟩ | ⟨-, q2, m2, p2, hm2, rfl⟩; (exact absurd rfl h)))
      | (go_at_call 11; go_must ((with_reducible refine (lnum_any _ _).mono ?_); rintro e w4 ⟨rfl, rfl⟩)))
    go_ret
    exact ⟨by first | rfl | exact ret_bool (show (!decide (n ≤ 15)) = true by simp [h1]), (hb1.alloc hb1.size _).trans (hb2.mono (hb1.alloc hb1.size _).size)⟩
  · rw [HW.out, if_neg (fun h => hn ((okN_iff 15 n).1 h))] at CP
    by_cases h0 : 0 ≤ n
    · have h1 : ¬ n ≤ 15 := fun h => hn ⟨h0, h⟩
      clear hn
      go_enter Tryd.func6, Tryd.ntmps6
      go_wp2_with (first
        | (go_at_call 8; go_must ((with_reducible refine (alive_any w hT).mono ?_); rintro e w1 ⟨rfl, hb1⟩))
        | (go_at_call 9; go_must ((with_reducible refine (CP.out _ (HWV.out w1 hb1 _)).mono ?_); rintro e w2 ⟨hb2, hh⟩; rcases hh with ⟨-, rfl⟩ | ⟨h, -⟩; rotate_left; (exact absurd h (by decide))))
        | (go_at_call 11; go_must ((with_reducible refine (lnum_any _ _).mono ?_); rintro e w4 ⟨rfl, rfl⟩)))
      go_ret
      exact ⟨by first | rfl | exact ret_bool (show (!decide (n ≤ 15)) = true by simp [h1]), (hb1.alloc hb1.size _).trans (hb2.mono (hb1.alloc hb1.size _).size)⟩
    · clear hn
      go_enter Tryd.func6, Tryd.ntmps6
      go_wp2_with (first
        | (go_at_call 8; go_must ((with_reducible refine (alive_any w hT).mono ?_); rintro e w1 ⟨rfl, hb1⟩))
        | (go_at_call 9; go_must ((with_reducible refine (CP.out _ (HWV.out w1 hb1 _)).mono ?_); rintro e w2 ⟨hb2, hh⟩; rcases hh with ⟨-, rfl⟩ | ⟨h, -⟩; rotate_left; (exact absurd h (by decide))))
        | (go_at_call 11; go_must ((with_reducible refine (lnum_any _ _).mono ?_); rintro e w4 ⟨rfl, rfl⟩)))
      go_ret
      exact ⟨by first | rfl | exact ret_bool (show (!decide (n ≤ 15)) = true by simp [h1]), (hb1.alloc hb1.size _).trans (hb2.mono (hb1.alloc hb1.size _).size)⟩

set_option maxRecDepth 100000 in
set_option maxHeartbeats 1000000 in
theorem num2 (n : Int) (w : World) (hT : Tab w) : Calls Tryd.prog 6 #[.int .i64 2, .int .i64 n] w fun e w' => e = .returned (.bool true) ∧ Below w.heap.size w w' := by
  have HW := hide (show wrongL ⟨0, 0, n, 0, 0, []⟩ = if okN 2147483647 n = true then 0 else 1 by simp [wrongL, Fr.ok, show okN 15 0 = true from rfl, show okN 2147483647 0 = true from rfl])
  have HWV := hide (fun (W : World) (hb : Below w.heap.size w W) (o : Obj) => hb.alloc hb.size o)
  have CP := hide (fun W (hb : Below w.heap.size w W) => pack_ans ⟨0, 0, n, 0, 0, []⟩ none 0 0 W (nil_ok W) (by omega) (hT.below hb))
  simp only [Fr.val] at CP
  by_cases hn : 0 ≤ n ∧ n ≤ 2147483647
  · rw [HW.out, if_pos ((okN_iff 2147483647 n).2 hn)] at CP
    obtain ⟨h0, h1⟩ := hn
    go_enter Tryd.func6, Tryd.ntmps6
    go_wp2_with (first
      | (go_at_call 8; go_must ((with_reducible refine (alive_any w hT).mono ?_); rintro e w1 ⟨rfl, hb1⟩))
      | (go_at_call 9; go_must ((with_reducible refine (CP.out _ (HWV.out w1 hb1 _)).mono ?_); rintro e w2 ⟨hb2, hh⟩; rcases hh with ⟨h, -⟩ | ⟨-, q2, m2, p2, hm2, rfl⟩; (exact absurd rfl h)))
      | (go_at_call 11; go_must ((with_reducible refine (lnum_any _ _).mono ?_); rintro e w4 ⟨rfl, rfl⟩)))
    go_ret
    exact ⟨by first | rfl | exact ret_bool (show (!decide (n ≤ 2147483647)) = true by simp [h1]), (hb1.alloc hb1.size _).trans (hb2.mono (hb1.alloc hb1.size _).size)⟩
  · rw [HW.out, if_neg (fun h => hn ((okN_iff 2147483647 n).1 h))] at CP
    by_cases h0 : 0 ≤ n
    · have h1 : ¬ n ≤ 2147483647 := fun h => hn ⟨h0, h⟩
      clear hn
      go_enter Tryd.func6, Tryd.ntmps6
      go_wp2_with (first
        | (go_at_call 8; go_must ((with_reducible refine (alive_any w hT).mono ?_); rintro e w1 ⟨rfl, hb1⟩))
        | (go_at_call 9; go_must ((with_reducible refine (CP.out _ (HWV.out w1 hb1 _)).mono ?_); rintro e w2 ⟨hb2, hh⟩; rcases hh with ⟨-, rfl⟩ | ⟨h, -⟩; rotate_left; (exact absurd h (by decide))))
        | (go_at_call 11; go_must ((with_reducible refine (lnum_any _ _).mono ?_); rintro e w4 ⟨rfl, rfl⟩)))
      go_ret
      exact ⟨by first | rfl | exact ret_bool (show (!decide (n ≤ 2147483647)) = true by simp [h1]), (hb1.alloc hb1.size _).trans (hb2.mono (hb1.alloc hb1.size _).size)⟩
    · clear hn
      go_enter Tryd.func6, Tryd.ntmps6
      go_wp2_with (first
        | (go_at_call 8; go_must ((with_reducible refine (alive_any w hT).mono ?_); rintro e w1 ⟨rfl, hb1⟩))
        | (go_at_call 9; go_must ((with_reducible refine (CP.out _ (HWV.out w1 hb1 _)).mono ?_); rintro e w2 ⟨hb2, hh⟩; rcases hh with ⟨-, rfl⟩ | ⟨h, -⟩; rotate_left; (exact absurd h (by decide))))
        | (go_at_call 11; go_must ((with_reducible refine (lnum_any _ _).mono ?_); rintro e w4 ⟨rfl, rfl⟩)))
      go_ret
      exact ⟨by first | rfl | exact ret_bool (show (!decide (n ≤ 2147483647)) = true by simp [h1]), (hb1.alloc hb1.size _).trans (hb2.mono (hb1.alloc hb1.size _).size)⟩

set_option maxRecDepth 100000 in
set_option maxHeartbeats 1000000 in
theorem num3 (n : Int) (w : World) (hT : Tab w) : Calls Tryd.prog 6 #[.int .i64 3, .int .i64 n] w fun e w' => e = .returned (.bool true) ∧ Below w.heap.size w w' := by
  have HW := hide (show wrongL ⟨0, 0, 0, n, 0, []⟩ = if okN 2147483647 n = true then 0 else 1 by simp [wrongL, Fr.ok, show okN 15 0 = true from rfl, show okN 2147483647 0 = true from rfl])
  have HWV := hide (fun (W : World) (hb : Below w.heap.size w W) (o : Obj) => hb.alloc hb.size o)
  have CP := hide (fun W (hb : Below w.heap.size w W) => pack_ans ⟨0, 0, 0, n, 0, []⟩ none 0 0 W (nil_ok W) (by omega) (hT.below hb))
  simp only [Fr.val] at CP
  by_cases hn : 0 ≤ n ∧ n ≤ 2147483647
  · rw [HW.out, if_pos ((okN_iff 2147483647 n).2 hn)] at CP
    obtain ⟨h0, h1⟩ := hn
    go_enter Tryd.func6, Tryd.ntmps6
    go_wp2_with (first
      | (go_at_call 8; go_must ((with_reducible refine (alive_any w hT).mono ?_); rintro e w1 ⟨rfl, hb1⟩))
      | (go_at_call 9; go_must ((with_reducible refine (CP.out _ (HWV.out w1 hb1 _)).mono ?_); rintro e w2 ⟨hb2, hh⟩; rcases hh with ⟨h, -⟩ | ⟨-, q2, m2, p2, hm2, rfl⟩; (exact absurd rfl h)))
      | (go_at_call 11; go_must ((with_reducible refine (lnum_any _ _).mono ?_); rintro e w4 ⟨rfl, rfl⟩)))
    go_ret
    exact ⟨by first | rfl | exact ret_bool (show (!decide (n ≤ 2147483647)) = true by simp [h1]), (hb1.alloc hb1.size _).trans (hb2.mono (hb1.alloc hb1.size _).size)⟩
  · rw [HW.out, if_neg (fun h => hn ((okN_iff 2147483647 n).1 h))] at CP
    by_cases h0 : 0 ≤ n
    · have h1 : ¬ n ≤ 2147483647 := fun h => hn ⟨h0, h⟩
      clear hn
      go_enter Tryd.func6, Tryd.ntmps6
      go_wp2_with (first
        | (go_at_call 8; go_must ((with_reducible refine (alive_any w hT).mono ?_); rintro e w1 ⟨rfl, hb1⟩))
        | (go_at_call 9; go_must ((with_reducible refine (CP.out _ (HWV.out w1 hb1 _)).mono ?_); rintro e w2 ⟨hb2, hh⟩; rcases hh with ⟨-, rfl⟩ | ⟨h, -⟩; rotate_left; (exact absurd h (by decide))))
        | (go_at_call 11; go_must ((with_reducible refine (lnum_any _ _).mono ?_); rintro e w4 ⟨rfl, rfl⟩)))
      go_ret
      exact ⟨by first | rfl | exact ret_bool (show (!decide (n ≤ 2147483647)) = true by simp [h1]), (hb1.alloc hb1.size _).trans (hb2.mono (hb1.alloc hb1.size _).size)⟩
    · clear hn
      go_enter Tryd.func6, Tryd.ntmps6
      go_wp2_with (first
        | (go_at_call 8; go_must ((with_reducible refine (alive_any w hT).mono ?_); rintro e w1 ⟨rfl, hb1⟩))
        | (go_at_call 9; go_must ((with_reducible refine (CP.out _ (HWV.out w1 hb1 _)).mono ?_); rintro e w2 ⟨hb2, hh⟩; rcases hh with ⟨-, rfl⟩ | ⟨h, -⟩; rotate_left; (exact absurd h (by decide))))
        | (go_at_call 11; go_must ((with_reducible refine (lnum_any _ _).mono ?_); rintro e w4 ⟨rfl, rfl⟩)))
      go_ret
      exact ⟨by first | rfl | exact ret_bool (show (!decide (n ≤ 2147483647)) = true by simp [h1]), (hb1.alloc hb1.size _).trans (hb2.mono (hb1.alloc hb1.size _).size)⟩

set_option maxRecDepth 100000 in
set_option maxHeartbeats 1000000 in
theorem num4 (n : Int) (w : World) (hT : Tab w) : Calls Tryd.prog 6 #[.int .i64 4, .int .i64 n] w fun e w' => e = .returned (.bool true) ∧ Below w.heap.size w w' := by
  have HW := hide (show wrongL ⟨0, 0, 0, 0, n, []⟩ = if okN 2147483647 n = true then 0 else 1 by simp [wrongL, Fr.ok, show okN 15 0 = true from rfl, show okN 2147483647 0 = true from rfl])
  have HWV := hide (fun (W : World) (hb : Below w.heap.size w W) (o : Obj) => hb.alloc hb.size o)
  have CP := hide (fun W (hb : Below w.heap.size w W) => pack_ans ⟨0, 0, 0, 0, n, []⟩ none 0 0 W (nil_ok W) (by omega) (hT.below hb))
  simp only [Fr.val] at CP
  by_cases hn : 0 ≤ n ∧ n ≤ 2147483647
  · rw [HW.out, if_pos ((okN_iff 2147483647 n).2 hn)] at CP
    obtain ⟨h0, h1⟩ := hn
    go_enter Tryd.func6, Tryd.ntmps6
    go_wp2_with (first
      | (go_at_call 8; go_must ((with_reducible refine (alive_any w hT).mono ?_); rintro e w1 ⟨rfl, hb1⟩))
      | (go_at_call 9; go_must ((with_reducible refine (CP.out _ (HWV.out w1 hb1 _)).mono ?_); rintro e w2 ⟨hb2, hh⟩; rcases hh with ⟨h, -⟩ | ⟨-, q2, m2, p2, hm2, rfl⟩; (exact absurd rfl h)))
      | (go_at_call 11; go_must ((with_reducible refine (lnum_any _ _).mono ?_); rintro e w4 ⟨rfl, rfl⟩)))
    go_ret
    exact ⟨by first | rfl | exact ret_bool (show (!decide (n ≤ 2147483647)) = true by simp [h1]), (hb1.alloc hb1.size _).trans (hb2.mono (hb1.alloc hb1.size _).size)⟩
  · rw [HW.out, if_neg (fun h => hn ((okN_iff 2147483647 n).1 h))] at CP
    by_cases h0 : 0 ≤ n
    · have h1 : ¬ n ≤ 2147483647 := fun h => hn ⟨h0, h⟩
      clear hn
      go_enter Tryd.func6, Tryd.ntmps6
      go_wp2_with (first
        | (go_at_call 8; go_must ((with_reducible refine (alive_any w hT).mono ?_); rintro e w1 ⟨rfl, hb1⟩))
        | (go_at_call 9; go_must ((with_reducible refine (CP.out _ (HWV.out w1 hb1 _)).mono ?_); rintro e w2 ⟨hb2, hh⟩; rcases hh with ⟨-, rfl⟩ | ⟨h, -⟩; rotate_left; (exact absurd h (by decide))))
        | (go_at_call 11; go_must ((with_reducible refine (lnum_any _ _).mono ?_); rintro e w4 ⟨rfl, rfl⟩)))
      go_ret
      exact ⟨by first | rfl | exact ret_bool (show (!decide (n ≤ 2147483647)) = true by simp [h1]), (hb1.alloc hb1.size _).trans (hb2.mono (hb1.alloc hb1.size _).size)⟩
    · clear hn
      go_enter Tryd.func6, Tryd.ntmps6
      go_wp2_with (first
        | (go_at_call 8; go_must ((with_reducible refine (alive_any w hT).mono ?_); rintro e w1 ⟨rfl, hb1⟩))
        | (go_at_call 9; go_must ((with_reducible refine (CP.out _ (HWV.out w1 hb1 _)).mono ?_); rintro e w2 ⟨hb2, hh⟩; rcases hh with ⟨-, rfl⟩ | ⟨h, -⟩; rotate_left; (exact absurd h (by decide))))
        | (go_at_call 11; go_must ((with_reducible refine (lnum_any _ _).mono ?_); rintro e w4 ⟨rfl, rfl⟩)))
      go_ret
      exact ⟨by first | rfl | exact ret_bool (show (!decide (n ≤ 2147483647)) = true by simp [h1]), (hb1.alloc hb1.size _).trans (hb2.mono (hb1.alloc hb1.size _).size)⟩

set_option maxRecDepth 100000 in
set_option maxHeartbeats 1000000 in
theorem out6 (x n : Int) (w : World) (hT : Tab w) (hx : x < 0 ∨ 4 < x) (hn : n < 0 ∨ 6000 < n) : Calls Tryd.prog 6 #[.int .i64 x, .int .i64 n] w fun e w' => e = .returned (.bool true) ∧ Below w.heap.size w w' := by
  have hx0 : (x == 0) = false := by rw [beq_eq_false_iff_ne]; omega
  have hx1 : (x == 1) = false := by rw [beq_eq_false_iff_ne]; omega
  have hx2 : (x == 2) = false := by rw [beq_eq_false_iff_ne]; omega
  have hx3 : (x == 3) = false := by rw [beq_eq_false_iff_ne]; omega
  have hx4 : (x == 4) = false := by rw [beq_eq_false_iff_ne]; omega
  by_cases h0 : n < 0
  · go_enter Tryd.func6, Tryd.ntmps6
    go_wp2_with (first
      | (go_at_call 8; go_must ((with_reducible refine (alive_any w hT).mono ?_); rintro e w1 ⟨rfl, hb1⟩)))
    go_ret
    exact ⟨rfl, hb1.alloc hb1.size _⟩
  · have h1 : 6000 < n := by omega
    go_enter Tryd.func6, Tryd.ntmps6
    go_wp2_with (first
      | (go_at_call 8; go_must ((with_reducible refine (alive_any w hT).mono ?_); rintro e w1 ⟨rfl, hb1⟩)))
    go_ret
    exact ⟨rfl, hb1.alloc hb1.size _⟩

theorem box5 {w : World} {g : Nat} {x0 x1 x2 x3 x4 x5 : Value} (h : BoxL w g [x0, x1, x2, x3, x4, x5]) (v : Value) : BoxL (w.setCell ⟨g, 5, none⟩ v) g [x0, x1, x2, x3, x4, v] := h.put 5 v

set_option maxRecDepth 100000 in
set_option maxHeartbeats 1000000 in
theorem load (x : Int) (n : Nat) (w : World) (hT : Tab w) (hx : x < 0 ∨ 4 < x) (hn : n ≤ 6000) : Calls Tryd.prog 6 #[.int .i64 x, .int .i64 (n : Nat)] w fun e w' => e = .returned (.bool true) ∧ Below w.heap.size w w' := by
  obtain ⟨i0, hi, hz0, hz1, hz2⟩ := info_parts Tryd.info5
  have hx0 : (x == 0) = false := by rw [beq_eq_false_iff_ne]; omega
  have hx1 : (x == 1) = false := by rw [beq_eq_false_iff_ne]; omega
  have hx2 : (x == 2) = false := by rw [beq_eq_false_iff_ne]; omega
  have hx3 : (x == 3) = false := by rw [beq_eq_false_iff_ne]; omega
  have hx4 : (x == 4) = false := by rw [beq_eq_false_iff_ne]; omega
  have HW := hide (show wrongL ⟨0, 0, 0, 0, 0, List.replicate n 0⟩ = if 4096 < n then 3 else 0 by simp [wrongL, Fr.ok, show okN 15 0 = true from rfl, show okN 2147483647 0 = true from rfl])
  have HZ0 := hide (fun W => BoxL.new W [.int .i64 0, .int .i64 0, .int .i64 0, .int .i64 0, .int .i64 0, .slice none 0 0] 24)
  have CP := hide (fun W q (hb : Below w.heap.size w W) (hok : Txt.ok W ⟨some ⟨q, 0, none⟩, n, n, List.replicate n 0⟩) => pack_ans ⟨0, 0, 0, 0, 0, List.replicate n 0⟩ (some ⟨q, 0, none⟩) n n W hok (by omega) (hT.below hb))
  simp only [Fr.val] at CP
  have h0 : ¬ ((n : Int) < 0) := by omega
  have h1 : ¬ (6000 < (n : Int)) := by omega
  by_cases h4 : n ≤ 4096
  · rw [HW.out, if_neg (by omega)] at CP
    have h4' : (n : Int) ≤ 4096 := by omega
    have h0' : (0 : Int) ≤ (n : Int) := by omega
    go_enter Tryd.func6, Tryd.ntmps6
    go_wp2_with (first
      | (go_at_call 8; go_must ((with_reducible refine (alive_any w hT).mono ?_); rintro e w1 ⟨rfl, hb1⟩; have HB1 := hide (hb1.alloc hb1.size (.cells [.int .i64 0, .int .i64 0, .int .i64 0, .int .i64 0, .int .i64 0, .slice none 0 0].toArray 24)); have HX1 := hide (HZ0.out w1); obtain ⟨V, hV⟩ : ∃ V, V = w1.alloc (.cells [.int .i64 0, .int .i64 0, .int .i64 0, .int .i64 0, .int .i64 0, .slice none 0 0].toArray 24) := ⟨_, rfl⟩; rw [← hV] at HB1 HX1; have HV := hide hV; clear hV))
      | (at_make; go_must (rw [← HV.out]; refine wpList_make_full _ rfl (.tmp 22) (.tmp 22) 22 rfl V.heap.size 5 i0 (.int .u8 0) 1 Tryd.underlying22 hi hz0 hz1 .i64 .i64 _ _ n rfl rfl rfl rfl (by rw [hz2]; omega) (by unfold maxLen; omega) (Nat.le_refl _) ?_; intro w2 ho2 hg2; rw [made_zeros] at ho2; have hVb : Below V.heap.size V w2 := (Below.refl _ _).grown hg2 (Nat.le_refl _) (fun k hk => by cases hk); have HX2 := hide (HX1.out.below hVb); have HB2 := hide (HB1.out.trans (hVb.mono HB1.out.size)); obtain ⟨⟨y0, z0⟩, ⟨y1, z1⟩, ⟨y2, z2⟩, ⟨y3, z3⟩, ⟨y4, z4⟩, ⟨y5, z5⟩⟩ := HX2.out.six; have HO2 := hide (own_put_lo (g := w1.heap.size) (o := 5) (u := .slice (some ⟨V.heap.size, 0, none⟩) n n) ho2 HX1.out.1); have HB3 := hide (below_put (g := w1.heap.size) (o := 5) (v := .slice (some ⟨V.heap.size, 0, none⟩) n n) HB2.out hb1.size)))
      | (go_at_call 9; go_must ((with_reducible refine (CP.out _ _ HB3.out (zero_ok hn HO2.out)).mono ?_); rintro e w5 ⟨hb5, hh⟩; rcases hh with ⟨h, -⟩ | ⟨-, q2, m2, p2, hm2, rfl⟩; (exact absurd rfl h)))
      | (go_at_call 11; go_must ((with_reducible refine (lnum_any _ _).mono ?_); rintro e w4 ⟨rfl, rfl⟩)))
    go_ret
    exact ⟨by first | rfl | exact ret_bool (show (!decide ((n : Int) ≤ 4096)) = true by simp [h4']), HB3.out.trans (hb5.mono HB3.out.size)⟩
  · rw [HW.out, if_pos (by omega)] at CP
    have h4' : ¬ (n : Int) ≤ 4096 := by omega
    have h0' : (0 : Int) ≤ (n : Int) := by omega
    go_enter Tryd.func6, Tryd.ntmps6
    go_wp2_with (first
      | (go_at_call 8; go_must ((with_reducible refine (alive_any w hT).mono ?_); rintro e w1 ⟨rfl, hb1⟩; have HB1 := hide (hb1.alloc hb1.size (.cells [.int .i64 0, .int .i64 0, .int .i64 0, .int .i64 0, .int .i64 0, .slice none 0 0].toArray 24)); have HX1 := hide (HZ0.out w1); obtain ⟨V, hV⟩ : ∃ V, V = w1.alloc (.cells [.int .i64 0, .int .i64 0, .int .i64 0, .int .i64 0, .int .i64 0, .slice none 0 0].toArray 24) := ⟨_, rfl⟩; rw [← hV] at HB1 HX1; have HV := hide hV; clear hV))
      | (at_make; go_must (rw [← HV.out]; refine wpList_make_full _ rfl (.tmp 22) (.tmp 22) 22 rfl V.heap.size 5 i0 (.int .u8 0) 1 Tryd.underlying22 hi hz0 hz1 .i64 .i64 _ _ n rfl rfl rfl rfl (by rw [hz2]; omega) (by unfold maxLen; omega) (Nat.le_refl _) ?_; intro w2 ho2 hg2; rw [made_zeros] at ho2; have hVb : Below V.heap.size V w2 := (Below.refl _ _).grown hg2 (Nat.le_refl _) (fun k hk => by cases hk); have HX2 := hide (HX1.out.below hVb); have HB2 := hide (HB1.out.trans (hVb.mono HB1.out.size)); obtain ⟨⟨y0, z0⟩, ⟨y1, z1⟩, ⟨y2, z2⟩, ⟨y3, z3⟩, ⟨y4, z4⟩, ⟨y5, z5⟩⟩ := HX2.out.six; have HO2 := hide (own_put_lo (g := w1.heap.size) (o := 5) (u := .slice (some ⟨V.heap.size, 0, none⟩) n n) ho2 HX1.out.1); have HB3 := hide (below_put (g := w1.heap.size) (o := 5) (v := .slice (some ⟨V.heap.size, 0, none⟩) n n) HB2.out hb1.size)))
      | (go_at_call 9; go_must ((with_reducible refine (CP.out _ _ HB3.out (zero_ok hn HO2.out)).mono ?_); rintro e w5 ⟨hb5, hh⟩; rcases hh with ⟨-, rfl⟩ | ⟨h, -⟩; rotate_left; (exact absurd h (by decide))))
      | (go_at_call 11; go_must ((with_reducible refine (lnum_any _ _).mono ?_); rintro e w4 ⟨rfl, rfl⟩)))
    go_ret
    exact ⟨by first | rfl | exact ret_bool (show (!decide ((n : Int) ≤ 4096)) = true by simp [h4']), HB3.out.trans (hb5.mono HB3.out.size)⟩

theorem walk (x n : Int) (w : World) (hT : Tab w) (_hx : -9223372036854775808 ≤ x ∧ x ≤ 9223372036854775807) (_hn : -9223372036854775808 ≤ n ∧ n ≤ 9223372036854775807) :
    Calls Tryd.prog 6 #[.int .i64 x, .int .i64 n] w fun e w' => e = .returned (.bool true) ∧ Below w.heap.size w w' := by
  by_cases hx : x < 0 ∨ 4 < x
  · by_cases hn : n < 0 ∨ 6000 < n
    · exact out6 x n w hT hx hn
    · obtain ⟨m, rfl⟩ : ∃ m : Nat, n = (m : Int) := ⟨n.toNat, by omega⟩
      exact load x m w hT hx (by omega)
  · have : x = 0 ∨ x = 1 ∨ x = 2 ∨ x = 3 ∨ x = 4 := by omega
    rcases this with rfl | rfl | rfl | rfl | rfl
    · exact num0 n w hT
    · exact num1 n w hT
    · exact num2 n w hT
    · exact num3 n w hT
    · exact num4 n w hT
end frameEnds
end Go.Proofs.YtpieagcijfkpnaaDoor
