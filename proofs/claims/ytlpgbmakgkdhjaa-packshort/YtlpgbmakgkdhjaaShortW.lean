/- The walk of PackShort. -/
import Derived.Test.YtlpgbmakgkdhjaaTxt
namespace Go.Proofs.Ytlpgbmakgkdhjaa
namespace packShort
open Go.RowKit

theorem short_own {w3 : World} {B L : Nat} {v3 : Value} {n : Int} (h1 : -9223372036854775808 ≤ n) (h2 : n ≤ 9223372036854775807) (hL : L = (enc (foldN n)).length) (hL1 : 1 ≤ L)
    (ho3 : w3.ownsRow B 5 1 v3 L (bV (enc (foldN n)))) (hnn : v3 = .slice none 0 0 ↔ L = 0) :
    ∃ g2 cap2 l x, v3 = .slice (some ⟨g2, 0, none⟩) L cap2 ∧ L ≤ cap2 ∧ B ≤ g2 ∧ Hid (enc (foldN n) = l ++ [x]) ∧ x < 128 ∧ Hid (∀ y ∈ l, 128 ≤ y ∧ y < 256) ∧ Hid (L = l.length + 1) ∧
      w3.ownsRow B 5 1 (.slice (some ⟨g2, 0, none⟩) L cap2) L (bV (l ++ [x])) ∧ w3.cell? ⟨g2, L - 1, none⟩ = some (.int .u8 (x : Nat)) ∧ w3.frozen? ⟨g2, L - 1, none⟩ = false := by
  obtain ⟨l, x, e, hx, hy⟩ := encF_shape 9 (foldN n) (foldN_lt n h1 h2)
  have e' : enc (foldN n) = l ++ [x] := e
  obtain ⟨g2, cap2, hv, hB, _, hc, hr⟩ := reads_own ho3 (fun h => by have := hnn.1 h; omega)
  rw [← hL] at hv
  subst hv
  rw [e'] at ho3 hr hL
  have hLl : L = l.length + 1 := by simpa using hL
  refine ⟨g2, cap2, l, x, rfl, hc, hB, e', hx, hy, hLl, ho3, ?_, ho3.frozenAt _⟩
  rw [ho3.cellAt (L - 1) (by omega)]
  simp [bV, hLl]

theorem and7_i64 (a : Int) : ∃ j : Nat, j ≤ 7 ∧ bits .and .i64 a 7 = (j : Int) := by
  refine ⟨(BitVec.ofInt 64 a).toNat &&& 7, Nat.and_le_right, ?_⟩
  show IntKind.i64.wrap ((BitVec.ofInt 64 a &&& BitVec.ofInt 64 7).toNat : Int) = _
  have h7 : (BitVec.ofInt 64 7).toNat = 7 := by decide
  rw [BitVec.toNat_and, h7]
  have h := (Nat.and_le_right : (BitVec.ofInt 64 a).toNat &&& 7 ≤ 7)
  generalize (BitVec.ofInt 64 a).toNat &&& 7 = k at *
  simp [IntKind.wrap, IntKind.bits, IntKind.signed]
  omega

theorem all_snoc {zs : List Nat} (h : ∀ y ∈ zs, 128 ≤ y ∧ y < 256) (b : Nat) (hb : 128 ≤ b ∧ b < 256) : ∀ y ∈ zs ++ [b], 128 ≤ y ∧ y < 256 := by
  intro y hy
  rcases List.mem_append.1 hy with h' | h'
  · exact h y h'
  · simp at h'; omega

theorem byt_snoc {zs : List Nat} (h : ∀ y ∈ zs, 128 ≤ y ∧ y < 256) : Byt (zs ++ [0]) := by
  intro y hy
  rcases List.mem_append.1 hy with h' | h'
  · exact (h y h').2
  · simp at h'; omega

theorem rd_nought {zs : List Nat} (h : ∀ y ∈ zs, 128 ≤ y ∧ y < 256) (hn : zs ≠ []) (bad : Bool) : rdInt (zs ++ [0]) bad = (0, [], true) := by
  unfold rdInt dec
  rw [decI_nought 10 0 0 zs (fun y hy => (h y hy).1) (.inr hn)]

theorem rd_open {zs : List Nat} (h : ∀ y ∈ zs, 128 ≤ y ∧ y < 256) (bad : Bool) : rdInt zs bad = (0, [], true) := by
  unfold rdInt dec
  rw [decI_open 10 0 0 zs (fun y hy => (h y hy).1)]

theorem curInt_bad (B T c : Nat) (bs : List Nat) (bad : Bool) (w : World) (h : Cur w B T c bs bad) (hr : rdInt bs bad = (0, [], true)) :
    Calls Try.prog 13 #[.pointer (some ⟨c, 0, none⟩)] w fun e w' => e = .returned (.int .i64 0) ∧ Cur w' B T c [] true ∧ w.grownBy w' (some c) := by
  have h' := curInt_any B T c bs bad w h
  rw [hr] at h'
  exact h'

theorem reads_init {w : World} {g : Nat} {l : List Nat} {x : Nat} (h : Reads w (some ⟨g, 0, none⟩) (bV (l ++ [x]))) : Reads w (some ⟨g, 0, none⟩) (bV l) := by
  have := h.take l.length
  simpa using this

set_option maxRecDepth 100000 in
set_option maxHeartbeats 400000 in
theorem walk (n more : Int) (h1 : -9223372036854775808 ≤ n) (h2 : n ≤ 9223372036854775807) (w : World) :
    Calls Try.prog 6 #[.int .i64 n, .int .i64 more] w fun e w' => e = .returned (.bool true) ∧ Below w.heap.size w w' := by
  obtain ⟨i0, hi, hz0, hz1, hz2⟩ := info_parts Try.info5
  go_enter Try.func6, Try.ntmps6
  go_wp2_with (first | (go_at_call 9; refine (alive_any _).mono ?_; rintro e w1 ⟨rfl, hb1⟩) | (go_at_call 10; go_must (refine (int_one _ _ n ⟨h1, h2⟩ (reads_new w1 (iV [n]) 3)).mono ?_; rintro e w2 ⟨g, cap, L, rfl, hL, hL1, hL10, hLc, hg, hr, hb2⟩)) | (at_builtin; go_must (refine wpList_append_own _ rfl (.const (.slice none 0 0)) (.tmp 29) 22 rfl w2.heap.size 5 i0 (.int .u8 0) 1 1 Try.underlying22 hi hz0 hz1 hz2 rfl (by decide) (.slice none 0 0) 0 [] rfl (World.ownsRow_nil _ _ _ _) ⟨g, 0, none⟩ L cap (bV (enc (foldN n))) rfl (by rw [bV_length, ← hL.out]; omega) (reads_add hr) (bV_one _) (by unfold maxLen; omega) (by omega) (Nat.le_refl _) ?_; intro v3 w3 ho3 hg3 hnn; simp only [Nat.zero_add, List.nil_append, true_and] at ho3 hnn; obtain ⟨g2, cap2, l, x, rfl, hc2, hBg, hE, hx, hy, hLl, ho4, hcell, hfr⟩ := short_own h1 h2 hL.out hL1 ho3 hnn; clear ho3 hnn)))
  have hbw : Below w.heap.size w w2 := (hb1.alloc hb1.size _).trans (hb2.mono (by have := hb1.size; simp; omega))
  obtain ⟨j, hj7, hj⟩ := and7_i64 more
  obtain ⟨zs, hzl, hzy, hoz⟩ := short_or ho4 hx hy.out hLl.out
  have hbz : Below w2.heap.size w2 (w3.setCell ⟨g2, L - 1, none⟩ (.int .u8 (bits .or .u8 (x : Nat) 128))) := ((Below.refl _ _).grown hg3 (Nat.le_refl _) (fun k hk => by cases hk)).setCell hBg _
  clear hb1 hb2 hg ho4 hcell hfr hg3
  go_loopw [7, 8] (fun v i wr => ∃ (k : Nat) (zs : List Nat), i = .int .i64 (k : Nat) ∧ k ≤ j ∧ zs.length ≤ 10 + k ∧ Hid (∀ y ∈ zs, 128 ≤ y ∧ y < 256) ∧ Hid (zs ≠ []) ∧ wr.ownsRow w2.heap.size 5 1 v zs.length (bV zs) ∧ Below w2.heap.size w2 wr) (fun _ i _ => j - (intOf i).toNat)
  case atStart => exact ⟨0, zs, rfl, by omega, by omega, hzy, hide (by intro h; rw [h] at hzl; simp at hzl; omega), by rw [hzl]; exact hoz, hbz⟩
  case round =>
    obtain ⟨k, zs, rfl, hk, hzl, hzy, hzn, ho, hbel⟩ := hrel
    have hsz := hbel.size
    by_cases hlt : k < j
    · go_wp2_with (at_builtin; go_must (refine wpList_append_own _ rfl (.tmp 49) (.tmp 50) 22 rfl w2.heap.size 5 i0 (.int .u8 0) 1 1 Try.underlying22 hi hz0 hz1 hz2 rfl (by decide) u7 _ _ rfl (ho.alloc _) ⟨wr.heap.size, 0, none⟩ 1 1 [.int .u8 ((128 : Nat) : Int)] rfl rfl (cell_one_new _ _ _) (by simp [Value.oneCell']) (by unfold maxLen; omega) (by omega) (by simp; omega) ?_; intro v5 w5 ho5 hg5 _))
      have R := own_step ho hbel (Nat.le_refl _) ho5 rfl hg5
      go_roundw
      case rel => exact ⟨k + 1, zs ++ [128], by go_num, by omega, by simp; omega, hide (all_snoc hzy.out 128 (by omega)), hide (by simp), by simpa using R.1, R.2⟩
      case measure => simp [intOf]; omega
    · go_wp2_with (at_builtin; go_must (refine wpList_append_own _ rfl (.tmp 52) (.tmp 53) 22 rfl w2.heap.size 5 i0 (.int .u8 0) 1 1 Try.underlying22 hi hz0 hz1 hz2 rfl (by decide) u7 _ _ rfl (ho.alloc _) ⟨wr.heap.size, 0, none⟩ 1 1 [.int .u8 ((0 : Nat) : Int)] rfl rfl (cell_one_new _ _ _) (by simp [Value.oneCell']) (by unfold maxLen; omega) (by omega) (by simp; omega) ?_; intro v5 w5 ho5 hg5 hn5; have R := own_step ho hbel (Nat.le_refl _) ho5 rfl hg5; have hn5' := hide hn5; clear hn5 ho5 hg5))
      obtain ⟨g5, cap5, m5, rfl, hm5, hm5', hB5, hc5, hr5⟩ := reads_own' R.1 (fun h => by have := hn5'.out.1 h; simp at this)
      have hb5 := R.2
      have hl0 : Byt (zs ++ [0]) := byt_snoc hzy.out
      go_wp2_with fail
      refine (new_any _ _ cap5 (zs ++ [0]) _ hm5.out hl0 hr5 (by have := hm5'.out; omega)).mono ?_
      rintro e w6 ⟨c, rfl, hC6, hb6⟩
      go_wp2_with fail
      refine (curInt_bad _ _ c _ _ _ hC6 (rd_nought hzy.out hzn.out _)).mono ?_
      rintro e w7 ⟨rfl, hC7, hg7⟩
      have hb7 : Below w2.heap.size w2 w7 := (hb5.trans (hb6.mono hb5.size)).grown hg7 (by have := hb5.size; have := hb6.size; omega) (fun q hq => by have := hC6.lo; have := hb5.size; simp at hq; omega)
      have hr7 := hide (show Reads w7 (some ⟨g, 0, none⟩) (bV l) by have h := hr; rw [hE.out] at h; exact (reads_init h).below hb7)
      have hly : Byt l := fun y h => (hy.out y h).2
      clear hr hb5 hb6 hC6 R hn5' ho hbel hoz hbz
      go_wp2_with fail
      refine (new_any _ _ cap l _ (by have := hLl.out; omega) hly hr7.out (by omega)).mono ?_
      rintro e w8 ⟨d, rfl, hD8, hb8⟩
      have hC8 := hC7.below hb8
      go_wp2_with fail
      refine (curInt_bad _ _ d _ _ _ hD8 (rd_open hy.out _)).mono ?_
      rintro e w9 ⟨rfl, hD9, hg9⟩
      have hC9 := hC8.grown_other hg9 (by have := hD8.lo; have := hg7.size; omega)
      have hb9 : Below w2.heap.size w2 w9 := (hb7.trans (hb8.mono hb7.size)).grown hg9 (by have := hb7.size; have := hb8.size; omega) (fun q hq => by have := hD8.lo; have := hb7.size; simp at hq; omega)
      have hcb := hC9.bad
      have hdb := hD9.bad
      obtain ⟨a9, cap9, hd0, _⟩ := hD9
      clear hb7 hb8 hg7 hg9 hC7 hC8 hD8
      go_wp2_with fail
      refine (bad_any c true _ hcb).mono ?_
      rintro e w10 ⟨rfl, rfl⟩
      go_wp2_with fail
      refine (bad_any d true _ hdb).mono ?_
      rintro e w11 ⟨rfl, rfl⟩
      go_wp2_with fail
      refine (left_any d a9 _ cap9 _ hd0).mono ?_
      rintro e w12 ⟨rfl, rfl⟩
      go_wp2
      go_ret
      exact ⟨rfl, hbw.trans (hb9.mono hbw.size)⟩
end packShort
end Go.Proofs.Ytlpgbmakgkdhjaa
