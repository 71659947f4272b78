/- What the packing functions do, call by call. -/
import Derived.Test.YtpieagcijfkpnaaDoorRows
import Derived.Test.YtpieagcijfkpnaaDoorMath
import Derived.WalkKit
import Derived.ProofKit
import Derived.OpenShut
import Derived.WalkLawsBesides
import Derived.Outline
import Derived.WalkSpells
import Derived.Laws.CopyOwn
import Derived.Laws.BytesArg
namespace Go.Proofs.YtpieagcijfkpnaaDoor
open Go.RowKit


set_option maxHeartbeats 400000 in
theorem fold_neg (n : Int) (w : World) (h1 : -9223372036854775808 ≤ n) (h2 : n < 0) :
    Calls Tryd.prog 39 #[.int .i64 n] w fun e w' => e = .returned (.int .u64 (foldN n : Nat)) ∧ w' = w := by
  have hb := fold_neg_bits n h1 h2
  have HB := hide hb
  clear hb
  go_enter Tryd.func39, Tryd.ntmps39
  go_wp2
  go_ret
  exact ⟨ret_int (unhide HB), rfl⟩

set_option maxHeartbeats 400000 in
theorem fold_pos (n : Int) (w : World) (h1 : 0 ≤ n) (h2 : n ≤ 9223372036854775807) :
    Calls Tryd.prog 39 #[.int .i64 n] w fun e w' => e = .returned (.int .u64 (foldN n : Nat)) ∧ w' = w := by
  have h3 : ¬ n < 0 := by omega
  have HB := hide (show n * 2 = ((foldN n : Nat) : Int) by unfold foldN; rw [if_neg h3]; omega)
  go_enter Tryd.func39, Tryd.ntmps39
  go_wp2
  go_ret
  exact ⟨ret_int (unhide HB), rfl⟩

theorem fold_any (n : Int) (w : World) (h1 : -9223372036854775808 ≤ n) (h2 : n ≤ 9223372036854775807) :
    Calls Tryd.prog 39 #[.int .i64 n] w fun e w' => e = .returned (.int .u64 (foldN n : Nat)) ∧ w' = w := by
  by_cases h : n < 0
  · exact fold_neg n w h1 h
  · exact fold_pos n w (by omega) h2

set_option maxRecDepth 100000 in
/-- What appendInt comes to: the bytes of the number stand behind those that were there. -/
theorem appendInt_any (B : Nat) (v : Value) (k : Nat) (xs : List Nat) (n : Int) (w : World) (h1 : -9223372036854775808 ≤ n) (h2 : n ≤ 9223372036854775807)
    (hown : w.ownsRow B 5 1 v k (bV xs)) (hk : k ≤ 1000000000000) (hB : B ≤ w.heap.size) :
    Calls Tryd.prog 34 #[v, .int .i64 n] w fun e w' => ∃ v', e = .returned v' ∧ v' ≠ .slice none 0 0 ∧ w'.ownsRow B 5 1 v' (k + (enc (foldN n)).length) (bV (xs ++ enc (foldN n))) ∧ Below B w w' := by
  obtain ⟨i0, hi, hz0, hz1, hz2⟩ := info_parts Tryd.info5
  have hf := hide (foldN_lt n h1 h2)
  go_enter Tryd.func34, Tryd.ntmps34
  go_wp2_with (go_at_call 39; refine (fold_any n _ h1 h2).mono ?_; rintro e w' ⟨rfl, rfl⟩)
  go_loopw [0, 5] (fun b u wr => ∃ (f c : Nat) (ds : List Nat), u = .int .u64 (c : Nat) ∧ Hid (enc (foldN n) = ds ++ encF f c) ∧ Hid (c < 2 ^ (7 * f + 1)) ∧ f + ds.length ≤ 9 ∧
      wr.ownsRow B 5 1 b (k + ds.length) (bV (xs ++ ds)) ∧ Below B w' wr)
    (fun _ u _ => (intOf u).toNat)
  case atStart => exact ⟨9, foldN n, [], rfl, hide rfl, hf, by simp, by simpa using hown, Below.refl _ _⟩
  case round =>
    obtain ⟨f, c, ds, rfl, hE, hcl, hfl, ho, hbel⟩ := hrel
    by_cases hc : c < 128
    · have hc' : ¬ ((128 : Int) ≤ (c : Int)) := by omega
      have hsz := hbel.size
      go_wp2_with (at_builtin; go_must (refine wpList_append_own _ rfl (.tmp 18) (.tmp 21) 22 rfl B 5 i0 (.int .u8 0) 1 1 Tryd.underlying22 hi hz0 hz1 hz2 rfl (by decide) u0 _ _ rfl (ho.alloc _) ⟨wr.heap.size, 0, none⟩ 1 1 [.int .u8 (c : Nat)] rfl rfl (cell_one_new _ _ _) (by simp [Value.oneCell']) (by unfold maxLen; omega) (by omega) (by simp; omega) ?_; intro v2 w2 ho2 hg2 hnn; have HN := hide hnn; clear hnn))
      have R := own_step ho hbel hB ho2 rfl hg2
      go_ret
      refine ⟨_, rfl, fun h0 => by have := HN.out.1 h0; simp at this, ?_, R.2⟩
      have e := hE.out
      rw [encF_small f c hc] at e
      rw [e]
      simpa [Nat.add_assoc] using R.1
    · have hc' : ((128 : Int) ≤ (c : Int)) := by omega
      have hsz := hbel.size
      go_wp2_with (at_builtin; go_must (refine wpList_append_own _ rfl (.tmp 10) (.tmp 14) 22 rfl B 5 i0 (.int .u8 0) 1 1 Tryd.underlying22 hi hz0 hz1 hz2 rfl (by decide) u0 _ _ rfl (ho.alloc _) ⟨wr.heap.size, 0, none⟩ 1 1 [.int .u8 (bits .or .u8 ((c : Int) % 256) 128)] rfl rfl (cell_one_new _ _ _) (by simp [Value.oneCell']) (by unfold maxLen; omega) (by omega) (by simp; omega) ?_; intro v2 w2 ho2 hg2 _))
      have R := own_step ho hbel hB ho2 (or128' c) hg2
      obtain ⟨g, rfl, hgl⟩ := step_bound f c hcl.out (by omega)
      have e := hE.out
      rw [encF_great g c (by omega)] at e
      go_roundw
      case rel => exact ⟨g, c / 128, ds ++ [c % 128 + 128], rfl, hide (by rw [e]; simp), hide hgl, by simp; omega, by simpa [Nat.add_assoc] using R.1, R.2⟩
      case measure => simp [intOf]; omega

set_option maxRecDepth 100000 in
set_option maxHeartbeats 400000 in
/-- copyOf: a new row with the same bytes. -/
theorem copyOf_any (a : Option Addr) (len cap : Nat) (xs : List Nat) (w : World) (hl : xs.length = len) (hr : Reads w a (bV xs)) (hlen : len ≤ 140737488355328) :
    Calls Tryd.prog 33 #[.slice a len cap] w fun e w' => e = .returned (.slice (some ⟨w.heap.size, 0, none⟩) len len) ∧
      w'.ownsRow w.heap.size 5 1 (.slice (some ⟨w.heap.size, 0, none⟩) len len) len (bV xs) ∧ Below w.heap.size w w' := by
  obtain ⟨i0, hi, hz0, hz1, hz2⟩ := info_parts Tryd.info5
  go_enter Tryd.func33, Tryd.ntmps33
  go_wp2_with (first | (at_make; go_must (refine wpList_make_full _ rfl (.tmp 5) (.tmp 5) 22 rfl w.heap.size 5 i0 (.int .u8 0) 1 Tryd.underlying22 hi hz0 hz1 .i64 .i64 _ _ len rfl rfl rfl rfl (by rw [hz2]; omega) (by unfold maxLen; omega) (Nat.le_refl _) ?_; intro w1 ho1 hg1; obtain ⟨cur, hcl, hcell⟩ := made_row ho1; have hb1 : Below w.heap.size w w1 := (Below.refl _ _).grown hg1 (Nat.le_refl _) (fun k hk => by cases hk); have hr1 : Reads w1 a (bV xs) := hr.below hb1; have HC := hide hcell; clear hcell)) | (refine wpList_copy_splice rfl (.tmp 7) (.tmp 8) 22 22 rfl 5 Tryd.underlying22 (by kernel_rfl) (some ⟨w.heap.size, 0, none⟩) a len len len cap rfl rfl w.heap.size 0 cur 5 HC.out (bV xs) (by rw [bV_length, hl]; exact (Nat.min_self len).symm) (fun h => ⟨rfl, hr1.at h⟩) (by rw [bV_length]; omega) (bV_one xs) w.heap.size w hb1 (Nat.le_refl _) ?_; intro w2 HG2 hB2))
  have hsp : splice cur 0 (bV xs) = bV xs := by
    unfold splice
    rw [List.drop_eq_nil_of_le (by rw [bV_length]; omega)]; simp
  have hG := HG2.out
  rw [hsp] at hG
  go_ret
  refine ⟨rfl, ⟨by rw [bV_length]; omega, .inr ⟨_, _, _, rfl, Nat.le_refl _, hG, Nat.le_refl _, by unfold maxLen; omega, by simp [bV_length, hl], ?_⟩⟩, hB2⟩
  rw [List.take_of_length_le (by simp [bV_length]; omega)]

/-- The bytes of numbers, one behind the other. -/
def encs (ns : List Int) : List Nat := ns.flatMap fun n => enc (foldN n)
theorem encs_snoc (ns : List Int) (k : Nat) (h : k < ns.length) : encs (ns.take (k + 1)) = encs (ns.take k) ++ enc (foldN ns[k]) := by
  unfold encs
  rw [List.take_succ_eq_append_getElem h, List.flatMap_append, List.flatMap_singleton]
theorem encs_length (ns : List Int) : (encs ns).length ≤ 10 * ns.length := by
  unfold encs
  induction ns with
  | nil => simp
  | cons n ns ih =>
    have := (encF_length 9 (foldN n)).2
    simp only [List.flatMap_cons, List.length_append, List.length_cons]
    simp only [enc] at *; omega

set_option maxRecDepth 100000 in
set_option maxHeartbeats 400000 in
theorem int_nil (a : Option Addr) (len cap : Nat) (xs : List Nat) (w : World) (hl : xs.length = len) (hr : Reads w a (bV xs)) (hlen : len ≤ 140737488355328) (an : Option Addr) (cn : Nat) :
    Calls Tryd.prog 16 #[.slice a len cap, .slice an 0 cn] w fun e w' => ∃ v, e = .returned v ∧ v ≠ .slice none 0 0 ∧
      w'.ownsRow w.heap.size 5 1 v (xs ++ encs []).length (bV (xs ++ encs [])) ∧ Below w.heap.size w w' := by
  go_enter Tryd.func16, Tryd.ntmps16
  go_wp2_with (go_at_call 33; refine (copyOf_any a len cap xs _ hl hr hlen).mono ?_; rintro e w1 ⟨rfl, ho1, hb1⟩)
  go_loopw [5, 12] (fun v i wr => i = .int .i64 (0 : Nat) ∧ wr = w1 ∧ v = .slice (some ⟨w.heap.size, 0, none⟩) len len) (fun _ _ _ => 0)
  case atStart => exact ⟨rfl, rfl, rfl⟩
  case round =>
    obtain ⟨rfl, rfl, rfl⟩ := hrel
    go_wp2
    go_ret
    exact ⟨_, rfl, by simp, by simpa [encs, hl] using ho1, hb1⟩

set_option maxRecDepth 100000 in
set_option maxHeartbeats 400000 in
theorem int_some (a : Option Addr) (len cap : Nat) (xs : List Nat) (w : World) (hl : xs.length = len) (hr : Reads w a (bV xs)) (hlen : len ≤ 1000000000) (b off : Nat) (cn : Nat) (ns : List Int)
    (hn : ns.length ≤ 10000000000) (hin : In64 ns) (hc : ∀ j u, (iV ns)[j]? = some u → w.cell? ⟨b, off + j, none⟩ = some u) :
    Calls Tryd.prog 16 #[.slice a len cap, .slice (some ⟨b, off, none⟩) ns.length cn] w fun e w' => ∃ v, e = .returned v ∧ v ≠ .slice none 0 0 ∧
      w'.ownsRow w.heap.size 5 1 v (xs ++ encs ns).length (bV (xs ++ encs ns)) ∧ Below w.heap.size w w' := by
  go_enter Tryd.func16, Tryd.ntmps16
  go_wp2_with (go_at_call 33; refine (copyOf_any a len cap xs _ hl hr (by omega)).mono ?_; rintro e w1 ⟨rfl, ho1, hb1⟩)
  go_loopw [5, 12] (fun v i wr => ∃ k : Nat, k ≤ ns.length ∧ i = .int .i64 (k : Nat) ∧ Hid (v ≠ .slice none 0 0) ∧ wr.ownsRow w.heap.size 5 1 v (xs ++ encs (ns.take k)).length (bV (xs ++ encs (ns.take k))) ∧ Below w.heap.size w wr) (fun _ i _ => ns.length - (intOf i).toNat)
  case atStart => exact ⟨0, Nat.zero_le _, rfl, by simp [Hid], by simpa [encs, hl] using ho1, hb1⟩
  case round =>
    obtain ⟨k, hk, rfl, hnn, ho, hbel⟩ := hrel
    have hsz := hbel.size
    by_cases hlt : k < ns.length
    · have hcell : wr.cell? ⟨b, off + k, none⟩ = some (.int .i64 ns[k]) := by
        have h0 := hc k (.int .i64 ns[k]) (by simp [iV, hlt])
        rw [hbel.cell (cell_some_lt h0)]; exact h0
      have hnk := hin ns[k] (List.getElem_mem _)
      have HS := hide (encs_snoc ns k hlt)
      have HK := hide (show (xs ++ encs (ns.take k)).length ≤ 1000000000000 by have := encs_length (ns.take k); simp at this ⊢; omega)
      obtain ⟨x, hx⟩ : ∃ x, x = ns[k] := ⟨_, rfl⟩
      rw [← hx] at hcell hnk HS
      clear hx
      go_wp2_with (go_at_call 34; go_must (refine (appendInt_any w.heap.size u5 _ _ x _ hnk.1 hnk.2 ho HK.out (by omega)).mono ?_; rintro e w2 ⟨v2, rfl, hv2, ho2, hb2⟩))
      go_roundw
      case rel => exact ⟨k + 1, by omega, by go_num, hide hv2, by rw [HS.out, ← List.append_assoc, List.length_append]; exact ho2, hbel.trans hb2⟩
      case measure => simp [intOf]; omega
    · go_wp2
      go_ret
      have e : ns.take k = ns := List.take_of_length_le (by omega)
      rw [e] at ho
      exact ⟨_, rfl, hnn, ho, hbel⟩

theorem int_any (a : Option Addr) (len cap : Nat) (xs : List Nat) (w : World) (hl : xs.length = len) (hr : Reads w a (bV xs)) (hlen : len ≤ 1000000000) (an : Option Addr) (ln cn : Nat) (ns : List Int)
    (hln : ns.length = ln) (hn : ln ≤ 10000000000) (hin : In64 ns) (hrn : Reads w an (iV ns)) :
    Calls Tryd.prog 16 #[.slice a len cap, .slice an ln cn] w fun e w' => ∃ v, e = .returned v ∧ v ≠ .slice none 0 0 ∧
      w'.ownsRow w.heap.size 5 1 v (xs ++ encs ns).length (bV (xs ++ encs ns)) ∧ Below w.heap.size w w' := by
  subst hln
  by_cases h0 : ns = []
  · subst h0
    exact int_nil a len cap xs w hl hr (by omega) an cn
  · rcases hrn with h | ⟨b, off, rfl, hc⟩
    · simp [iV] at h; exact absurd h h0
    · exact int_some a len cap xs w hl hr hlen b off cn ns hn hin hc

theorem alive_enc : encs [1, -1, 64] = [2, 1, 128, 1] := by decide
theorem alive_in : In64 [1, -1, 64] := by intro n hn; simp at hn; omega
theorem alive_str : bstr [2, 1, 128, 1] = ⟨#[2, 1, 128, 1]⟩ := by decide

theorem alive_int (w : World) (an : Option Addr) (hr : Reads w an (iV [1, -1, 64])) : Calls Tryd.prog 16 #[.slice none 0 0, .slice an 3 3] w fun e w' => ∃ g cap, e = .returned (.slice (some ⟨g, 0, none⟩) 4 cap) ∧
      (convert 22 9 (.slice (some ⟨g, 0, none⟩) 4 cap)).run Tryd.prog w' = .ok (.string ⟨#[2, 1, 128, 1]⟩) w' ∧ Below w.heap.size w w' := by
  refine (int_any none 0 0 [] w rfl (.inl rfl) (by omega) an 3 3 [1, -1, 64] rfl (by omega) alive_in hr).mono ?_
  rintro e w1 ⟨v, rfl, hv, ho, hb⟩
  rw [alive_enc, List.nil_append] at ho
  obtain ⟨g, cap, rfl, _, _, _, hr⟩ := reads_own ho hv
  have hcv := run_string w1 _ cap _ hr
  rw [alive_str] at hcv
  exact ⟨g, cap, rfl, hcv, hb⟩

/-- One number behind nothing: its bytes. -/
theorem int_one (w : World) (an : Option Addr) (n : Int) (h : -9223372036854775808 ≤ n ∧ n ≤ 9223372036854775807) (hr : Reads w an (iV [n])) :
    Calls Tryd.prog 16 #[.slice none 0 0, .slice an 1 1] w fun e w' => ∃ g cap L, e = .returned (.slice (some ⟨g, 0, none⟩) L cap) ∧ Hid (L = (enc (foldN n)).length) ∧ 1 ≤ L ∧ L ≤ 10 ∧ L ≤ cap ∧ w.heap.size ≤ g ∧
      Reads w' (some ⟨g, 0, none⟩) (bV (enc (foldN n))) ∧ Below w.heap.size w w' := by
  refine (int_any none 0 0 [] w rfl (.inl rfl) (by omega) an 1 1 [n] rfl (by omega) (by intro m hm; simp at hm; subst hm; exact h) hr).mono ?_
  rintro e w1 ⟨v, rfl, hv, ho, hb⟩
  have e1 : [] ++ encs [n] = enc (foldN n) := by simp [encs]
  rw [e1] at ho
  obtain ⟨g, cap, rfl, hg, _, hc, hr⟩ := reads_own ho hv
  have hl := encF_length 9 (foldN n)
  exact ⟨g, cap, _, rfl, hide rfl, hl.1, hl.2, hc, hg, hr, hb⟩

/-- The last byte of a number is below 128. -/
theorem enc_last {w : World} {g L : Nat} {n : Int} (h1 : -9223372036854775808 ≤ n) (h2 : n ≤ 9223372036854775807) (hL : L = (enc (foldN n)).length) (h : Reads w (some ⟨g, 0, none⟩) (bV (enc (foldN n)))) :
    ∃ x : Nat, x < 128 ∧ w.cell? ⟨g, L - 1, none⟩ = some (.int .u8 (x : Nat)) := by
  obtain ⟨l, x, e, hx⟩ := encF_last 9 (foldN n) (foldN_lt n h1 h2)
  have e' : enc (foldN n) = l ++ [x] := e
  refine ⟨x, hx, ?_⟩
  rw [reads_cell h (L - 1) (by rw [hL, e']; simp)]
  simp [hL, e']
end Go.Proofs.YtpieagcijfkpnaaDoor
