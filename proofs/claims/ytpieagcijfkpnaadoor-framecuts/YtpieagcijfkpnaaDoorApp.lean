/- Appending a row of bytes, whatever its place. -/
import Derived.Test.YtpieagcijfkpnaaDoorTxt
import Derived.Laws.AppendOwnNone
import Derived.Deep.RegionHeld3
namespace Go.Proofs.YtpieagcijfkpnaaDoor
open Go.RowKit

theorem Cur.drew {w : World} {B T c : Nat} {bs : List Nat} {bad : Bool} (h : Cur w B T c bs bad) : Cur w.drew B T c bs bad :=
  h.grown_none ⟨rfl, rfl, rfl, Nat.le_refl _, fun _ _ _ => rfl⟩

theorem and127 (c : Nat) (h : c < 18446744073709551616) : bits .and .u64 (c : Int) 127 = ((c % 128 : Nat) : Int) := by
  rw [show (127 : Int) = ((127 : Nat) : Int) from rfl, u64_and_nat c 127 h (by omega), nat_mask7]

theorem or128_and (c : Nat) (h : c < 18446744073709551616) : bits .or .u8 (IntKind.u8.wrap (bits .and .u64 (c : Int) 127)) 128 = ((c % 128 + 128 : Nat) : Int) := by
  rw [and127 c h, or128]; omega

theorem refInt_nil (a : Option Addr) (len cap : Nat) (xs : List Nat) (w : World) (hl : xs.length = len) (hr : Reads w a (bV xs)) (hnil : a = none → len = 0 ∧ cap = 0) (hlen : len ≤ 1000000000) (an : Option Addr) (cn : Nat) :
    Calls Tryd.prog 21 #[.slice a len cap, .slice an 0 cn] w fun e w' => ∃ v, e = .returned v ∧
      w'.ownsRow w.heap.size 5 1 v (xs ++ encs []).length (bV (xs ++ encs [])) ∧ Below w.heap.size w w' := by
  go_enter Tryd.func21, Tryd.ntmps21
  go_wp2_with (at_builtin; go_must (refine append_bytes rfl (.const (.slice none 0 0)) (.tmp 8) rfl w.heap.size (.slice none 0 0) 0 [] rfl (World.ownsRow_nil _ _ _ _) a len cap xs rfl hnil hl hr (by omega) (Nat.le_refl _) ?_; intro v1 w1 ho1 hg1 _))
  have hb1 : Below w.heap.size w w1 := (Below.refl _ _).grown hg1 (Nat.le_refl _) (fun k hk => by cases hk)
  go_loopw [5, 6] (fun v i wr => i = .int .i64 (0 : Nat) ∧ wr = w1 ∧ v = v1) (fun _ _ _ => 0)
  case atStart => exact ⟨rfl, rfl, rfl⟩
  case round =>
    obtain ⟨rfl, rfl, rfl⟩ := hrel
    go_wp2
    go_ret
    exact ⟨_, rfl, by simpa [encs, hl] using ho1, hb1⟩

set_option maxRecDepth 100000 in
set_option maxHeartbeats 1000000 in
theorem refInt_some (a : Option Addr) (len cap : Nat) (xs : List Nat) (w : World) (hl : xs.length = len) (hr : Reads w a (bV xs)) (hnil : a = none → len = 0 ∧ cap = 0) (hlen : len ≤ 1000000000) (b off cn : Nat) (ns : List Int)
    (hn : ns.length ≤ 10000000000) (hin : In64 ns) (hc : ∀ j u, (iV ns)[j]? = some u → w.cell? ⟨b, off + j, none⟩ = some u) :
    Calls Tryd.prog 21 #[.slice a len cap, .slice (some ⟨b, off, none⟩) ns.length cn] w fun e w' => ∃ v, e = .returned v ∧
      w'.ownsRow w.heap.size 5 1 v (xs ++ encs ns).length (bV (xs ++ encs ns)) ∧ Below w.heap.size w w' := by
  obtain ⟨i0, hi, hz0, hz1, hz2⟩ := info_parts Tryd.info5
  go_enter Tryd.func21, Tryd.ntmps21
  go_wp2_with (at_builtin; go_must (refine append_bytes rfl (.const (.slice none 0 0)) (.tmp 8) rfl w.heap.size (.slice none 0 0) 0 [] rfl (World.ownsRow_nil _ _ _ _) a len cap xs rfl hnil hl hr (by omega) (Nat.le_refl _) ?_; intro v1 w1 ho1 hg1 _))
  have hb1 : Below w.heap.size w w1 := (Below.refl _ _).grown hg1 (Nat.le_refl _) (fun k hk => by cases hk)
  go_loopw [5, 6] (fun v i wr => ∃ k : Nat, k ≤ ns.length ∧ i = .int .i64 (k : Nat) ∧ wr.ownsRow w.heap.size 5 1 v (xs ++ encs (ns.take k)).length (bV (xs ++ encs (ns.take k))) ∧ Below w.heap.size w wr) (fun _ i _ => ns.length - (intOf i).toNat)
  case atStart => exact ⟨0, Nat.zero_le _, rfl, by simpa [encs, hl] using ho1, hb1⟩
  case round =>
    obtain ⟨k, hk, rfl, ho, hbel⟩ := hrel
    have hsz := hbel.size
    by_cases hlt : k < ns.length
    · have hcell : wr.cell? ⟨b, off + k, none⟩ = some (.int .i64 ns[k]) := by
        have h0 := hc k (.int .i64 ns[k]) (by simp [iV, hlt])
        rw [hbel.cell (cell_some_lt h0)]; exact h0
      have hnk := hin ns[k] (List.getElem_mem _)
      have HS := hide (encs_snoc ns k hlt)
      have HK := hide (show (xs ++ encs (ns.take k)).length ≤ 1000000000000 by have := encs_length (ns.take k); simp at this ⊢; omega)
      obtain ⟨x, hx⟩ : ∃ x, x = ns[k] := ⟨_, rfl⟩
      rw [← hx] at hcell hnk HS
      clear hx
      obtain ⟨Z, hZ⟩ : ∃ Z, Z = xs ++ encs (ns.take k) := ⟨_, rfl⟩
      rw [← hZ] at ho HK
      have HZ := hide hZ
      clear hZ
      have hF := hide (foldN_lt x hnk.1 hnk.2)
      have hlo : Z.length ≤ 1000000000000 := HK.out
      have HN := hide (show x < 0 → bits .xor .u64 IntKind.u64.max (IntKind.u64.wrap (IntKind.u64.wrap x * 2)) = (foldN x : Nat) from fun h => fold_neg_bits x hnk.1 h)
      have HP := hide (show ¬ x < 0 → x * 2 = ((foldN x : Nat) : Int) from fun h => by unfold foldN; rw [if_neg h]; omega)
      by_cases hneg : x < 0
      all_goals
        go_wp2
        go_loopw [5, 7] (fun v u wr => ∃ (f c : Nat) (ds : List Nat), u = .int .u64 (c : Nat) ∧ Hid (enc (foldN x) = ds ++ encF f c) ∧ Hid (c < 2 ^ (7 * f + 1)) ∧ f + ds.length ≤ 9 ∧ c < 18446744073709551616 ∧
            wr.ownsRow w.heap.size 5 1 v (Z.length + ds.length) (bV (Z ++ ds)) ∧ Below w.heap.size w wr) (fun _ u _ => (intOf u).toNat)
        case atStart =>
          refine ⟨9, foldN x, [], ?_, hide rfl, hF, by simp, by have := hF.out; omega, by simpa using ho, hbel⟩
          first | exact congrArg _ (HN.out (by assumption)) | exact congrArg _ (HP.out (by omega))
        case round =>
          obtain ⟨f, c, ds, rfl, hE, hcl, hfl, hc64, ho', hbel'⟩ := hrel
          have hsz' := hbel'.size
          by_cases hc128 : c < 128
          · have hc' : ¬ ((128 : Int) ≤ (c : Int)) := by omega
            go_wp2_with (at_builtin; go_must (refine wpList_append_own _ rfl (.tmp 40) (.tmp 43) 22 rfl w.heap.size 5 i0 (.int .u8 0) 1 1 Tryd.underlying22 hi hz0 hz1 hz2 rfl (by decide) u5 _ _ rfl (ho'.alloc _) ⟨wr.heap.size, 0, none⟩ 1 1 [.int .u8 (c : Nat)] rfl rfl (cell_one_new _ _ _) (by simp [Value.oneCell']) (by unfold maxLen; omega) (by omega) (by simp; omega) ?_; intro v2 w2 ho2 hg2 _))
            have R := own_step ho' hbel' (Nat.le_refl _) ho2 rfl hg2
            have hZ' : xs ++ encs (ns.take (k + 1)) = Z ++ ds ++ [c] := by
              have e := hE.out
              rw [encF_small f c hc128] at e
              rw [HS.out, e, HZ.out]; simp
            go_roundw
            case rel => exact ⟨k + 1, by omega, by go_num, by rw [hZ']; simpa [Nat.add_assoc] using R.1, R.2⟩
            case measure => simp [intOf]; omega
          · have hc' : ((128 : Int) ≤ (c : Int)) := by omega
            have hob := hide (or128_and c hc64)
            go_wp2_with (at_builtin; go_must (refine wpList_append_own _ rfl (.tmp 31) (.tmp 36) 22 rfl w.heap.size 5 i0 (.int .u8 0) 1 1 Tryd.underlying22 hi hz0 hz1 hz2 rfl (by decide) u5 _ _ rfl (ho'.alloc _) ⟨wr.heap.size, 0, none⟩ 1 1 [.int .u8 (bits .or .u8 (IntKind.u8.wrap (bits .and .u64 (c : Int) 127)) 128)] rfl rfl (cell_one_new _ _ _) (by simp [Value.oneCell']) (by unfold maxLen; omega) (by omega) (by simp; omega) ?_; intro v2 w2 ho2 hg2 _))
            have R := own_step ho' hbel' (Nat.le_refl _) ho2 hob.out hg2
            obtain ⟨g, rfl, hgl⟩ := step_bound f c hcl.out (by omega)
            have e := hE.out
            rw [encF_great g c (by omega)] at e
            go_roundw
            case rel => exact ⟨g, c / 128, ds ++ [c % 128 + 128], by go_num, hide (by rw [e]; simp), hide hgl, by simp; omega, by omega, by simpa [Nat.add_assoc] using R.1, R.2⟩
            case measure => simp [intOf]; omega
    · go_wp2
      go_ret
      have e : ns.take k = ns := List.take_of_length_le (by omega)
      rw [e] at ho
      exact ⟨_, rfl, ho, hbel⟩

/-- The document's own Int: the same bytes. -/
theorem refInt_any (a : Option Addr) (len cap : Nat) (xs : List Nat) (w : World) (hl : xs.length = len) (hr : Reads w a (bV xs)) (hnil : a = none → len = 0 ∧ cap = 0) (hlen : len ≤ 1000000000) (an : Option Addr) (ln cn : Nat) (ns : List Int)
    (hln : ns.length = ln) (hn : ln ≤ 10000000000) (hin : In64 ns) (hrn : Reads w an (iV ns)) :
    Calls Tryd.prog 21 #[.slice a len cap, .slice an ln cn] w fun e w' => ∃ v, e = .returned v ∧
      w'.ownsRow w.heap.size 5 1 v (xs ++ encs ns).length (bV (xs ++ encs ns)) ∧ Below w.heap.size w w' := by
  subst hln
  by_cases h0 : ns = []
  · subst h0
    exact refInt_nil a len cap xs w hl hr hnil hlen an cn
  · rcases hrn with h | ⟨b, off, rfl, hc⟩
    · simp [iV] at h; exact absurd h h0
    · exact refInt_some a len cap xs w hl hr hnil hlen b off cn ns hn hin hc
end Go.Proofs.YtpieagcijfkpnaaDoor
