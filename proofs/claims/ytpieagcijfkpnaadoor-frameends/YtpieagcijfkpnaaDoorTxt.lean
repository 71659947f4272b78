/- What Cursor.Bytes comes to. -/
import Derived.Test.YtpieagcijfkpnaaDoorAsk
namespace Go.Proofs.YtpieagcijfkpnaaDoor
open Go.RowKit

/-- How many bytes, or things: nought, and all is bad, where there can't be so many. -/
def rdCnt (bs : List Nat) (bad : Bool) : Nat × List Nat × Bool :=
  if (rdInt bs bad).1 < 0 ∨ ((rdInt bs bad).2.1.length : Int) < (rdInt bs bad).1 then (0, [], true) else ((rdInt bs bad).1.toNat, (rdInt bs bad).2)

theorem rdCnt_le (bs : List Nat) (bad : Bool) : (rdCnt bs bad).1 ≤ (rdCnt bs bad).2.1.length := by
  unfold rdCnt
  split
  · simp
  · simp only; omega

theorem rdBytes_cnt (bs : List Nat) (bad : Bool) : rdBytes bs bad = ((rdCnt bs bad).2.1.take (rdCnt bs bad).1, (rdCnt bs bad).2.1.drop (rdCnt bs bad).1, (rdCnt bs bad).2.2) := by
  unfold rdBytes rdCnt
  split
  · rfl
  · rfl

set_option maxRecDepth 100000 in
set_option maxHeartbeats 400000 in
theorem count_no (B T c : Nat) (bs r : List Nat) (n : Int) (bad b' : Bool) (w : World) (h : Cur w B T c bs bad) (hR : Hid (rdInt bs bad = (n, r, b'))) (hn : n < 0 ∨ (r.length : Int) < n) :
    Calls Tryd.prog 46 #[.pointer (some ⟨c, 0, none⟩)] w fun e w' => e = .returned (.int .i64 0) ∧ Cur w' B T c [] true ∧ w.grownBy w' (some c) := by
  have HI := hide (curInt_any B T c bs bad w h)
  rw [hR.out] at HI
  rcases hn with hn | hn
  · go_enter Tryd.func46, Tryd.ntmps46
    go_wp2_with (first | (go_at_call 37; go_must (refine HI.out.mono ?_; rintro e w1 ⟨rfl, hC1, hg1⟩; have hC2 := hC1; obtain ⟨a, cap, h1, h2, h3, h4, h5, h6, h7, h8, h9, h10, h11⟩ := hC2)) | (go_at_call 43; go_must (refine (spoil_any c _ _ _ h1 h2 h3 h4).mono ?_; rintro e w2 ⟨rfl, rfl⟩)))
    go_ret
    exact ⟨rfl, hC1.spoiled, grown_trans hg1 (grown_trans (grown_setCell _ _ _ _) (grown_setCell _ _ _ _))⟩
  · have hn' : ¬ n < 0 := by omega
    go_enter Tryd.func46, Tryd.ntmps46
    go_wp2_with (first | (go_at_call 37; go_must (refine HI.out.mono ?_; rintro e w1 ⟨rfl, hC1, hg1⟩; have hC2 := hC1; obtain ⟨a, cap, h1, h2, h3, h4, h5, h6, h7, h8, h9, h10, h11⟩ := hC2)) | (go_at_call 48; go_must (refine (left_any c a _ cap _ h1).mono ?_; rintro e w2 ⟨rfl, rfl⟩)) | (go_at_call 43; go_must (refine (spoil_any c _ _ _ h1 h2 h3 h4).mono ?_; rintro e w2 ⟨rfl, rfl⟩)))
    go_ret
    exact ⟨rfl, hC1.spoiled, grown_trans hg1 (grown_trans (grown_setCell _ _ _ _) (grown_setCell _ _ _ _))⟩

set_option maxRecDepth 100000 in
set_option maxHeartbeats 400000 in
theorem count_yes (B T c : Nat) (bs r : List Nat) (n : Nat) (bad b' : Bool) (w : World) (h : Cur w B T c bs bad) (hR : Hid (rdInt bs bad = ((n : Int), r, b'))) (hn : n ≤ r.length) :
    Calls Tryd.prog 46 #[.pointer (some ⟨c, 0, none⟩)] w fun e w' => e = .returned (.int .i64 (n : Nat)) ∧ Cur w' B T c r b' ∧ w.grownBy w' (some c) := by
  have HI := hide (curInt_any B T c bs bad w h)
  rw [hR.out] at HI
  have hn0 : ¬ ((n : Int) < 0) := by omega
  go_enter Tryd.func46, Tryd.ntmps46
  go_wp2_with (first | (go_at_call 37; go_must (refine HI.out.mono ?_; rintro e w1 ⟨rfl, hC1, hg1⟩; have hC2 := hC1; obtain ⟨a, cap, h1, h2, h3, h4, h5, h6, h7, h8, h9, h10, h11⟩ := hC2)) | (go_at_call 48; go_must (refine (left_any c a _ cap _ h1).mono ?_; rintro e w2 ⟨rfl, rfl⟩)))
  go_ret
  exact ⟨rfl, hC1, hg1⟩

/-- Cursor.count. -/
theorem count_any (B T c : Nat) (bs : List Nat) (bad : Bool) (w : World) (h : Cur w B T c bs bad) :
    Calls Tryd.prog 46 #[.pointer (some ⟨c, 0, none⟩)] w fun e w' => e = .returned (.int .i64 (rdCnt bs bad).1) ∧ Cur w' B T c (rdCnt bs bad).2.1 (rdCnt bs bad).2.2 ∧ w.grownBy w' (some c) := by
  obtain ⟨⟨n, r, b'⟩, hR⟩ : ∃ x, rdInt bs bad = x := ⟨_, rfl⟩
  by_cases hn : n < 0 ∨ (r.length : Int) < n
  · have e : rdCnt bs bad = (0, [], true) := by unfold rdCnt; rw [hR]; exact if_pos hn
    rw [e]
    exact count_no B T c bs r n bad b' w h hR hn
  · have e : rdCnt bs bad = (n.toNat, r, b') := by unfold rdCnt; rw [hR]; exact if_neg hn
    rw [e]
    obtain ⟨m, rfl⟩ : ∃ m : Nat, n = (m : Int) := ⟨n.toNat, by omega⟩
    exact count_yes B T c bs r m bad b' w h hR (by omega)

theorem rdInt_len (bs : List Nat) (bad : Bool) : (rdInt bs bad).2.1.length ≤ bs.length := by
  unfold rdInt
  cases dec bs with
  | none => simp
  | some uk => simp

set_option maxRecDepth 100000 in
set_option maxHeartbeats 400000 in
theorem curBytes_cnt (B T c : Nat) (bs r : List Nat) (n : Nat) (bad b' : Bool) (w : World) (h : Cur w B T c bs bad) (hR : Hid (rdCnt bs bad = (n, r, b'))) (hn : n ≤ r.length) (_hn2 : r.length ≤ 140737488355328) :
    Calls Tryd.prog 38 #[.pointer (some ⟨c, 0, none⟩)] w fun e w' => ∃ v, e = .returned v ∧ w'.ownsRow w.heap.size 5 1 v n (bV (r.take n)) ∧ Cur w' B T c (r.drop n) b' ∧ w.grownBy w' (some c) := by
  have HI := hide (count_any B T c bs bad w h)
  rw [hR.out] at HI
  have hn0 : ¬ ((n : Int) < 0) := by omega
  go_enter Tryd.func38, Tryd.ntmps38
  go_wp2_with (first | (go_at_call 46; go_must (refine HI.out.mono ?_; rintro e w1 ⟨rfl, hC1, hg1⟩; have hC2 := hC1; obtain ⟨a, cap, h1, h2, h3, h4, h5, h6, h7, h8, h9, h10, h11⟩ := hC2)) | (go_at_call 33; go_must (refine (copyOf_any a n cap (r.take n) _ (by simp; omega) (h8.reads.take n) (by omega)).mono ?_; rintro e w3 ⟨rfl, ho3, hb3⟩; have hA3 := CurA.below (bad := b') ⟨h1, h2, h3, h4, h5, h6, h7, h8, h9, h10, h11⟩ hb3)) | (go_at_call 44; go_must (refine (skip_any c a _ cap n _ hA3.1 hA3.2.2.1 hn h5 (by omega)).mono ?_; rintro e w4 ⟨rfl, a', cap', rfl, hs1, hs2, hs3⟩)))
  go_ret
  refine ⟨_, rfl, ?_, hA3.skipped n hn hs1 hs2 hs3, grown_trans hg1 (grown_trans ?_ (grown_setCell _ _ _ _))⟩
  · exact own_mono (ownsRow_setCell_below ho3 (by show c < _; omega) _) hg1.size
  · exact ⟨hb3.os, hb3.tape, hb3.output, hb3.size, fun k hk _ => hb3.block k hk⟩

theorem rdCnt_len (bs : List Nat) (bad : Bool) : (rdCnt bs bad).2.1.length ≤ bs.length := by
  have := rdInt_len bs bad
  unfold rdCnt
  split
  · simp
  · exact this

/-- Cursor.Bytes. -/
theorem curBytes_any (B T c : Nat) (bs : List Nat) (bad : Bool) (w : World) (h : Cur w B T c bs bad) :
    Calls Tryd.prog 38 #[.pointer (some ⟨c, 0, none⟩)] w fun e w' => ∃ v, e = .returned v ∧ w'.ownsRow w.heap.size 5 1 v (rdBytes bs bad).1.length (bV (rdBytes bs bad).1) ∧ Cur w' B T c (rdBytes bs bad).2.1 (rdBytes bs bad).2.2 ∧ w.grownBy w' (some c) := by
  have hl : bs.length ≤ 140737488355328 := by
    obtain ⟨a, cap, _, _, _, _, h5, h6, _⟩ := h
    omega
  have hrl := rdCnt_len bs bad
  have hle := rdCnt_le bs bad
  rw [rdBytes_cnt]
  obtain ⟨⟨n, r, b'⟩, hR⟩ : ∃ x, rdCnt bs bad = x := ⟨_, rfl⟩
  rw [hR] at hrl hle ⊢
  simp only at hrl hle
  refine (curBytes_cnt B T c bs r n bad b' w h hR hle (by omega)).mono ?_
  rintro e w' ⟨v, rfl, h1, h2, h3⟩
  refine ⟨v, rfl, ?_, h2, h3⟩
  have e2 : (r.take n).length = n := by simp; omega
  simpa [e2] using h1

theorem Cur.grown_other {w w' : World} {B T c d : Nat} {bs : List Nat} {bad : Bool} (h : Cur w B T c bs bad) (hg : w.grownBy w' (some d)) (hd : T ≤ d) : Cur w' B T c bs bad := by
  have h' := h
  obtain ⟨a, cap, _, _, _, _, _, _, _, _, _, _, hT⟩ := h'
  exact h.keep hg.size (fun k _ hk => hg.block k (by omega) (fun e => by simp at e; omega))

theorem Cur.lo {w : World} {B T c : Nat} {bs : List Nat} {bad : Bool} (h : Cur w B T c bs bad) : B ≤ c := by
  obtain ⟨a, cap, _, _, _, _, _, _, _, _, h9, _⟩ := h
  exact h9

theorem Cur.bad {w : World} {B T c : Nat} {bs : List Nat} {bad : Bool} (h : Cur w B T c bs bad) : w.cell? ⟨c, 1, none⟩ = some (.bool bad) := by
  obtain ⟨a, cap, _, h1, _⟩ := h
  exact h1

theorem or128_small (x : Nat) (hx : x < 128) : bits .or .u8 (x : Int) 128 = ((x + 128 : Nat) : Int) := by
  have h := or128' x
  rw [show ((x : Int) % 256) = (x : Int) from by omega] at h
  rw [h, Nat.mod_eq_of_lt hx]

theorem short_or {w3 : World} {B L g2 cap2 : Nat} {l : List Nat} {x : Nat} (ho : w3.ownsRow B 5 1 (.slice (some ⟨g2, 0, none⟩) L cap2) L (bV (l ++ [x]))) (hx : x < 128) (hy : ∀ y ∈ l, 128 ≤ y ∧ y < 256) (hLl : L = l.length + 1) :
    ∃ zs : List Nat, zs.length = L ∧ Hid (∀ y ∈ zs, 128 ≤ y ∧ y < 256) ∧ (w3.setCell ⟨g2, L - 1, none⟩ (.int .u8 (bits .or .u8 (x : Nat) 128))).ownsRow B 5 1 (.slice (some ⟨g2, 0, none⟩) L cap2) L (bV zs) := by
  refine ⟨l ++ [x + 128], by simp [hLl], ?_, ?_⟩
  · intro y hm
    rcases List.mem_append.1 hm with h | h
    · exact hy y h
    · simp at h; omega
  · have h := (ho.stored (L - 1) (.int .u8 (bits .or .u8 (x : Nat) 128))).1
    rw [or128_small x hx] at h ⊢
    simpa [bV, hLl, List.set_append] using h

theorem Cur.left {w : World} {B T c : Nat} {bs : List Nat} {bad : Bool} (h : Cur w B T c bs bad) : ∃ a cap, w.cell? ⟨c, 0, none⟩ = some (.slice a bs.length cap) := by
  obtain ⟨a, cap, h0, _⟩ := h
  exact ⟨a, cap, h0⟩

end Go.Proofs.YtpieagcijfkpnaaDoor
