/- Rows of texts: how they read, and what the writer of texts makes of them. -/
import Derived.Test.YtpieagcijfkpnaaDoorOpen
import Derived.Test.YtpieagcijfkpnaaDoorApp
namespace Go.Proofs.YtpieagcijfkpnaaDoor
open Go.RowKit Go.ChangeShapes Go.WideShapes Go.ChangeAt Go.Deep

def encT (bs : List Nat) : List Nat := enc (foldN (bs.length : Int)) ++ bs
def encTs (ts : List Txt) : List Nat := ts.flatMap fun t => encT t.bs

theorem encTs_snoc (ts : List Txt) (k : Nat) (h : k < ts.length) : encTs (ts.take (k + 1)) = encTs (ts.take k) ++ encT ts[k].bs := by
  unfold encTs
  rw [List.take_succ_eq_append_getElem h, List.flatMap_append, List.flatMap_singleton]

theorem encTs_take_le (ts : List Txt) (k : Nat) : (encTs (ts.take k)).length ≤ (encTs ts).length := by
  have h : encTs ts = encTs (ts.take k) ++ encTs (ts.drop k) := by
    unfold encTs
    rw [← List.flatMap_append, List.take_append_drop]
  rw [h, List.length_append]; omega

set_option maxRecDepth 100000 in
set_option maxHeartbeats 400000 in
/-- The writer of texts. -/
theorem bytes_any (a : Option Addr) (len cap : Nat) (xs : List Nat) (w : World) (hl : xs.length = len) (hr : Reads w a (bV xs)) (ar : Option Addr) (lr cr : Nat) (ts : List Txt) (hlr : ts.length = lr)
    (hok : ∀ t ∈ ts, t.ok w) (hrt : Reads w ar (sV ts)) (hsz : (xs ++ encTs ts).length ≤ 100000000000) (hlrs : lr ≤ 1000000) :
    Calls Tryd.prog 17 #[.slice a len cap, .slice ar lr cr] w fun e w' => ∃ v, e = .returned v ∧ v ≠ .slice none 0 0 ∧
      w'.ownsRow w.heap.size 5 1 v (xs ++ encTs ts).length (bV (xs ++ encTs ts)) ∧ Below w.heap.size w w' := by
  have hls : len ≤ 100000000000 := by simp at hsz; omega
  go_enter Tryd.func17, Tryd.ntmps17
  go_wp2_with (go_at_call 33; go_must (refine (copyOf_any a len cap xs _ hl hr (by omega)).mono ?_; rintro e w1 ⟨rfl, ho1, hb1⟩))
  go_loopw [5, 12] (fun v i wr => ∃ k : Nat, k ≤ lr ∧ i = .int .i64 (k : Nat) ∧ Hid (v ≠ .slice none 0 0) ∧ wr.ownsRow w.heap.size 5 1 v (xs ++ encTs (ts.take k)).length (bV (xs ++ encTs (ts.take k))) ∧ Below w.heap.size w wr) (fun _ i _ => lr - (intOf i).toNat)
  case atStart => exact ⟨0, Nat.zero_le _, rfl, by simp [Hid], by simpa [encTs, hl] using ho1, hb1⟩
  case round =>
    obtain ⟨k, hk, rfl, hnn, ho, hbel⟩ := hrel
    have hsb := hbel.size
    by_cases hlt : k < lr
    · have hkn : k < ts.length := by omega
      obtain ⟨b, off, har, hcs⟩ := txts_at hrt hkn
      subst har
      have hcell : wr.cell? ⟨b, off + k, none⟩ = some (.slice ts[k].a ts[k].len ts[k].cap) := by
        have h0 := hcs.out k hkn
        rw [hbel.cell (cell_some_lt h0)]; exact h0
      have HS := hide (encTs_snoc ts k hkn)
      have HK := hide (show (xs ++ encTs (ts.take k)).length + (encT ts[k].bs).length ≤ 100000000000 by
        have h1 := encTs_take_le ts (k + 1)
        rw [HS.out] at h1
        simp only [List.length_append] at h1 hsz ⊢; omega)
      have ht := hok ts[k] (List.getElem_mem _)
      obtain ⟨t, hx⟩ : ∃ t, t = ts[k] := ⟨_, rfl⟩
      rw [← hx] at hcell ht HS HK
      clear hx hcs
      obtain ⟨h1, h2, h3, h4, h5⟩ := ht
      have HR := hide (show ∀ w', Below w.heap.size w w' → Reads w' t.a (bV t.bs) from fun w' h => h5.below h)
      obtain ⟨ta, tl, tc, tb⟩ := t
      simp only at hcell h1 h2 h3 h4 h5 HR HS HK
      have HE := hide (show tl + 10 ≤ 200000000000 ∧ (xs ++ encTs (ts.take k)).length ≤ 100000000000 by
        have := HK.out; simp only [encT, List.length_append] at this ⊢; omega)
      have htl : tl ≤ 9223372036854775807 := by have := HE.out.1; omega
      have HX := hide (show (xs ++ encTs (ts.take k)).length + (enc (foldN (tl : Int))).length + tl ≤ 140737488355328 by
        have := HK.out; simp only [encT, List.length_append, h1] at this ⊢; omega)
      have HL := hide h1
      clear h1 h2 h3 h5
      go_wp2_with (first | (go_at_call 34; go_must (refine (appendInt_any w.heap.size u5 _ _ (tl : Int) _ (by omega) (by omega) ho (by have := HE.out.2; omega) (by omega)).mono ?_; rintro e w2 ⟨v2, rfl, hv2, ho2, hb2⟩)) | (at_builtin; go_must (refine append_bytes rfl (.tmp 19) (.tmp 20) rfl w.heap.size v2 _ _ rfl ho2 ta tl tc tb rfl h4 HL.out (HR.out _ (hbel.trans hb2)) HX.out (Nat.le_trans hsb hb2.size) ?_; intro v3 w3 ho3 hg3 hn3; have HN3 := hide hn3; clear hn3)))
      have hZ : xs ++ encTs (ts.take (k + 1)) = xs ++ encTs (ts.take k) ++ enc (foldN (tl : Int)) ++ tb := by
        rw [HS.out, encT, HL.out]; simp
      have hb3 : Below w.heap.size w w3 := (hbel.trans hb2).grown hg3 (Nat.le_trans hsb hb2.size) (fun q hq => (ho2.lt q hq).1)
      go_roundw
      case rel => exact ⟨k + 1, by omega, by go_num, hide (fun h => hv2 (HN3.out.1 h).1), by rw [hZ, List.length_append, List.length_append, HL.out]; exact ho3, hb3⟩
      case measure => simp [intOf]; omega
    · go_wp2
      go_ret
      have e : ts.take k = ts := List.take_of_length_le (by omega)
      rw [e] at ho
      exact ⟨_, rfl, hnn, ho, hbel⟩
end Go.Proofs.YtpieagcijfkpnaaDoor
