/- The document's New. -/
import Derived.Test.YtcfenakafcfjbaaRin
import Derived.Deep.RegionLaw
namespace Go.Proofs.Ytcfenakafcfjbaa
open Go.RowKit Go.ChangeShapes Go.WideShapes Go.ChangeAt Go.Deep Go.Maps Go.Sort

def hasS (S : List Wd) (x : Int) : Bool := S.any fun e => decide (e.nd = x)
theorem hasS_no {S : List Wd} {x : Int} (h : NoP S x) : hasS S x = false := by
  unfold hasS
  rw [List.any_eq_false]
  intro e he
  simpa using h e he
theorem hasS_yes {S : List Wd} {x : Int} {k : Nat} {e : Wd} (h : AtP S x k e) : hasS S x = true := by
  obtain ⟨hk, rfl, h2, _⟩ := h
  exact List.any_eq_true.2 ⟨_, List.getElem_mem hk, by simpa using h2⟩
def addS (S : List Wd) (x : Int) : List Wd := if hasS S x then S else S ++ [⟨x, 1, 0, 1, true⟩]
def newS (l : List Int) : List Wd := l.foldl addS []
theorem addS_len (S : List Wd) (x : Int) : (addS S x).length ≤ S.length + 1 := by unfold addS; split <;> simp
theorem newS_len (l : List Int) : ∀ S : List Wd, (l.foldl addS S).length ≤ S.length + l.length := by
  induction l with
  | nil => intro S; exact Nat.le_refl _
  | cons a r ih => intro S; have h1 := ih (addS S a); have h2 := addS_len S a; simp only [List.foldl_cons, List.length_cons]; omega

/-- What the document's New answers. -/
def RNewP (w : World) (wt : Int) (l : List Int) (e : Ending) (w' : World) : Prop := ∃ rb E, e = .returned (.pointer (some ⟨rb, 0, none⟩)) ∧ RbM E w' rb (max 1 wt) (newS l) ∧ Below w.heap.size w w' ∧ ∀ j, E j → w.heap.size ≤ j

set_option linter.unusedSimpArgs false in
set_option maxRecDepth 100000 in
set_option maxHeartbeats 8000000 in
theorem rnew_any (w : World) (wt : Int) (hwt : I64 wt) (l : List Int) (a : Option Addr) (n c : Nat) (hl : l.length = n) (hn : n ≤ 20000) (ra : Reads w a (iV l)) :
    Calls Try.prog 8 #[.int .i64 wt, .slice a n c] w (RNewP w wt l) := by
  have HL := hide hl
  have HR := hide ra
  have hb := below_new w (.cells #[.int .i64 (max 1 wt), .slice none 0 0] 46)
  obtain ⟨W, hW⟩ : ∃ W, W = w.alloc (.cells #[.int .i64 (max 1 wt), .slice none 0 0] 46) := ⟨_, rfl⟩
  rw [← hW] at hb
  have hSt : ∀ W : World, Below w.heap.size w W → BoxL W w.heap.size [.int .i64 (max 1 wt), .slice none 0 0] → ∃ E, RbM E W w.heap.size (max 1 wt) (newS (l.take 0)) ∧ Below w.heap.size w W ∧ ∀ j, E j → w.heap.size ≤ j := fun W h1 h2 => ⟨fun j => j = w.heap.size, ⟨fun j hj => by rw [hj]; exact h2.1, rfl, by unfold I64 at *; omega, none, 0, 0, h2, RowD.nil W, fun g e => by cases e⟩, h1, fun j hj => by rw [hj]; exact Nat.le_refl _⟩
  unfold RNewP
  by_cases hlt : wt < 1
  · have e1 : max 1 wt = 1 := by omega
    rw [e1] at hSt hW ⊢
    have HS := hide (hSt W hb (by rw [hW]; exact BoxL.new w _ 46))
    have HW := hide hW
    clear hSt hb hl ra hW
    go_enter Try.func8, Try.ntmps8
    go_upto_region 4 with fail
    rw [← HW.out]
    go_wp2
    go_loopw [6] (fun i wr => ∃ k : Nat, k ≤ n ∧ i = .int .i64 (k : Nat) ∧ Hid (∃ E, RbM E wr w.heap.size (1) (newS (l.take k)) ∧ Below w.heap.size w wr ∧ ∀ j, E j → w.heap.size ≤ j)) (fun i _ => n - (intOf i).toNat)
    case atStart => exact ⟨0, Nat.zero_le _, rfl, HS⟩
    case round =>
      obtain ⟨k, hk, rfl, HA⟩ := hrel
      by_cases hlt : k < n
      · have hkl : k < l.length := by have := HL.out; omega
        have hlt' : (k : Int) < (n : Int) := by omega
        obtain ⟨E, hM, hbw, hE⟩ := HA.out
        obtain ⟨g, off, har, hcs⟩ := reads_at (HR.out.below hbw) hkl
        subst har
        have y0 := hcs.out k (.int .i64 l[k]) (by simp [iV, hkl])
        have HT := hide (take_more (List.getElem?_eq_getElem hkl))
        generalize l[k] = x at y0 HT
        have HO := hide (show newS (l.take (k + 1)) = addS (newS (l.take k)) x from by rw [HT.out]; simp [newS, List.foldl_append])
        have hln : (newS (l.take k)).length ≤ 20000 := by have := newS_len (l.take k) []; simp at this; unfold newS; omega
        generalize newS (l.take k) = U at hM HA HO hln
        clear hcs hkl
        rcases pos_or U x with hno | ⟨j, e, hat⟩
        · have C21 := hide (find_any hM (by omega) x (-1) hno.pos)
          have HM := hide hM
          have HBW := hide hbw
          have HE := hide hE
          have HN := hide (show addS U x = U ++ [⟨x, 1, 0, 1, true⟩] from by unfold addS; rw [hasS_no hno]; rfl)
          obtain ⟨h1, h2, hw, a2, n2, c2, hB, hRR, h5⟩ := hM
          obtain ⟨c1, f1⟩ := hB.at (o := 1) rfl
          have HC := hide c1
          have hn2 : n2 ≤ 20000 := by rw [← hRR.1]; exact hln
          have hOd : (wr.alloc (.cells #[.int .i64 x, .int .i64 1, .int .i64 0, .int .i64 1, .bool true] 49)).ownsRow 0 49 5 (.slice a2 n2 c2) n2 (wdV U) := hRR.2.alloc _
          have HOd := hide hOd
          have HNW := hide (news_new wr [.int .i64 x, .int .i64 1, .int .i64 0, .int .i64 1, .bool true] 49)
          have HON := hide (show ∀ u ∈ [Value.int .i64 x, .int .i64 1, .int .i64 0, .int .i64 1, .bool true], u.oneCell' = true from fun u hu => wdV_one [⟨x, 1, 0, 1, true⟩] u hu)
          obtain ⟨i0, hi, hz0, hz1, hz2⟩ := info_parts Try.info49
          have HI := hide (And.intro hi (And.intro hz0 (And.intro hz1 hz2)))
          have c1a := keep_cell c1 (below_new wr (.cells #[.int .i64 x, .int .i64 1, .int .i64 0, .int .i64 1, .bool true] 49))
          have c1b : (wr.alloc (.cells #[.int .i64 x, .int .i64 1, .int .i64 0, .int .i64 1, .bool true] 49)).drew.cell? ⟨w.heap.size, 1, none⟩ = some (.slice a2 n2 c2) := c1a
          have c1c : (wr.drew.alloc (.cells #[.int .i64 x, .int .i64 1, .int .i64 0, .int .i64 1, .bool true] 49)).cell? ⟨w.heap.size, 1, none⟩ = some (.slice a2 n2 c2) := c1a
          have HBD := hide ((below_new wr (.cells #[.int .i64 x, .int .i64 1, .int .i64 0, .int .i64 1, .bool true] 49)).drew)
          have HFF := hide (fun (g : Nat) (W : World) (hm : RbM (fun k => E k ∨ k = g) W w.heap.size (1) (U ++ [⟨x, 1, 0, 1, true⟩])) (hs : Stp E (fun k => E k ∨ k = g) wr W) => show ∃ E, RbM E W w.heap.size (1) (newS (l.take (k + 1))) ∧ Below w.heap.size w W ∧ ∀ j, E j → w.heap.size ≤ j from by
            refine ⟨_, by rw [HO.out, HN.out]; exact hm, hs.kp.below HBW.out (Nat.le_refl _) (fun j hj e => by have := HE.out j e; omega), fun j hj => ?_⟩
            rcases Nat.lt_or_ge j wr.heap.size with h | h
            · exact HE.out j ((hs.col j h).1 hj)
            · exact Nat.le_trans HBW.out.size h)
          clear hno hbw hE HA h1 h5 hB hRR hOd hi hz0 hz1 hz2
          go_upto_region 8 with (go_at_call 21; go_must ((with_reducible refine C21.out.mono ?_); rintro e w1 ⟨rfl, hw1⟩; subst hw1))
          go_region_law (refine step_append_lies _ rfl (.tmp 32) (.tmp 38) 44 rfl 0 49 i0 (.agg #[.int .i64 0, .int .i64 0, .int .i64 0, .int .i64 0, .bool false]) 5 40 Try.underlying44 HI.out.1 HI.out.2.1 HI.out.2.2.1 HI.out.2.2.2 rfl (by omega) (.slice a2 n2 c2) n2 (wdV U) (by simp [Act.eval, Act.put]) HOd.out ⟨_, 0, none⟩ 1 1 [.int .i64 x, .int .i64 1, .int .i64 0, .int .i64 1, .bool true] (by simp [Act.eval, Act.put]) rfl HNW.out HON.out (by omega) (by unfold maxLen; omega) (by omega) (Nat.zero_le _) _ rfl ?_; intro g3 cap3 w3 ho3 hg3 hat3 hlt3; obtain ⟨hM3, hS3, z1, z2⟩ := RbM.grow HM.out HC.out HBD.out ⟨x, 1, 0, 1, true⟩ ho3 hg3 (by simpa using hat3) hlt3; have HF := hide (HFF.out g3 _ hM3 hS3); clear ho3 hg3 hat3 hlt3 hM3 hS3)
          all_goals go_wp2_with fail
          all_goals go_roundw
          all_goals first
            | (case rel => exact ⟨k + 1, by omega, by go_num, HF⟩)
            | (case measure => simp [intOf]; omega)
            | skip

        · have C21 := hide (find_any hM (by omega) x j hat.pos)
          have HN := hide (show ∃ E, RbM E wr w.heap.size (1) (newS (l.take (k + 1))) ∧ Below w.heap.size w wr ∧ ∀ j, E j → w.heap.size ≤ j from ⟨E, by rw [HO.out]; unfold addS; rw [hasS_yes hat]; exact hM, hbw, hE⟩)
          have hj : ¬ (j : Int) < 0 := by omega
          clear hat hM hbw hE HA
          go_wp2_with (go_at_call 21; go_must ((with_reducible refine C21.out.mono ?_); rintro e w1 ⟨rfl, hw1⟩; subst hw1))
          go_roundw
          case rel => exact ⟨k + 1, by omega, by go_num, HN⟩
          case measure => simp [intOf]; omega
      · obtain rfl : k = n := by omega
        have HN := hide (show ∃ E, RbM E wr w.heap.size (1) (newS l) ∧ Below w.heap.size w wr ∧ ∀ j, E j → w.heap.size ≤ j from by
          have h := HA.out
          rw [List.take_of_length_le (by have := HL.out; omega)] at h
          exact h)
        go_wp2
        go_ret
        obtain ⟨E, q1, q2, q3⟩ := HN.out
        exact ⟨_, E, rfl, q1, q2, q3⟩
  · have e1 : max 1 wt = wt := by omega
    rw [e1] at hSt hW ⊢
    have HS := hide (hSt W hb (by rw [hW]; exact BoxL.new w _ 46))
    have HW := hide hW
    clear hSt hb hl ra hW
    go_enter Try.func8, Try.ntmps8
    go_upto_region 4 with fail
    rw [← HW.out]
    go_wp2
    go_loopw [6] (fun i wr => ∃ k : Nat, k ≤ n ∧ i = .int .i64 (k : Nat) ∧ Hid (∃ E, RbM E wr w.heap.size (wt) (newS (l.take k)) ∧ Below w.heap.size w wr ∧ ∀ j, E j → w.heap.size ≤ j)) (fun i _ => n - (intOf i).toNat)
    case atStart => exact ⟨0, Nat.zero_le _, rfl, HS⟩
    case round =>
      obtain ⟨k, hk, rfl, HA⟩ := hrel
      by_cases hlt : k < n
      · have hkl : k < l.length := by have := HL.out; omega
        have hlt' : (k : Int) < (n : Int) := by omega
        obtain ⟨E, hM, hbw, hE⟩ := HA.out
        obtain ⟨g, off, har, hcs⟩ := reads_at (HR.out.below hbw) hkl
        subst har
        have y0 := hcs.out k (.int .i64 l[k]) (by simp [iV, hkl])
        have HT := hide (take_more (List.getElem?_eq_getElem hkl))
        generalize l[k] = x at y0 HT
        have HO := hide (show newS (l.take (k + 1)) = addS (newS (l.take k)) x from by rw [HT.out]; simp [newS, List.foldl_append])
        have hln : (newS (l.take k)).length ≤ 20000 := by have := newS_len (l.take k) []; simp at this; unfold newS; omega
        generalize newS (l.take k) = U at hM HA HO hln
        clear hcs hkl
        rcases pos_or U x with hno | ⟨j, e, hat⟩
        · have C21 := hide (find_any hM (by omega) x (-1) hno.pos)
          have HM := hide hM
          have HBW := hide hbw
          have HE := hide hE
          have HN := hide (show addS U x = U ++ [⟨x, 1, 0, 1, true⟩] from by unfold addS; rw [hasS_no hno]; rfl)
          obtain ⟨h1, h2, hw, a2, n2, c2, hB, hRR, h5⟩ := hM
          obtain ⟨c1, f1⟩ := hB.at (o := 1) rfl
          have HC := hide c1
          have hn2 : n2 ≤ 20000 := by rw [← hRR.1]; exact hln
          have hOd : (wr.alloc (.cells #[.int .i64 x, .int .i64 1, .int .i64 0, .int .i64 1, .bool true] 49)).ownsRow 0 49 5 (.slice a2 n2 c2) n2 (wdV U) := hRR.2.alloc _
          have HOd := hide hOd
          have HNW := hide (news_new wr [.int .i64 x, .int .i64 1, .int .i64 0, .int .i64 1, .bool true] 49)
          have HON := hide (show ∀ u ∈ [Value.int .i64 x, .int .i64 1, .int .i64 0, .int .i64 1, .bool true], u.oneCell' = true from fun u hu => wdV_one [⟨x, 1, 0, 1, true⟩] u hu)
          obtain ⟨i0, hi, hz0, hz1, hz2⟩ := info_parts Try.info49
          have HI := hide (And.intro hi (And.intro hz0 (And.intro hz1 hz2)))
          have c1a := keep_cell c1 (below_new wr (.cells #[.int .i64 x, .int .i64 1, .int .i64 0, .int .i64 1, .bool true] 49))
          have c1b : (wr.alloc (.cells #[.int .i64 x, .int .i64 1, .int .i64 0, .int .i64 1, .bool true] 49)).drew.cell? ⟨w.heap.size, 1, none⟩ = some (.slice a2 n2 c2) := c1a
          have c1c : (wr.drew.alloc (.cells #[.int .i64 x, .int .i64 1, .int .i64 0, .int .i64 1, .bool true] 49)).cell? ⟨w.heap.size, 1, none⟩ = some (.slice a2 n2 c2) := c1a
          have HBD := hide ((below_new wr (.cells #[.int .i64 x, .int .i64 1, .int .i64 0, .int .i64 1, .bool true] 49)).drew)
          have HFF := hide (fun (g : Nat) (W : World) (hm : RbM (fun k => E k ∨ k = g) W w.heap.size (wt) (U ++ [⟨x, 1, 0, 1, true⟩])) (hs : Stp E (fun k => E k ∨ k = g) wr W) => show ∃ E, RbM E W w.heap.size (wt) (newS (l.take (k + 1))) ∧ Below w.heap.size w W ∧ ∀ j, E j → w.heap.size ≤ j from by
            refine ⟨_, by rw [HO.out, HN.out]; exact hm, hs.kp.below HBW.out (Nat.le_refl _) (fun j hj e => by have := HE.out j e; omega), fun j hj => ?_⟩
            rcases Nat.lt_or_ge j wr.heap.size with h | h
            · exact HE.out j ((hs.col j h).1 hj)
            · exact Nat.le_trans HBW.out.size h)
          clear hno hbw hE HA h1 h5 hB hRR hOd hi hz0 hz1 hz2
          go_upto_region 8 with (go_at_call 21; go_must ((with_reducible refine C21.out.mono ?_); rintro e w1 ⟨rfl, hw1⟩; subst hw1))
          go_region_law (refine step_append_lies _ rfl (.tmp 32) (.tmp 38) 44 rfl 0 49 i0 (.agg #[.int .i64 0, .int .i64 0, .int .i64 0, .int .i64 0, .bool false]) 5 40 Try.underlying44 HI.out.1 HI.out.2.1 HI.out.2.2.1 HI.out.2.2.2 rfl (by omega) (.slice a2 n2 c2) n2 (wdV U) (by simp [Act.eval, Act.put]) HOd.out ⟨_, 0, none⟩ 1 1 [.int .i64 x, .int .i64 1, .int .i64 0, .int .i64 1, .bool true] (by simp [Act.eval, Act.put]) rfl HNW.out HON.out (by omega) (by unfold maxLen; omega) (by omega) (Nat.zero_le _) _ rfl ?_; intro g3 cap3 w3 ho3 hg3 hat3 hlt3; obtain ⟨hM3, hS3, z1, z2⟩ := RbM.grow HM.out HC.out HBD.out ⟨x, 1, 0, 1, true⟩ ho3 hg3 (by simpa using hat3) hlt3; have HF := hide (HFF.out g3 _ hM3 hS3); clear ho3 hg3 hat3 hlt3 hM3 hS3)
          all_goals go_wp2_with fail
          all_goals go_roundw
          all_goals first
            | (case rel => exact ⟨k + 1, by omega, by go_num, HF⟩)
            | (case measure => simp [intOf]; omega)
            | skip

        · have C21 := hide (find_any hM (by omega) x j hat.pos)
          have HN := hide (show ∃ E, RbM E wr w.heap.size (wt) (newS (l.take (k + 1))) ∧ Below w.heap.size w wr ∧ ∀ j, E j → w.heap.size ≤ j from ⟨E, by rw [HO.out]; unfold addS; rw [hasS_yes hat]; exact hM, hbw, hE⟩)
          have hj : ¬ (j : Int) < 0 := by omega
          clear hat hM hbw hE HA
          go_wp2_with (go_at_call 21; go_must ((with_reducible refine C21.out.mono ?_); rintro e w1 ⟨rfl, hw1⟩; subst hw1))
          go_roundw
          case rel => exact ⟨k + 1, by omega, by go_num, HN⟩
          case measure => simp [intOf]; omega
      · obtain rfl : k = n := by omega
        have HN := hide (show ∃ E, RbM E wr w.heap.size (wt) (newS l) ∧ Below w.heap.size w wr ∧ ∀ j, E j → w.heap.size ≤ j from by
          have h := HA.out
          rw [List.take_of_length_le (by have := HL.out; omega)] at h
          exact h)
        go_wp2
        go_ret
        obtain ⟨E, q1, q2, q3⟩ := HN.out
        exact ⟨_, E, rfl, q1, q2, q3⟩
end Go.Proofs.Ytcfenakafcfjbaa
