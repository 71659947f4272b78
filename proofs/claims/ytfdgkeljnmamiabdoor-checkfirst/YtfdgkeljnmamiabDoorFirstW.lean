/- CheckFirst answers true: its walk. -/
import Derived.Test.YtfdgkeljnmamiabDoorFirstP
namespace Go.Proofs.YtfdgkeljnmamiabDoor
open Go.RowKit Go.ChangeShapes Go.WideShapes Go.ChangeAt Go.Deep

theorem Tryd.info32 : (Tryd.prog.info? 32).map (fun i => (i.zero, i.size, i.bytes)) = some (some (.agg #[.string ⟨#[]⟩, .int .i64 0, .int .i64 0, .slice none 0 0]), 4, 56) := by kernel_rfl
/-- The functions of the job in the making: their codes. -/
def Codes (w : World) (l : List Bool) (cs : List Value) : Prop := cs.length = l.length ∧ ∀ (i : Nat) (b : Bool), l[i]? = some b → ∃ g, cs[i]? = some (Value.slice (some ⟨g, 0, none⟩) 2 2) ∧ w.heap[g]? = some (.cells (insV (codeOf b)).toArray 29 (0, 0))
theorem Codes.keep {w w' : World} {l : List Bool} {cs : List Value} (h : Codes w l cs) (hb : ∀ (g : Nat) (c : Array Value), w.heap[g]? = some (Obj.cells c 29 (0, 0)) → w'.heap[g]? = w.heap[g]?) : Codes w' l cs :=
  ⟨h.1, fun i b hi => by obtain ⟨g, e, hr⟩ := h.2 i b hi; exact ⟨g, e, by rw [hb g _ hr]; exact hr⟩⟩
theorem Codes.below {w w' : World} {l : List Bool} {cs : List Value} (h : Codes w l cs) (hb : Below w.heap.size w w') : Codes w' l cs :=
  h.keep (fun g _ hg => hb.block g (lt_row hg))
theorem Codes.more {w : World} {l : List Bool} {cs : List Value} (h : Codes w l cs) (b : Bool) (g : Nat) (hr : w.heap[g]? = some (.cells (insV (codeOf b)).toArray 29 (0, 0))) : Codes w (l ++ [b]) (cs ++ [Value.slice (some ⟨g, 0, none⟩) 2 2]) := by
  refine ⟨by simp [h.1], fun i c hi => ?_⟩
  rcases Nat.lt_or_ge i l.length with q | q
  · rw [List.getElem?_append_left q] at hi
    obtain ⟨g', e, hr'⟩ := h.2 i c hi
    exact ⟨g', by rw [List.getElem?_append_left (by rw [h.1]; exact q)]; exact e, hr'⟩
  · rw [List.getElem?_append_right q] at hi
    have hi0 : i - l.length = 0 := by
      rcases Nat.eq_zero_or_pos (i - l.length) with z | z
      · exact z
      · rw [List.getElem?_eq_none (by simp; omega)] at hi; cases hi
    rw [hi0] at hi
    simp at hi
    subst hi
    exact ⟨g, by rw [List.getElem?_append_right (by rw [h.1]; exact q), h.1, hi0]; rfl, hr⟩
theorem frs_next (l : List Bool) (cs : List Value) (b : Bool) (c : Value) (h : cs.length = l.length) : frs (fsOf (l ++ [b])) (cs ++ [c]) = frs (fsOf l) cs ++ [⟨nameAt l.length, 0, 0, c⟩] := by
  unfold frs
  rw [fsOf_next, List.zipWith_append (by rw [fsOf_len, h])]
  rfl
theorem funV_app (a b : List FR) : funV (a ++ b) = funV a ++ funV b := by simp [funV]
theorem name_slice (k : Nat) (hk : k < 26) (w : World) : (Instr.slice 9 (.string abc) (some (.int .i64 (k : Int))) (some (.int .i64 ((k : Int) + 1))) none).run Tryd.prog w = .ok (.string (nameAt k)) w := by
  have hz : abc.size = 26 := rfl
  rw [run_slice_string_if _ _ _ _ _ _ _ Tryd.underlying9, if_pos ⟨by omega, by rw [hz]; omega⟩, if_pos ⟨by omega, by omega⟩]
  rw [show ((k : Int) + 1).toNat = k + 1 by omega, Int.toNat_natCast]
  rfl

theorem funV_at : ∀ (fs : List FR) (j i : Nat) (v : Value), j < fs.length → (FR.enc fs[j]!)[i]? = some v → (funV fs)[j * 4 + i]? = some v
  | [], j, _, _, h, _ => by simp at h
  | f :: r, 0, i, v, _, h => by
    have hi : i < 4 := by
      rcases Nat.lt_or_ge i 4 with q | q
      · exact q
      · rw [List.getElem?_eq_none (by simpa [FR.enc] using q)] at h; cases h
    have h' : (FR.enc f)[i]? = some v := by simpa using h
    show ((FR.enc f) ++ funV r)[0 * 4 + i]? = _
    rw [Nat.zero_mul, Nat.zero_add, List.getElem?_append_left (by simpa [FR.enc] using hi)]
    exact h'
  | f :: r, j + 1, i, v, hj, h => by
    have ih := funV_at r j i v (by simpa using hj) (by simpa using h)
    show ((FR.enc f) ++ funV r)[(j + 1) * 4 + i]? = _
    rw [List.getElem?_append_right (by simp [FR.enc]; omega)]
    rw [show (j + 1) * 4 + i - (FR.enc f).length = j * 4 + i by simp [FR.enc]; omega]
    exact ih
theorem freads_own {w : World} {B n : Nat} {v : Value} {fs : List FR} (ho : w.ownsRow B 32 4 v n (funV fs)) (hn : fs.length = n) : ∃ a c, v = .slice a n c ∧ n ≤ c ∧ FReads w a fs := by
  rcases ho.2 with ⟨rfl, h0⟩ | ⟨g, c, cur, rfl, h1, h2, h3, h4, h5, h6⟩
  · subst h0
    exact ⟨none, 0, rfl, Nat.le_refl _, .inl ⟨rfl, List.eq_nil_of_length_eq_zero hn⟩⟩
  · refine ⟨_, c, rfl, h3, .inr ⟨g, 0, rfl, lt_row h2, fun j hj i u hu => ?_⟩⟩
    have := ho.cells (g := g) rfl (j * 4 + i) u (funV_at fs j i u hj hu)
    rw [add_none] at this
    rw [Nat.zero_add]
    simpa using this
theorem own_keepF {w w' : World} {B n : Nat} {v : Value} {xs : List Value} (h : w.ownsRow B 32 4 v n xs) (hb : ∀ g, v.ownBlock = some g → w'.heap[g]? = w.heap[g]?) : w'.ownsRow B 32 4 v n xs := by
  refine ⟨h.1, ?_⟩
  rcases h.2 with h | ⟨g, cap, cur, e, h1, h2, h3⟩
  · exact .inl h
  · exact .inr ⟨g, cap, cur, e, h1, by rw [hb g (by rw [e]; rfl)]; exact h2, h3⟩
theorem own_belowF {w w' : World} {B n : Nat} {v : Value} {xs : List Value} (h : w.ownsRow B 32 4 v n xs) (hb : Below w.heap.size w w') : w'.ownsRow B 32 4 v n xs :=
  own_keepF h (fun g hg => hb.block g (h.lt g hg).2)
theorem want_false (l : List Bool) : wantL (l ++ [false]) = wantL l := by
  unfold wantL
  by_cases h : true ∈ l
  · have h1 := List.idxOf_lt_length_iff.2 h
    rw [List.idxOf_append, if_pos h, if_pos h1, if_pos (by simp; omega)]
  · have h1 : ¬ l.idxOf true < l.length := fun q => h (List.idxOf_lt_length_iff.1 q)
    have h2 : ¬ (l ++ [false]).idxOf true < (l ++ [false]).length := fun q => h (by simpa using List.idxOf_lt_length_iff.1 q)
    rw [if_neg h1, if_neg h2]
theorem want_old {l : List Bool} (h : ¬ wantL l < 0) : wantL (l ++ [true]) = wantL l := by
  unfold wantL at *
  split at h
  · rename_i h1
    have hm := List.idxOf_lt_length_iff.1 h1
    rw [List.idxOf_append, if_pos hm, if_pos h1, if_pos (by simp; omega)]
  · simp at h
theorem want_new {l : List Bool} (h : wantL l < 0) : wantL (l ++ [true]) = (l.length : Int) := by
  have hm : true ∉ l := by
    intro hm
    unfold wantL at h
    rw [if_pos (List.idxOf_lt_length_iff.2 hm)] at h
    omega
  refine want_at (by simp) (fun j b hj hb => ?_)
  rw [List.getElem?_append_left hj] at hb
  cases b with
  | false => rfl
  | true => exact absurd (List.mem_of_getElem? hb) hm

set_option maxRecDepth 100000 in
set_option maxHeartbeats 4000000 in
theorem first_any (l : List Bool) (ad : Option Addr) (cap : Nat) (w : World) (hE : Env w) (hr : Reads w ad (tV l)) :
    Calls Tryd.prog 3 #[.slice ad l.length cap] w fun r w' => r = .returned (.bool true) ∧ Below w.heap.size w w' := by
  have CA := alive_any w hE
  by_cases h1 : l.length < 1
  · have h1' : (l.length : Int) < 1 := by omega
    go_enter Tryd.func3, Tryd.ntmps3
    go_wp2_with (go_at_call 4; go_must (with_reducible refine CA.mono ?_; (rintro e w1 ⟨rfl, hb1⟩)))
    go_ret
    exact ⟨rfl, hb1⟩
  by_cases h2 : 26 < l.length
  · have h2' : (26 : Int) < (l.length : Int) := by omega
    go_enter Tryd.func3, Tryd.ntmps3
    go_wp2_with (go_at_call 4; go_must (with_reducible refine CA.mono ?_; (rintro e w1 ⟨rfl, hb1⟩)))
    go_ret
    exact ⟨rfl, hb1⟩
  have h1' : ¬ (l.length : Int) < 1 := by omega
  have h2' : ¬ (26 : Int) < (l.length : Int) := by omega
  have HR := hide hr
  clear hr
  obtain ⟨i0, hi, hz0, hz1, hz2⟩ := info_parts Tryd.info32
  go_enter Tryd.func3, Tryd.ntmps3
  go_wp2_with (go_at_call 4; go_must (with_reducible refine CA.mono ?_; (rintro e w1 ⟨rfl, hb1⟩)))
  clear CA
  have hs1 := hb1.size
  go_loopw [6, 5] (fun i wt wr => Below w.heap.size w wr ∧ ∃ k : Nat, k ≤ l.length ∧ i = .int .i64 (k : Nat) ∧ wt = .int .i64 (wantL (l.take k)) ∧ Hid (∃ v cs, wr.heap[w1.heap.size]? = some (.cells #[v, .int .i64 0, .slice none 0 0, .int .i64 10, .int .i64 10] 27 (0, 0)) ∧ wr.ownsRow (w1.heap.size + 1) 32 4 v k (funV (frs (fsOf (l.take k)) cs)) ∧ Codes wr (l.take k) cs)) (fun i _ _ => l.length - (intOf i).toNat)
  case atStart => exact ⟨hb1.alloc hs1 _, 0, by omega, rfl, by rfl, ⟨.slice none 0 0, [], heap_alloc_new w1 _, World.ownsRow_nil _ _ _ _, ⟨rfl, fun i b hi => by simp at hi⟩⟩⟩
  case round =>
    obtain ⟨hbw, k, hk, rfl, rfl, hx⟩ := hrel
    obtain ⟨v, cs, hj, ho, hco⟩ := hx.out
    have hszw := lt_row hj
    have HB := hide hbw
    by_cases hlt : k < l.length
    · have hlt' : (k : Int) < (l.length : Int) := by omega
      obtain ⟨b, hb⟩ : ∃ b, l[k]? = some b := ⟨l[k], List.getElem?_eq_getElem hlt⟩
      obtain ⟨bb, bo, rfl, cb⟩ : ∃ bb bo, ad = some ⟨bb, bo, none⟩ ∧ wr.cell? ⟨bb, bo + k, none⟩ = some (.bool b) := by
        rcases HR.out.below hbw with h | ⟨bb, bo, e, h⟩
        · have : l = [] := by simpa [tV] using h
          subst this; simp at hb
        · exact ⟨bb, bo, e, h k _ (by simp [tV, hb])⟩
      obtain ⟨nm, en⟩ : ∃ nm, (⟨#[97, 98, 99, 100, 101, 102, 103, 104, 105, 106, 107, 108, 109, 110, 111, 112, 113, 114, 115, 116, 117, 118, 119, 120, 121, 122]⟩ : ByteArray).extract k (k + 1) = nm := ⟨_, rfl⟩
      have HNM := hide (show nameAt k = nm from en)
      have hb2 : Below wr.heap.size wr ((wr.alloc (.cells #[.int .i64 1, .int .i64 0, .int .i64 18, .int .i64 0] 29)).alloc (.cells #[.string nm, .int .i64 0, .int .i64 0, .slice (some ⟨wr.heap.size, 0, none⟩) 2 2] 32)) := ((Below.refl _ _).alloc (Nat.le_refl _) _).alloc (by simp) _
      have HJ := hide hj
      clear hj hbw hx
      go_upto_region 10 with fail
      have hgc : ((wr.alloc (.cells #[.int .i64 1, .int .i64 0, .int .i64 18, .int .i64 0] 29)).alloc (.cells #[.string nm, .int .i64 0, .int .i64 0, .slice (some ⟨wr.heap.size, 0, none⟩) 2 2] 32)).heap[wr.heap.size]? = some (.cells #[.int .i64 1, .int .i64 0, .int .i64 18, .int .i64 0] 29 (0, 0)) := by
        rw [heap_alloc_old _ _ (by simp), heap_alloc_new]
      have hgf : ((wr.alloc (.cells #[.int .i64 1, .int .i64 0, .int .i64 18, .int .i64 0] 29)).alloc (.cells #[.string nm, .int .i64 0, .int .i64 0, .slice (some ⟨wr.heap.size, 0, none⟩) 2 2] 32)).heap[wr.heap.size + 1]? = some (.cells #[.string nm, .int .i64 0, .int .i64 0, .slice (some ⟨wr.heap.size, 0, none⟩) 2 2] 32 (0, 0)) := by
        have := heap_alloc_new (wr.alloc (.cells #[.int .i64 1, .int .i64 0, .int .i64 18, .int .i64 0] 29)) (.cells #[.string nm, .int .i64 0, .int .i64 0, .slice (some ⟨wr.heap.size, 0, none⟩) 2 2] 32)
        simpa using this
      clear en
      generalize ((wr.alloc (.cells #[.int .i64 1, .int .i64 0, .int .i64 18, .int .i64 0] 29)).alloc (.cells #[.string nm, .int .i64 0, .int .i64 0, .slice (some ⟨wr.heap.size, 0, none⟩) 2 2] 32)) = w2 at hb2 hgc hgf ⊢
      have hs2 := lt_row hgf
      have cb2 := keep_cell cb hb2
      have hj2 : w2.heap[w1.heap.size]? = some (.cells #[v, .int .i64 0, .slice none 0 0, .int .i64 10, .int .i64 10] 27 (0, 0)) := by rw [hb2.block _ hszw]; exact HJ.out
      have HO := hide ho
      have HCO := hide hco
      clear ho hco
      cases b with
      | false =>
        have HB3 := hide hb2
        have HC3 := hide (show w2.heap[wr.heap.size]? = some (.cells (insV (codeOf false)).toArray 29 (0, 0)) from hgc)
        have HF3 := hide hgf
        have HJ3 := hide hj2
        clear hb2 hgc hgf hj2
        go_upto_region 14 with fail
        clear cb2 cb
        generalize w2 = w3 at *
        have hb3 : Below wr.heap.size wr w3 := HB3.out
        have hs3 := lt_row HF3.out
        have cj : w3.cell? ⟨w1.heap.size, 0, none⟩ = some v := by simp [World.cell?, HJ3.out]
        have f0 : w3.cell? ⟨wr.heap.size + 1, 0, none⟩ = some (.string nm) := by simp [World.cell?, HF3.out]
        have f1 : w3.cell? ⟨wr.heap.size + 1, 1, none⟩ = some (.int .i64 0) := by simp [World.cell?, HF3.out]
        have f2 : w3.cell? ⟨wr.heap.size + 1, 2, none⟩ = some (.int .i64 0) := by simp [World.cell?, HF3.out]
        have f3 : w3.cell? ⟨wr.heap.size + 1, 3, none⟩ = some (.slice (some ⟨wr.heap.size, 0, none⟩) 2 2) := by simp [World.cell?, HF3.out]
        have ho3 : w3.ownsRow (w1.heap.size + 1) 32 4 v k (funV (frs (fsOf (l.take k)) cs)) := own_belowF HO.out hb3
        go_wp2_with (at_builtin; go_must (refine wpList_append_own _ rfl (.tmp 52) (.tmp 54) 24 rfl (w1.heap.size + 1) 32 i0 (.agg #[.string ⟨#[]⟩, .int .i64 0, .int .i64 0, .slice none 0 0]) 4 56 Tryd.underlying24 hi hz0 hz1 hz2 rfl (by decide) v k _ rfl (ho3.alloc _) ⟨w3.heap.size, 0, none⟩ 1 1 [.string nm, .int .i64 0, .int .i64 0, .slice (some ⟨wr.heap.size, 0, none⟩) 2 2] rfl rfl (cells_new w3 _ 32) (by simp [Value.oneCell']) (by unfold maxLen; omega) (by omega) (by simp; omega) ?_; intro v4 w4 ho4 hg4 _; refine Hid.out ?_))
        refine Lib.hid ?_
        obtain ⟨a4, c4, rfl⟩ : ∃ a4 c4, v4 = .slice a4 (k + 1) c4 := by
          rcases ho4.2 with ⟨_, h0⟩ | ⟨g, cap, cur, rfl, _⟩
          · omega
          · exact ⟨_, _, rfl⟩
        have hne : ∀ q, v.ownBlock = some q → w1.heap.size + 1 ≤ q ∧ q < w3.heap.size := fun q hq => ho3.lt q hq
        have hb4 : Below w.heap.size w w4 := (((HB.out.trans (hb3.mono (by omega))).alloc (by omega) _)).grown hg4 (by simp; omega) (fun q hq => by have := (hne q hq).1; omega)
        have hj4 : w4.heap[w1.heap.size]? = some (.cells #[v, .int .i64 0, .slice none 0 0, .int .i64 10, .int .i64 10] 27 (0, 0)) := by
          rw [hg4.block _ (by simp; omega) (by intro e; have := (hne _ e.symm).1; omega), heap_alloc_old _ _ (by omega)]
          exact HJ3.out
        have cj4 : w4.cell? ⟨w1.heap.size, 0, none⟩ = some v := by simp [World.cell?, hj4]
        have fj4 : w4.frozen? ⟨w1.heap.size, 0, none⟩ = false := by simp [World.frozen?, hj4]
        have hj5 := heap_setCell_same w4 w1.heap.size 0 _ 27 (.slice a4 (k + 1) c4) hj4
        have HB5 := hide (show Below w.heap.size w (w4.setCell ⟨w1.heap.size, 0, none⟩ (.slice a4 (k + 1) c4)) from hb4.setCell (p := ⟨w1.heap.size, 0, none⟩) (by show w.heap.size ≤ w1.heap.size; omega) _)
        have hco3 : Codes w3 (l.take k ++ [false]) (cs ++ [.slice (some ⟨wr.heap.size, 0, none⟩) 2 2]) := (HCO.out.below hb3).more false wr.heap.size HC3.out
        have hlow : ∀ q, q < w3.heap.size → q ≠ w1.heap.size → some q ≠ v.ownBlock → (w4.setCell ⟨w1.heap.size, 0, none⟩ (.slice a4 (k + 1) c4)).heap[q]? = w3.heap[q]? := fun q h1 h2 h3 => by
          rw [heap_setCell_other _ _ _ _ h2, hg4.block q (by simp; omega) h3, heap_alloc_old _ _ h1]
        have HCO5 := hide (show Codes (w4.setCell ⟨w1.heap.size, 0, none⟩ (.slice a4 (k + 1) c4)) (l.take k ++ [false]) (cs ++ [.slice (some ⟨wr.heap.size, 0, none⟩) 2 2]) from hco3.keep (fun q c hq => hlow q (lt_row hq) (fun e => by
          rw [e, HJ3.out] at hq
          simp at hq) (fun e => by
          rcases ho3.2 with ⟨e2, _⟩ | ⟨g, cap, cur, e2, _, e3, _⟩
          · rw [e2] at e; cases e
          · rw [e2] at e
            cases e
            rw [e3] at hq
            simp at hq)))
        have ho5 : (w4.setCell ⟨w1.heap.size, 0, none⟩ (.slice a4 (k + 1) c4)).ownsRow (w1.heap.size + 1) 32 4 (.slice a4 (k + 1) c4) (k + 1) (funV (frs (fsOf (l.take k ++ [false])) (cs ++ [.slice (some ⟨wr.heap.size, 0, none⟩) 2 2]))) := by
          rw [frs_next _ _ _ _ HCO.out.1, funV_app]
          have hnm : nameAt (l.take k).length = nm := by rw [show (l.take k).length = k by simp; omega]; exact HNM.out
          rw [hnm]
          refine own_keepF (w := w4) ?_ (fun q hq => heap_setCell_other _ _ _ _ (by have := (ho4.lt q hq).1; show q ≠ w1.heap.size; omega))
          exact ho4
        have HO5 := hide ho5
        have HJ5 := hide hj5
        have HTK := hide (show l.take (k + 1) = l.take k ++ [false] by rw [List.take_add_one, hb]; rfl)
        go_wp2_with fail
        go_roundw
        case rel => exact ⟨by simpa using HB5.out, k + 1, by omega, by go_num, by rw [HTK.out]; exact congrArg _ (want_false _).symm, by
          refine Lib.hid ?_
          rw [HTK.out]
          exact ⟨.slice a4 (k + 1) c4, _, by simpa using HJ5.out, by simpa using HO5.out, by simpa using HCO5.out⟩⟩
        case measure => simp [intOf]; omega
      | true =>
        have c18 : w2.cell? ⟨wr.heap.size, 2, none⟩ = some (.int .i64 18) := by simp [World.cell?, hgc]
        have fz2 : w2.frozen? ⟨wr.heap.size, 2, none⟩ = false := by simp [World.frozen?, hgc]
        have f3' : w2.cell? ⟨wr.heap.size + 1, 3, none⟩ = some (.slice (some ⟨wr.heap.size, 0, none⟩) 2 2) := by simp [World.cell?, hgf]
        have HB3 := hide (show Below wr.heap.size wr (w2.setCell ⟨wr.heap.size, 2, none⟩ (.int .i64 2)) from hb2.setCell (p := ⟨wr.heap.size, 2, none⟩) (Nat.le_refl _) _)
        have HC3 := hide (show (w2.setCell ⟨wr.heap.size, 2, none⟩ (.int .i64 2)).heap[wr.heap.size]? = some (.cells (insV (codeOf true)).toArray 29 (0, 0)) from heap_setCell_same w2 wr.heap.size 2 _ 29 (.int .i64 2) hgc)
        have HF3 := hide (show (w2.setCell ⟨wr.heap.size, 2, none⟩ (.int .i64 2)).heap[wr.heap.size + 1]? = some (.cells #[.string nm, .int .i64 0, .int .i64 0, .slice (some ⟨wr.heap.size, 0, none⟩) 2 2] 32 (0, 0)) by rw [heap_setCell_other _ _ _ _ (by show wr.heap.size + 1 ≠ wr.heap.size; omega)]; exact hgf)
        have HJ3 := hide (show (w2.setCell ⟨wr.heap.size, 2, none⟩ (.int .i64 2)).heap[w1.heap.size]? = some (.cells #[v, .int .i64 0, .slice none 0 0, .int .i64 10, .int .i64 10] 27 (0, 0)) by rw [heap_setCell_other _ _ _ _ (by show w1.heap.size ≠ wr.heap.size; omega)]; exact hj2)
        clear hb2 hgc hgf hj2
        by_cases hw0 : wantL (l.take k) < 0
        · go_upto_region 14 with fail
          clear cb2 cb c18 fz2 f3'
          generalize w2.setCell ⟨wr.heap.size, 2, none⟩ (.int .i64 2) = w3 at *
          have hb3 : Below wr.heap.size wr w3 := HB3.out
          have hs3 := lt_row HF3.out
          have cj : w3.cell? ⟨w1.heap.size, 0, none⟩ = some v := by simp [World.cell?, HJ3.out]
          have f0 : w3.cell? ⟨wr.heap.size + 1, 0, none⟩ = some (.string nm) := by simp [World.cell?, HF3.out]
          have f1 : w3.cell? ⟨wr.heap.size + 1, 1, none⟩ = some (.int .i64 0) := by simp [World.cell?, HF3.out]
          have f2 : w3.cell? ⟨wr.heap.size + 1, 2, none⟩ = some (.int .i64 0) := by simp [World.cell?, HF3.out]
          have f3 : w3.cell? ⟨wr.heap.size + 1, 3, none⟩ = some (.slice (some ⟨wr.heap.size, 0, none⟩) 2 2) := by simp [World.cell?, HF3.out]
          have ho3 : w3.ownsRow (w1.heap.size + 1) 32 4 v k (funV (frs (fsOf (l.take k)) cs)) := own_belowF HO.out hb3
          go_wp2_with (at_builtin; go_must (refine wpList_append_own _ rfl (.tmp 52) (.tmp 54) 24 rfl (w1.heap.size + 1) 32 i0 (.agg #[.string ⟨#[]⟩, .int .i64 0, .int .i64 0, .slice none 0 0]) 4 56 Tryd.underlying24 hi hz0 hz1 hz2 rfl (by decide) v k _ rfl (ho3.alloc _) ⟨w3.heap.size, 0, none⟩ 1 1 [.string nm, .int .i64 0, .int .i64 0, .slice (some ⟨wr.heap.size, 0, none⟩) 2 2] rfl rfl (cells_new w3 _ 32) (by simp [Value.oneCell']) (by unfold maxLen; omega) (by omega) (by simp; omega) ?_; intro v4 w4 ho4 hg4 _; refine Hid.out ?_))
          refine Lib.hid ?_
          obtain ⟨a4, c4, rfl⟩ : ∃ a4 c4, v4 = .slice a4 (k + 1) c4 := by
            rcases ho4.2 with ⟨_, h0⟩ | ⟨g, cap, cur, rfl, _⟩
            · omega
            · exact ⟨_, _, rfl⟩
          have hne : ∀ q, v.ownBlock = some q → w1.heap.size + 1 ≤ q ∧ q < w3.heap.size := fun q hq => ho3.lt q hq
          have hb4 : Below w.heap.size w w4 := (((HB.out.trans (hb3.mono (by omega))).alloc (by omega) _)).grown hg4 (by simp; omega) (fun q hq => by have := (hne q hq).1; omega)
          have hj4 : w4.heap[w1.heap.size]? = some (.cells #[v, .int .i64 0, .slice none 0 0, .int .i64 10, .int .i64 10] 27 (0, 0)) := by
            rw [hg4.block _ (by simp; omega) (by intro e; have := (hne _ e.symm).1; omega), heap_alloc_old _ _ (by omega)]
            exact HJ3.out
          have cj4 : w4.cell? ⟨w1.heap.size, 0, none⟩ = some v := by simp [World.cell?, hj4]
          have fj4 : w4.frozen? ⟨w1.heap.size, 0, none⟩ = false := by simp [World.frozen?, hj4]
          have hj5 := heap_setCell_same w4 w1.heap.size 0 _ 27 (.slice a4 (k + 1) c4) hj4
          have HB5 := hide (show Below w.heap.size w (w4.setCell ⟨w1.heap.size, 0, none⟩ (.slice a4 (k + 1) c4)) from hb4.setCell (p := ⟨w1.heap.size, 0, none⟩) (by show w.heap.size ≤ w1.heap.size; omega) _)
          have hco3 : Codes w3 (l.take k ++ [true]) (cs ++ [.slice (some ⟨wr.heap.size, 0, none⟩) 2 2]) := (HCO.out.below hb3).more true wr.heap.size HC3.out
          have hlow : ∀ q, q < w3.heap.size → q ≠ w1.heap.size → some q ≠ v.ownBlock → (w4.setCell ⟨w1.heap.size, 0, none⟩ (.slice a4 (k + 1) c4)).heap[q]? = w3.heap[q]? := fun q h1 h2 h3 => by
            rw [heap_setCell_other _ _ _ _ h2, hg4.block q (by simp; omega) h3, heap_alloc_old _ _ h1]
          have HCO5 := hide (show Codes (w4.setCell ⟨w1.heap.size, 0, none⟩ (.slice a4 (k + 1) c4)) (l.take k ++ [true]) (cs ++ [.slice (some ⟨wr.heap.size, 0, none⟩) 2 2]) from hco3.keep (fun q c hq => hlow q (lt_row hq) (fun e => by
            rw [e, HJ3.out] at hq
            simp at hq) (fun e => by
            rcases ho3.2 with ⟨e2, _⟩ | ⟨g, cap, cur, e2, _, e3, _⟩
            · rw [e2] at e; cases e
            · rw [e2] at e
              cases e
              rw [e3] at hq
              simp at hq)))
          have ho5 : (w4.setCell ⟨w1.heap.size, 0, none⟩ (.slice a4 (k + 1) c4)).ownsRow (w1.heap.size + 1) 32 4 (.slice a4 (k + 1) c4) (k + 1) (funV (frs (fsOf (l.take k ++ [true])) (cs ++ [.slice (some ⟨wr.heap.size, 0, none⟩) 2 2]))) := by
            rw [frs_next _ _ _ _ HCO.out.1, funV_app]
            have hnm : nameAt (l.take k).length = nm := by rw [show (l.take k).length = k by simp; omega]; exact HNM.out
            rw [hnm]
            refine own_keepF (w := w4) ?_ (fun q hq => heap_setCell_other _ _ _ _ (by have := (ho4.lt q hq).1; show q ≠ w1.heap.size; omega))
            exact ho4
          have HO5 := hide ho5
          have HJ5 := hide hj5
          have HTK := hide (show l.take (k + 1) = l.take k ++ [true] by rw [List.take_add_one, hb]; rfl)
          go_wp2_with fail
          go_roundw
          case rel => exact ⟨by simpa using HB5.out, k + 1, by omega, by go_num, by rw [HTK.out]; rw [want_new hw0, show (l.take k).length = k by simp; omega], by
            refine Lib.hid ?_
            rw [HTK.out]
            exact ⟨.slice a4 (k + 1) c4, _, by simpa using HJ5.out, by simpa using HO5.out, by simpa using HCO5.out⟩⟩
          case measure => simp [intOf]; omega
        · have hw0' : ¬ wantL (l.take k) < 0 := hw0
          go_upto_region 14 with fail
          clear cb2 cb c18 fz2 f3'
          generalize w2.setCell ⟨wr.heap.size, 2, none⟩ (.int .i64 2) = w3 at *
          have hb3 : Below wr.heap.size wr w3 := HB3.out
          have hs3 := lt_row HF3.out
          have cj : w3.cell? ⟨w1.heap.size, 0, none⟩ = some v := by simp [World.cell?, HJ3.out]
          have f0 : w3.cell? ⟨wr.heap.size + 1, 0, none⟩ = some (.string nm) := by simp [World.cell?, HF3.out]
          have f1 : w3.cell? ⟨wr.heap.size + 1, 1, none⟩ = some (.int .i64 0) := by simp [World.cell?, HF3.out]
          have f2 : w3.cell? ⟨wr.heap.size + 1, 2, none⟩ = some (.int .i64 0) := by simp [World.cell?, HF3.out]
          have f3 : w3.cell? ⟨wr.heap.size + 1, 3, none⟩ = some (.slice (some ⟨wr.heap.size, 0, none⟩) 2 2) := by simp [World.cell?, HF3.out]
          have ho3 : w3.ownsRow (w1.heap.size + 1) 32 4 v k (funV (frs (fsOf (l.take k)) cs)) := own_belowF HO.out hb3
          go_wp2_with (at_builtin; go_must (refine wpList_append_own _ rfl (.tmp 52) (.tmp 54) 24 rfl (w1.heap.size + 1) 32 i0 (.agg #[.string ⟨#[]⟩, .int .i64 0, .int .i64 0, .slice none 0 0]) 4 56 Tryd.underlying24 hi hz0 hz1 hz2 rfl (by decide) v k _ rfl (ho3.alloc _) ⟨w3.heap.size, 0, none⟩ 1 1 [.string nm, .int .i64 0, .int .i64 0, .slice (some ⟨wr.heap.size, 0, none⟩) 2 2] rfl rfl (cells_new w3 _ 32) (by simp [Value.oneCell']) (by unfold maxLen; omega) (by omega) (by simp; omega) ?_; intro v4 w4 ho4 hg4 _; refine Hid.out ?_))
          refine Lib.hid ?_
          obtain ⟨a4, c4, rfl⟩ : ∃ a4 c4, v4 = .slice a4 (k + 1) c4 := by
            rcases ho4.2 with ⟨_, h0⟩ | ⟨g, cap, cur, rfl, _⟩
            · omega
            · exact ⟨_, _, rfl⟩
          have hne : ∀ q, v.ownBlock = some q → w1.heap.size + 1 ≤ q ∧ q < w3.heap.size := fun q hq => ho3.lt q hq
          have hb4 : Below w.heap.size w w4 := (((HB.out.trans (hb3.mono (by omega))).alloc (by omega) _)).grown hg4 (by simp; omega) (fun q hq => by have := (hne q hq).1; omega)
          have hj4 : w4.heap[w1.heap.size]? = some (.cells #[v, .int .i64 0, .slice none 0 0, .int .i64 10, .int .i64 10] 27 (0, 0)) := by
            rw [hg4.block _ (by simp; omega) (by intro e; have := (hne _ e.symm).1; omega), heap_alloc_old _ _ (by omega)]
            exact HJ3.out
          have cj4 : w4.cell? ⟨w1.heap.size, 0, none⟩ = some v := by simp [World.cell?, hj4]
          have fj4 : w4.frozen? ⟨w1.heap.size, 0, none⟩ = false := by simp [World.frozen?, hj4]
          have hj5 := heap_setCell_same w4 w1.heap.size 0 _ 27 (.slice a4 (k + 1) c4) hj4
          have HB5 := hide (show Below w.heap.size w (w4.setCell ⟨w1.heap.size, 0, none⟩ (.slice a4 (k + 1) c4)) from hb4.setCell (p := ⟨w1.heap.size, 0, none⟩) (by show w.heap.size ≤ w1.heap.size; omega) _)
          have hco3 : Codes w3 (l.take k ++ [true]) (cs ++ [.slice (some ⟨wr.heap.size, 0, none⟩) 2 2]) := (HCO.out.below hb3).more true wr.heap.size HC3.out
          have hlow : ∀ q, q < w3.heap.size → q ≠ w1.heap.size → some q ≠ v.ownBlock → (w4.setCell ⟨w1.heap.size, 0, none⟩ (.slice a4 (k + 1) c4)).heap[q]? = w3.heap[q]? := fun q h1 h2 h3 => by
            rw [heap_setCell_other _ _ _ _ h2, hg4.block q (by simp; omega) h3, heap_alloc_old _ _ h1]
          have HCO5 := hide (show Codes (w4.setCell ⟨w1.heap.size, 0, none⟩ (.slice a4 (k + 1) c4)) (l.take k ++ [true]) (cs ++ [.slice (some ⟨wr.heap.size, 0, none⟩) 2 2]) from hco3.keep (fun q c hq => hlow q (lt_row hq) (fun e => by
            rw [e, HJ3.out] at hq
            simp at hq) (fun e => by
            rcases ho3.2 with ⟨e2, _⟩ | ⟨g, cap, cur, e2, _, e3, _⟩
            · rw [e2] at e; cases e
            · rw [e2] at e
              cases e
              rw [e3] at hq
              simp at hq)))
          have ho5 : (w4.setCell ⟨w1.heap.size, 0, none⟩ (.slice a4 (k + 1) c4)).ownsRow (w1.heap.size + 1) 32 4 (.slice a4 (k + 1) c4) (k + 1) (funV (frs (fsOf (l.take k ++ [true])) (cs ++ [.slice (some ⟨wr.heap.size, 0, none⟩) 2 2]))) := by
            rw [frs_next _ _ _ _ HCO.out.1, funV_app]
            have hnm : nameAt (l.take k).length = nm := by rw [show (l.take k).length = k by simp; omega]; exact HNM.out
            rw [hnm]
            refine own_keepF (w := w4) ?_ (fun q hq => heap_setCell_other _ _ _ _ (by have := (ho4.lt q hq).1; show q ≠ w1.heap.size; omega))
            exact ho4
          have HO5 := hide ho5
          have HJ5 := hide hj5
          have HTK := hide (show l.take (k + 1) = l.take k ++ [true] by rw [List.take_add_one, hb]; rfl)
          go_wp2_with fail
          go_roundw
          case rel => exact ⟨by simpa using HB5.out, k + 1, by omega, by go_num, by rw [HTK.out]; exact congrArg _ (want_old (by omega)).symm, by
            refine Lib.hid ?_
            rw [HTK.out]
            exact ⟨.slice a4 (k + 1) c4, _, by simpa using HJ5.out, by simpa using HO5.out, by simpa using HCO5.out⟩⟩
          case measure => simp [intOf]; omega
    · have hlt' : ¬ (k : Int) < (l.length : Int) := by omega
      have htk : l.take k = l := List.take_of_length_le (by omega)
      have hkl : k = l.length := by omega
      rw [htk] at ho hco
      subst hkl
      have cJ : ∀ i u, [v, .int .i64 0, .slice none 0 0, .int .i64 10, .int .i64 10][i]? = some u → wr.cell? ⟨w1.heap.size, i, none⟩ = some u := fun i u hu => cell_row (cs := [v, .int .i64 0, .slice none 0 0, .int .i64 10, .int .i64 10]) hj hu
      obtain ⟨av, cv, rfl, hcv, hrv⟩ : ∃ a c, v = .slice a l.length c ∧ l.length ≤ c ∧ FReads wr a (frs (fsOf l) cs) := freads_own ho (by simp [frs, fsOf_len, hco.1])
      have hJ : JobR wr ⟨av, l.length, cv, 0, none, 0, 0, 10, 10⟩ cs (fsOf l) [] := ⟨(fsOf_len l).symm, hcv, by rw [fsOf_len]; exact hco.1, hrv, fun i h h' => by
        have hil : i < l.length := by rw [fsOf_len] at h'; exact h'
        obtain ⟨g, e1, e2⟩ := hco.2 i _ (List.getElem?_eq_getElem hil)
        have e3 := fsOf_at (List.getElem?_eq_getElem hil)
        rw [List.getElem?_eq_getElem h] at e1
        rw [List.getElem?_eq_getElem h'] at e3
        rw [Option.some.inj e1, Option.some.inj e3]
        refine ⟨_, 2, rfl, .inr ⟨g, 0, rfl, fun j u hu => ?_⟩⟩
        rw [Nat.zero_add]
        exact cell_row e2 hu, rfl, .inl rfl⟩
      have hE2 := hE.below hbw
      have CK := check_any _ _ _ _ wr hJ hE2 (by rw [fsOf_len]; omega) (fun f hf => by
        obtain ⟨i, b, hi, _, rfl⟩ := mem_fsOf (l := l) (k := l.length) (by rwa [List.take_of_length_le (by rw [fsOf_len]; omega)])
        have := (name_ok ⟨i, by omega⟩).2
        exact ⟨by show (codeOf b).length ≤ _; simp [codeOf], by show (nameAt i).size < _; rw [this]; decide⟩)
      have c0 := cJ 0 _ rfl
      have c1 := cJ 1 _ rfl
      have c2 := cJ 2 _ rfl
      have c3 := cJ 3 _ rfl
      have c4 := cJ 4 _ rfl
      unfold CheckPost at CK
      simp only [JV.cells] at CK
      have NM := fun e w => num_any e w
      have HB := hide hbw
      rcases first_cases l with hall | ⟨q, hq, hbef⟩
      · have hck : checkL (fsOf l) 0 ([] : List Int).length 10 10 = (0, 0, 0) := check_none (by omega) (by omega) hall
        rw [hck] at CK
        have hwn : wantL l = -1 := want_none hall
        rw [htk, hwn]
        clear hbw hj ho hco hrv hJ cJ hck hwn hx
        go_wp2_with (first
          | (go_at_call 5; go_must (with_reducible refine CK.mono ?_; (rintro e w9 ⟨rfl, hb9⟩)))
          | (go_at_call 6; go_must (with_reducible refine (NM _ _).mono ?_; (rintro e w10 ⟨rfl, hw10⟩); subst hw10)))
        go_ret
        exact ⟨rfl, chain HB.out hb9⟩
      · have hck : checkL (fsOf l) 0 ([] : List Int).length 10 10 = ((q : Int), 1, 11) := check_first (by omega) hq hbef
        rw [hck] at CK
        have hwn : wantL l = (q : Int) := want_at hq hbef
        rw [htk, hwn]
        have hq0 : ¬ (q : Int) < 0 := by omega
        have hqq : ((q : Int) == (q : Int)) = true := by simp
        clear hbw hj ho hco hrv hJ cJ hck hwn hx
        go_wp2_with (first
          | (go_at_call 5; go_must (with_reducible refine CK.mono ?_; (rintro e w9 ⟨rfl, hb9⟩)))
          | (go_at_call 6; go_must (with_reducible refine (NM _ _).mono ?_; (rintro e w10 ⟨rfl, hw10⟩); subst hw10)))
        go_ret
        exact ⟨rfl, chain HB.out hb9⟩
end Go.Proofs.YtfdgkeljnmamiabDoor
