/- slices.Clone, slices.Sort, slices.Compact at names, over rows of one's own; Sort. -/
import Derived.Test.YtandbkbodlbjcaaDownW
import Derived.Test.YtandbkbodlbjcaaShelfG
import Derived.Sort.OwnSorted
import Derived.BigQuiet
namespace Go.Proofs.Ytandbkbodlbjcaa
open Go.RowKit Go.ChangeShapes Go.WideShapes Go.ChangeAt Go.Deep Go.Sort

/-- Names by their bytes, as values. -/
def eV (ss : List (List UInt8)) : List Value := ss.map encStr
def ssOf (L : List ByteArray) : List (List UInt8) := L.map fun s => s.data.toList
theorem nV_eV (L : List ByteArray) : nV L = eV (ssOf L) := by
  simp [nV, eV, ssOf]
theorem eV_nV (ss : List (List UInt8)) : eV ss = nV (ss.map bs) := by
  simp [nV, eV, bs]
/-- The names, rising, each once. -/
def sortU (ss : List (List UInt8)) : List (List UInt8) := Lib.compact (ss.mergeSort fun x y => decide (x ≤ y))
theorem compact_len (ss : List (List UInt8)) : (Lib.compact ss).length ≤ ss.length := by
  unfold Lib.compact Lib.compactUpTo
  rw [List.length_map]
  exact Nat.le_trans (List.length_filter_le _ _) (by simp)
theorem own_cutN {w : World} {B n cap m : Nat} {a : Option Addr} {xs : List Value} (h : w.ownsRow B 31 1 (.slice a n cap) n xs) (hm : m ≤ n) (ha : a ≠ none) : w.ownsRow B 31 1 (.slice a m cap) m (xs.take m) := by
  refine ⟨by have := h.1; simp; omega, .inr ?_⟩
  rcases h.2 with ⟨e, _⟩ | ⟨g, c, cur, e, h1, h2, h3, h4, h5, h6⟩
  · simp at e; exact absurd e.1 ha
  · simp only [Value.slice.injEq] at e
    obtain ⟨rfl, _, rfl⟩ := e
    refine ⟨g, cap, cur, rfl, h1, h2, by omega, h4, h5, ?_⟩
    rw [← h6, List.take_take, Nat.mul_one, Nat.mul_one, Nat.min_eq_left hm]

theorem clone_any (L : List ByteArray) (ad : Option Addr) (cap : Nat) (w : World) (hr : Reads w ad (nV L)) (hlen : L.length ≤ 1000000) (hnil : ad = none → L.length = 0) :
    Calls Try.prog 53 #[.slice ad L.length cap] w fun e w' => ∃ v, e = .returned v ∧ w'.ownsRow w.heap.size 31 1 v L.length (nV L) ∧ Below w.heap.size w w' := by
  cases L with
  | nil =>
    cases ad with
    | none =>
      have h := AnyG.slices_Clone_string_nil Try.laysG42 0 cap w
      change Calls Try.prog 53 #[.slice none 0 cap] w _ at h
      refine h.mono ?_
      rintro e w' ⟨rfl, rfl⟩
      exact ⟨_, rfl, World.ownsRow_nil _ _ _ _, Below.refl _ _⟩
    | some a =>
      have h := AnyG.slices_Clone_string_zero Try.laysG42 a cap w
      change Calls Try.prog 53 #[.slice (some a) 0 cap] w _ at h
      refine h.mono ?_
      rintro e w' ⟨v, rfl, h1, _, h2⟩
      exact ⟨_, rfl, h1, h2⟩
  | cons c r =>
    obtain ⟨b, off, rfl, hc⟩ := reads_nV (k := 0) (x := c) hr rfl
    have h := AnyG.slices_Clone_string Try.laysG42 b off (c :: r).length cap (c :: r) w (Nat.le_refl _) (by omega) (fun j hj => by
      rw [hc.out j ((c :: r)[j]) (List.getElem?_eq_getElem hj)]
      rw [List.getD, List.getElem?_eq_getElem hj]; rfl)
    change Calls Try.prog 53 #[.slice (some ⟨b, off, none⟩) (c :: r).length cap] w _ at h
    refine h.mono ?_
    rintro e w' ⟨v, rfl, h1, _, h2⟩
    refine ⟨_, rfl, ?_, h2⟩
    rw [List.take_length] at h1
    exact h1

theorem sorted_own (ss : List (List UInt8)) (B n : Nat) (v : Value) (w : World) (ho : w.ownsRow B 31 1 v n (eV ss)) (hlen : ss.length ≤ 1000000) :
    Calls Try.prog 54 #[v] w fun e w' => e = .returned (.tuple #[]) ∧ w'.ownsRow B 31 1 v n (eV (ss.mergeSort fun x y => decide (x ≤ y))) ∧ w.grownBy w' v.ownBlock := by
  have hn : n = ss.length := by have := ho.1; simp [eV] at this; omega
  subst hn
  rcases ho.2 with ⟨rfl, h0⟩ | ⟨g, cap, cur, rfl, h1, h2, h3, h4, h5, h6⟩
  · have h := AnyG.slices_Sort_string_none Try.laysG54 none 0 w
    change Calls Try.prog 54 #[.slice none 0 0] w _ at h
    refine h.mono ?_
    rintro e w' ⟨rfl, rfl⟩
    have : ss = [] := List.eq_nil_of_length_eq_zero h0
    subst this
    exact ⟨rfl, by simpa using ho, grown_refl _ _⟩
  · rw [Nat.mul_one] at h6
    have hlt : g < w.heap.size := by
      rcases Nat.lt_or_ge g w.heap.size with q | q
      · exact q
      · rw [Array.getElem?_eq_none q] at h2; cases h2
    have h := AnyG.slices_Sort_string Try.laysG54 g 0 cap ss w (holds_of_block h2 h6) hlt (by omega)
    change Calls Try.prog 54 #[.slice (some ⟨g, 0, none⟩) ss.length cap] w _ at h
    refine h.mono ?_
    rintro e w' ⟨rfl, k, os, rfl⟩
    exact ⟨rfl, ownsRow_sorted (ss := ss) (by simp) h1 h2 h3 h4 h5, grownBy_sorted _⟩

theorem compact_own (ss : List (List UInt8)) (B n : Nat) (v : Value) (w : World) (ho : w.ownsRow B 31 1 v n (eV ss)) (hlen : ss.length ≤ 1000000) :
    Calls Try.prog 55 #[v] w fun e w' => ∃ v2, e = .returned v2 ∧ w'.ownsRow B 31 1 v2 (Lib.compact ss).length (eV (Lib.compact ss)) ∧ w.grownBy w' v.ownBlock := by
  have hn : n = ss.length := by have := ho.1; simp [eV] at this; omega
  subst hn
  rcases ho.2 with ⟨rfl, h0⟩ | ⟨g, cap, cur, rfl, h1, h2, h3, h4, h5, h6⟩
  · have h := AnyG.slices_Compact_string_empty Try.laysG44 none 0 w
    change Calls Try.prog 55 #[.slice none 0 0] w _ at h
    refine h.mono ?_
    rintro e w' ⟨rfl, rfl⟩
    have : ss = [] := List.eq_nil_of_length_eq_zero h0
    subst this
    exact ⟨_, rfl, by simpa [eV, Lib.compact, Lib.compactUpTo] using ho, grown_refl _ _⟩
  · rw [Nat.mul_one] at h6
    have h := AnyG.slices_Compact_string Try.laysG44 g 0 cap ss w (holds_of_block h2 h6) (by omega) h3
    change Calls Try.prog 55 #[.slice (some ⟨g, 0, none⟩) ss.length cap] w _ at h
    refine h.mono ?_
    rintro e w' ⟨rfl, k, rfl⟩
    have hle := compact_len ss
    have o2 := ownsRow_sorted (w := w) (n := k) (os := #[]) (cap := cap) (ss := ss) (ts := Lib.compact ss ++ List.replicate (ss.length - (Lib.compact ss).length) []) (by simp; omega) h1 h2 h3 h4 h5
    have g2 := grownBy_sorted (w := w) (g := g) (n := k) (os := #[]) (Lib.compact ss ++ List.replicate (ss.length - (Lib.compact ss).length) []).toArray
    rw [grow_empty] at o2 g2
    refine ⟨_, rfl, ?_, g2⟩
    have o3 := own_cutN o2 hle (by simp)
    rw [List.map_append, List.take_left' (by simp)] at o3
    exact o3
/-- Sort's answer: a row of the call's own, that holds the names, rising, each once. -/
def SortPost (L : List ByteArray) (w : World) (e : Ending) (w' : World) : Prop := ∃ v, e = .returned v ∧ w'.ownsRow w.heap.size 31 1 v (sortU (ssOf L)).length (eV (sortU (ssOf L))) ∧ Below w.heap.size w w'
theorem mem_compact {ss : List (List UInt8)} {x : List UInt8} (h : x ∈ Lib.compact ss) : x ∈ ss := by
  unfold Lib.compact Lib.compactUpTo at h
  obtain ⟨j, hj, rfl⟩ := List.mem_map.1 h
  have hj2 := (List.mem_filter.1 hj).1
  rw [List.mem_range] at hj2
  rw [getElem!_pos _ _ (by simpa using hj2)]
  simp
theorem mem_sortU {ss : List (List UInt8)} {x : List UInt8} (h : x ∈ sortU ss) : x ∈ ss := by
  have := mem_compact h
  simpa using this
theorem stored_same {w : World} {B g n cap j : Nat} {xs : List Value} {v : Value} (ho : w.ownsRow B 31 1 (.slice (some ⟨g, 0, none⟩) n cap) n xs) (hj : xs[j]? = some v) :
    (w.setCell ⟨g, j, none⟩ v).ownsRow B 31 1 (.slice (some ⟨g, 0, none⟩) n cap) n xs ∧ w.grownBy (w.setCell ⟨g, j, none⟩ v) (some g) := by
  have h := ho.stored j v
  refine ⟨?_, h.2⟩
  have e : xs.set j v = xs := by
    obtain ⟨hk, rfl⟩ := List.getElem?_eq_some_iff.1 hj
    exact List.set_getElem_self hk
  rw [e] at h
  exact h.1

set_option maxRecDepth 100000 in
set_option maxHeartbeats 1000000 in
theorem sort_any (L : List ByteArray) (ad : Option Addr) (cap : Nat) (w : World) (hr : Reads w ad (nV L)) (hlen : L.length ≤ 1000) (hnil : ad = none → L.length = 0) (hsz : ∀ s ∈ L, s.size ≤ 1000000) :
    Calls Try.prog 46 #[.slice ad L.length cap] w (SortPost L w) := by
  have C1 := clone_any L ad cap w hr (by omega) hnil
  rw [nV_eV] at C1
  have HSZ := hide (show ∀ x ∈ sortU (ssOf L), (bs x).size ≤ 1000000 from fun x hx => by
    have := mem_sortU hx
    obtain ⟨s, hs, rfl⟩ := List.mem_map.1 this
    rw [bs_self]
    exact hsz s hs)
  have hl : (ssOf L).length = L.length := by simp [ssOf]
  unfold SortPost
  have HU := hide (show sortU (ssOf L) = Lib.compact ((ssOf L).mergeSort fun x y => decide (x ≤ y)) from rfl)
  have hml : ((ssOf L).mergeSort fun x y => decide (x ≤ y)).length = (ssOf L).length := by simp
  have hul := compact_len ((ssOf L).mergeSort fun x y => decide (x ≤ y))
  rw [← HU.out, hml, hl] at hul
  have S2 := hide (fun B n v w ho => sorted_own (ssOf L) B n v w ho (by omega))
  have S3 := hide (fun B n v w ho => compact_own ((ssOf L).mergeSort fun x y => decide (x ≤ y)) B n v w ho (by omega))
  rw [← HU.out] at S3
  clear HU
  generalize sortU (ssOf L) = R at *
  rw [← hl] at C1 hul hlen ⊢
  clear hl hml
  generalize ssOf L = ss at *
  generalize (ss.mergeSort fun x y => decide (x ≤ y)) = ms at *
  clear hr hsz hnil
  go_enter Try.func46, Try.ntmps46
  go_wp2_with (go_at_call 53; go_must (with_reducible refine C1.mono ?_; (rintro e w1 ⟨v1, rfl, ho1, hb1⟩); refine Hid.out ?_))
  refine Lib.hid ?_
  have C2 := S2.out w.heap.size ss.length v1 w1 ho1
  go_wp2_with (go_at_call 54; go_must (with_reducible refine C2.mono ?_; (rintro e w2 ⟨rfl, ho2, hg2⟩); refine Hid.out ?_))
  refine Lib.hid ?_
  have C3 := S3.out w.heap.size ss.length v1 w2 ho2
  go_wp2_with (go_at_call 55; go_must (with_reducible refine C3.mono ?_; (rintro e w3 ⟨v3, rfl, ho3, hg3⟩); refine Hid.out ?_))
  refine Lib.hid ?_
  have hb2 : Below w.heap.size w w2 := hb1.grown hg2 hb1.size (fun k hk => (ho1.lt k hk).1)
  have hb3 : Below w.heap.size w w3 := hb2.grown hg3 hb2.size (fun k hk => (ho2.lt k hk).1)
  clear C1 C2 C3 S2 S3 ho1 ho2 hg2 hg3 hb1 hb2
  obtain ⟨a3, cap3, rfl, hcap3, hform⟩ : ∃ a cap, v3 = .slice a R.length cap ∧ R.length ≤ cap ∧ (0 < R.length → ∃ g, a = some ⟨g, 0, none⟩ ∧ w.heap.size ≤ g ∧ g < w3.heap.size) := by
    rcases ho3.2 with ⟨rfl, h0⟩ | ⟨g, c, cur, rfl, h1, h2, h3, h4, h5, h6⟩
    · exact ⟨none, 0, by rw [h0], by omega, fun h => by omega⟩
    · refine ⟨_, c, rfl, h3, fun _ => ⟨g, rfl, h1, ?_⟩⟩
      rcases Nat.lt_or_ge g w3.heap.size with q | q
      · exact q
      · rw [Array.getElem?_eq_none q] at h2; cases h2
  have HF := hide hform
  clear hform
  go_wp2_with fail
  go_loopw [14] (fun i wr => Below w.heap.size w wr ∧ ∃ k : Nat, k ≤ R.length ∧ i = .int .i64 (k : Nat) ∧ Hid (wr.ownsRow w.heap.size 31 1 (.slice a3 R.length cap3) R.length (eV R))) (fun i _ => R.length - (intOf i).toNat)
  case atStart => exact ⟨hb3, 0, by omega, rfl, ho3⟩
  case round =>
    obtain ⟨hbw, k, hk, rfl, ho⟩ := hrel
    have HB := hide hbw
    by_cases hlt : k < R.length
    · have hlt' : (k : Int) < (R.length : Int) := by omega
      obtain ⟨g, rfl, hg1, hg2⟩ := HF.out (by omega)
      obtain ⟨x, hx⟩ : ∃ x, R[k]? = some x := ⟨R[k], List.getElem?_eq_getElem hlt⟩
      have hex : (eV R)[k]? = some (.string (bs x)) := by simp [eV, hx, bs]
      have c1 : wr.cell? ⟨g, k, none⟩ = some (.string (bs x)) := by
        have := ho.out.cells (g := g) rfl k _ hex
        rw [add_none] at this
        simpa using this
      have A := fun w => apart_any (bs x) (by have := HSZ.out x (List.mem_of_getElem? hx); omega) w
      have HE := hide hex
      generalize bs x = t at *
      clear hex hx hbw
      go_wp2_with (go_at_call 56; go_must (with_reducible refine (A _).mono ?_; (rintro e w5 ⟨rfl, hb5⟩); refine Hid.out ?_))
      refine Lib.hid ?_
      have ho5 := own_belowN ho.out hb5
      have c5 := keep_cell c1 hb5
      obtain ⟨ho6, hg6⟩ := stored_same ho5 HE.out
      have fz5 : w5.frozen? ⟨g, k, none⟩ = false := by
        rcases ho5.2 with ⟨e, _⟩ | ⟨g', c, cur, e, h1, h2, _⟩
        · simp at e
        · simp only [Value.slice.injEq, Option.some.injEq, Addr.mk.injEq] at e
          obtain ⟨⟨rfl, _⟩, _⟩ := e
          simp [World.frozen?, h2]
      have HO6 := hide ho6
      have HB6 := hide (show Below w.heap.size w (w5.setCell ⟨g, k, none⟩ (.string t)) from (chain HB.out hb5).grown hg6 (chain HB.out hb5).size (fun q hq => by cases hq; exact hg1))
      clear ho5 ho6 hg6 A
      go_wp2_with fail
      go_roundw
      case rel => exact ⟨by simpa using HB6.out, k + 1, by omega, by go_num, by refine Lib.hid ?_; simpa using HO6.out⟩
      case measure => simp [intOf]; omega
    · have hlt' : ¬ (k : Int) < (R.length : Int) := by omega
      clear hbw
      go_wp2_with fail
      go_ret
      exact ⟨_, rfl, ho.out, HB.out⟩
end Go.Proofs.Ytandbkbodlbjcaa
