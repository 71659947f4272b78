/- ViewTells: two views beside the argument's. -/
import Derived.Test.YthjkfpcbbjmclaaAlv
import Derived.Test.YthjkfpcbbjmclaaRfH
import Derived.Test.YthjkfpcbbjmclaaSam
namespace Go.Proofs.Ythjkfpcbbjmclaa
open Go.RowKit Go.ChangeShapes Go.WideShapes Go.ChangeAt Go.Deep
namespace viewTells

theorem wo_len (ep : Int) (l : List Mb) (ns : List Int) : (woL ep l ns).length ≤ l.length := by
  unfold woL
  split
  · exact List.length_filter_le _ _
  · exact Nat.zero_le _
theorem wi_len (ep : Int) (l : List Mb) (n k : Int) : (wiL ep l n k).length ≤ l.length + 1 := by
  unfold wiL
  split
  · rw [insV_len]; exact Nat.le_refl _
  · exact Nat.zero_le _
theorem fm_len (n : Int) : (fiM n).length ≤ 16 := by
  unfold fiM
  split
  · rw [fiL_len]; omega
  · exact Nat.zero_le _
theorem own_calls {w : World} {er pe : Int} {l : List Mb} {f : Nat} {args : Array Value} (h : Calls Try.prog f args w (VwPost w pe er l)) :
    Calls Try.prog f args w fun e w' => ∃ a c, e = .returned (.tuple #[.agg #[.int .i64 pe, .slice a l.length c], .int .i64 er]) ∧ Hid (Own w.heap.size w' (.slice a l.length c) l.length l) ∧ Hid (Below w.heap.size w w') := by
  refine h.mono ?_
  rintro e w' ⟨v, rfl, ho, hb⟩
  obtain ⟨a, c, rfl⟩ := ho.open
  exact ⟨a, c, rfl, hide ho, hide hb⟩
/-- Two views that were answered, each with its box, beside the argument's. -/
structure TwS (w wr : World) (ep : Int) (a : Option Addr) (l c : Nat) (g1 : Nat) (p1 : Int) (a1 : Option Addr) (n1 c1 : Nat) (g2 : Nat) (p2 : Int) (a2 : Option Addr) (n2 c2 : Nat) (B1 B2 : Nat) : Prop where
  bl : Below w.heap.size w wr
  bv : BoxL wr w.heap.size [.int .i64 ep, .slice a l c]
  b1 : BoxL wr g1 [.int .i64 p1, .slice a1 n1 c1]
  b2 : BoxL wr g2 [.int .i64 p2, .slice a2 n2 c2]
  o1 : ∃ L, Own B1 wr (.slice a1 n1 c1) n1 L
  o2 : ∃ L, Own B2 wr (.slice a2 n2 c2) n2 L
  lo : w.heap.size < B1 ∧ g1 < B2
  h1 : ∀ ad, a1 = some ad → ad.block < g1
  h2 : ∀ ad, a2 = some ad → ad.block < g2
theorem Own.blk {B n c : Nat} {w : World} {a : Option Addr} {l : List Mb} (h : Own B w (.slice a n c) n l) (hn : 0 < n) : ∃ g, a = some ⟨g, 0, none⟩ ∧ B ≤ g ∧ n ≤ c := by
  obtain ⟨g, c', e, hB⟩ := h.some hn
  simp only [Value.slice.injEq] at e
  obtain ⟨rfl, _, rfl⟩ := e
  obtain ⟨_, _, _, _, hnc, _, _⟩ := h.row
  exact ⟨g, rfl, hB, hnc⟩
theorem box_off {w : World} {g g' o : Nat} {v : Value} {xs : List Value} (h : BoxL w g xs) (hg : g ≠ g') : BoxL (w.setCell ⟨g', o, none⟩ v) g xs := h.grown (grown_setCell _ _ _ _) hg
theorem own_store {B n1 c1 b1 : Nat} {wr : World} {L : List Mb} (hL : Own B wr (.slice (some ⟨b1, 0, none⟩) n1 c1) n1 L) (o : Nat) (x : Int) : ∃ L', Own B (wr.setCell ⟨b1, o, none⟩ (.int .i64 x)) (.slice (some ⟨b1, 0, none⟩) n1 c1) n1 L' := by
  by_cases ho : o < n1 * 2
  · obtain ⟨k, hk⟩ : ∃ k, o = k * 2 ∨ o = k * 2 + 1 := ⟨o / 2, by omega⟩
    rcases hk with rfl | rfl
    · have hs := (World.ownsRow.stored hL (k * 2) (.int .i64 x)).1
      refine ⟨L.set k (x, ((L[k]?).getD (0, 0)).2), ?_⟩
      unfold Own
      have hl := hL.len
      rw [mV_set]
      have e : ((mV L).set (k * 2) (.int .i64 x)).set (k * 2 + 1) (.int .i64 ((L[k]?).getD (0, 0)).2) = (mV L).set (k * 2) (.int .i64 x) := by
        have hm := (mV_at L k (by omega)).2
        rw [Nat.mul_comm] at hm
        apply List.ext_getElem?
        intro i
        rw [List.getElem?_set]
        by_cases hi : k * 2 + 1 = i
        · subst hi
          rw [if_pos rfl, List.getElem?_set_ne (by omega), hm, List.getElem?_eq_getElem (show k < L.length by omega)]
          simp [mV_len]; omega
        · rw [if_neg hi]
      rw [e]
      exact hs
    · have hs := (World.ownsRow.stored hL (k * 2 + 1) (.int .i64 x)).1
      refine ⟨L.set k (((L[k]?).getD (0, 0)).1, x), ?_⟩
      unfold Own
      have hl := hL.len
      rw [mV_set]
      have e : ((mV L).set (k * 2) (.int .i64 ((L[k]?).getD (0, 0)).1)).set (k * 2 + 1) (.int .i64 x) = (mV L).set (k * 2 + 1) (.int .i64 x) := by
        have hm := (mV_at L k (by omega)).1
        rw [Nat.mul_comm] at hm
        congr 1
        apply List.ext_getElem?
        intro i
        rw [List.getElem?_set]
        by_cases hi : k * 2 = i
        · subst hi
          rw [if_pos rfl, hm, List.getElem?_eq_getElem (show k < L.length by omega)]
          simp [mV_len]; omega
        · rw [if_neg hi]
      rw [e]
      exact hs
  · have hs := (World.ownsRow.stored hL o (.int .i64 x)).1
    refine ⟨L, ?_⟩
    rwa [List.set_eq_of_length_le (by rw [mV_len, hL.len]; omega)] at hs
theorem TwS.put1 {w wr : World} {ep : Int} {a : Option Addr} {l c g1 : Nat} {p1 : Int} {b1 n1 c1 g2 : Nat} {p2 : Int} {a2 : Option Addr} {n2 c2 B1 B2 : Nat} (h : TwS w wr ep a l c g1 p1 (some ⟨b1, 0, none⟩) n1 c1 g2 p2 a2 n2 c2 B1 B2) (hB : B1 ≤ b1) (hg : g1 < g2) (o : Nat) (x : Int) :
    TwS w (wr.setCell ⟨b1, o, none⟩ (.int .i64 x)) ep a l c g1 p1 (some ⟨b1, 0, none⟩) n1 c1 g2 p2 a2 n2 c2 B1 B2 := by
  have hlo := h.lo
  have hb := h.h1 _ rfl
  simp only at hb
  obtain ⟨L, hL⟩ := h.o1
  obtain ⟨M, hM⟩ := h.o2
  refine ⟨h.bl.trans (below_cell (by omega) _), box_off h.bv (by omega), box_off h.b1 (by omega), box_off h.b2 (by omega), ?_, ⟨M, ownsRow_setCell_below hM (by show b1 < B2; omega) _⟩, hlo, h.h1, h.h2⟩
  exact own_store hL o x
theorem TwS.put2 {w wr : World} {ep : Int} {a : Option Addr} {l c g1 : Nat} {p1 : Int} {a1 : Option Addr} {n1 c1 g2 : Nat} {p2 : Int} {b2 n2 c2 B1 B2 : Nat} (h : TwS w wr ep a l c g1 p1 a1 n1 c1 g2 p2 (some ⟨b2, 0, none⟩) n2 c2 B1 B2) (hB : B2 ≤ b2) (hB2 : w.heap.size < B2) (o : Nat) (x : Int) :
    Below w.heap.size w (wr.setCell ⟨b2, o, none⟩ (.int .i64 x)) ∧ BoxL (wr.setCell ⟨b2, o, none⟩ (.int .i64 x)) w.heap.size [.int .i64 ep, .slice a l c] ∧ BoxL (wr.setCell ⟨b2, o, none⟩ (.int .i64 x)) g2 [.int .i64 p2, .slice (some ⟨b2, 0, none⟩) n2 c2] ∧ (∃ L, Own B2 (wr.setCell ⟨b2, o, none⟩ (.int .i64 x)) (.slice (some ⟨b2, 0, none⟩) n2 c2) n2 L) := by
  have hlo := h.lo
  have hb := h.h2 _ rfl
  simp only at hb
  obtain ⟨M, hM⟩ := h.o2
  exact ⟨h.bl.trans (below_cell (by omega) _), box_off h.bv (by omega), box_off h.b2 (by omega), own_store hM o x⟩
/-- What is left of it at the second view. -/
structure TwT (w wr : World) (ep : Int) (a : Option Addr) (l c : Nat) (g2 : Nat) (p2 : Int) (a2 : Option Addr) (n2 c2 : Nat) (B2 : Nat) : Prop where
  bl : Below w.heap.size w wr
  bv : BoxL wr w.heap.size [.int .i64 ep, .slice a l c]
  b2 : BoxL wr g2 [.int .i64 p2, .slice a2 n2 c2]
  o2 : ∃ L, Own B2 wr (.slice a2 n2 c2) n2 L
  lo : w.heap.size < B2
  h2 : ∀ ad, a2 = some ad → ad.block < g2
theorem TwT.put {w wr : World} {ep : Int} {a : Option Addr} {l c : Nat} {g2 : Nat} {p2 : Int} {b2 n2 c2 B2 : Nat} (h : TwT w wr ep a l c g2 p2 (some ⟨b2, 0, none⟩) n2 c2 B2) (hB : B2 ≤ b2) (o : Nat) (x : Int) : TwT w (wr.setCell ⟨b2, o, none⟩ (.int .i64 x)) ep a l c g2 p2 (some ⟨b2, 0, none⟩) n2 c2 B2 := by
  have hlo := h.lo
  have hb := h.h2 _ rfl
  simp only at hb
  obtain ⟨M, hM⟩ := h.o2
  exact ⟨h.bl.trans (below_cell (by omega) _), box_off h.bv (by omega), box_off h.b2 (by omega), own_store hM o x, hlo, h.h2⟩
end viewTells
end Go.Proofs.Ythjkfpcbbjmclaa
