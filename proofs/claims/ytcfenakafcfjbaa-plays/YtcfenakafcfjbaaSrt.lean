/- slices.Sort over a row of ints of one's own. -/
import Derived.Test.YtcfenakafcfjbaaNew
import Derived.Test.YtcfenakafcfjbaaShelf
import Derived.Sort.OwnSortedInts
namespace Go.Proofs.Ytcfenakafcfjbaa
open Go.RowKit Go.ChangeShapes Go.WideShapes Go.ChangeAt Go.Deep Go.Maps Go.Sort

def srt (L : List Int) : List Int := L.mergeSort fun x y => decide (x ≤ y)
theorem srt_perm (L : List Int) : (srt L).Perm L := List.mergeSort_perm _ _
theorem srt_rise (L : List Int) (h : L.Nodup) : (srt L).Pairwise (· < ·) := by
  have h1 : (srt L).Pairwise (fun a b => decide (a ≤ b) = true) := List.pairwise_mergeSort (fun a b c h1 h2 => by simp at *; omega) (fun a b => by simp; omega) L
  have h2 : (srt L).Nodup := (srt_perm L).nodup_iff.2 h
  exact (h1.and h2).imp (fun {a b} h => by have h3 := h.1; have h4 := h.2; simp at h3; omega)

theorem sort_own {w : World} {B : Nat} {L : List Int} {a : Option Addr} {c : Nat} (h : w.ownsRow B 3 1 (.slice a L.length c) L.length (iV L)) (hl : L.length ≤ 1000000) :
    Calls Try.prog 25 #[.slice a L.length c] w fun e w' => e = .returned (.tuple #[]) ∧ w'.ownsRow B 3 1 (.slice a L.length c) L.length (iV (srt L)) ∧ w.grownBy w' (Value.slice a L.length c).ownBlock := by
  rcases Nat.eq_zero_or_pos L.length with e | e
  · have hL : L = [] := List.eq_nil_of_length_eq_zero e
    subst hL
    refine (Try.slices_Sort_int_none a c w).mono ?_
    rintro e w' ⟨rfl, rfl⟩
    exact ⟨rfl, by rw [show srt [] = [] by simp [srt]]; exact h, grown_refl _ _⟩
  · rcases h.2 with ⟨hn, h0⟩ | ⟨g, cap, cur, he, hbase, hb, h1, h2, h3, h4⟩
    · omega
    · simp only [Value.slice.injEq, true_and] at he
      obtain ⟨rfl, rfl⟩ := he
      refine (Try.slices_Sort_int g 0 c L w (holds_of_blockI hb (by simpa [iV] using h4)) (Array.getElem?_eq_some_iff.1 hb).1 (by omega)).mono ?_
      rintro e w' ⟨rfl, n, os, rfl⟩
      exact ⟨rfl, ownsRow_sortedI (by simp) hbase hb h1 h2 h3, grownBy_sortedI _⟩
end Go.Proofs.Ytcfenakafcfjbaa
