/- TablePlays: Names, wipe. -/
import Derived.Test.YtandbkbodlbjcaaRtE
namespace Go.Proofs.Ytandbkbodlbjcaa
open Go.RowKit Go.ChangeShapes Go.WideShapes Go.ChangeAt Go.Deep Go.Maps Go.Sort

theorem RN.setAt {w : World} {b off n c k : Nat} {xs : List ByteArray} (h : RN w (some ⟨b, off, none⟩) n c xs) (hk : k < n) (y : ByteArray) : RN (w.setCell ⟨b, off + k, none⟩ (.string y)) (some ⟨b, off, none⟩) n c (xs.set k y) := by
  obtain ⟨h1, h2, h3, h4⟩ := h
  rcases h4 with ⟨h4, _⟩ | ⟨b', off', e, h6, h7, h8⟩
  · cases h4
  · simp only [Option.some.injEq, Addr.mk.injEq, and_true] at e
    obtain ⟨rfl, rfl⟩ := e
    obtain ⟨u0, hu0⟩ := Option.isSome_iff_exists.1 (h8 k (by omega)).1
    refine ⟨by simpa using h1, h2, h3, .inr ⟨b, off, rfl, by simpa [World.setCell] using h6, fun j u hu => ?_, fun j hj => ?_⟩⟩
    · by_cases e : j = k
      · subst e
        rw [World.cell?_setCell_same _ _ _ hu0]
        have : (nV (xs.set j y))[j]? = some (.string y) := by simp [nV, h1, hk]
        rw [this] at hu
        exact hu
      · rw [World.cell?_setCell_other (h := by simp)]
        refine h7 j u ?_
        rw [← hu]
        have e' : ¬ k = j := fun h => e h.symm
        simp [nV, List.getElem?_set_ne e']
    · by_cases e : j = k
      · subst e
        rw [World.cell?_setCell_same _ _ _ hu0]
        exact ⟨rfl, by simpa using (h8 j hj).2⟩
      · rw [World.cell?_setCell_other (h := by simp)]
        exact ⟨(h8 j hj).1, by simpa using (h8 j hj).2⟩
theorem RN.cell {w : World} {b off n c k : Nat} {xs : List ByteArray} (h : RN w (some ⟨b, off, none⟩) n c xs) (hk : k < n) : ∃ u, w.cell? ⟨b, off + k, none⟩ = some (.string u) ∧ w.frozen? ⟨b, off + k, none⟩ = false := by
  obtain ⟨h1, h2, h3, h4⟩ := h
  rcases h4 with ⟨h4, _⟩ | ⟨b', off', e, h6, h7, h8⟩
  · cases h4
  · simp only [Option.some.injEq, Addr.mk.injEq, and_true] at e
    obtain ⟨rfl, rfl⟩ := e
    exact ⟨_, h7 k _ (by simp only [nV, List.getElem?_map]; rw [List.getElem?_eq_getElem (by omega : k < xs.length)]; rfl), (h8 k (by omega)).2⟩

set_option maxRecDepth 100000 in
set_option maxHeartbeats 1000000 in
theorem wipe_any (w : World) (a : Option Addr) (n c : Nat) (L : List ByteArray) (h : RN w a n c L) (hn : n ≤ 1000000) : Calls Try.prog 22 #[.slice a n c] w fun e w' => e = .returned (.tuple #[]) ∧ w.grownBy w' (blk a) := by
  have HR := hide h
  clear h
  go_enter Try.func22, Try.ntmps22
  go_wp2
  go_loopw [2] (fun i wr => ∃ (k : Nat) (K : List ByteArray), k ≤ n ∧ i = .int .i64 (k : Nat) ∧ Hid (RN wr a n c K ∧ w.grownBy wr (blk a))) (fun i _ => n - (intOf i).toNat)
  case atStart => exact ⟨0, L, by omega, rfl, hide ⟨HR.out, grown_refl w _⟩⟩
  case round =>
    obtain ⟨k, K, hk, rfl, HI⟩ := hrel
    by_cases hlt : k < n
    · have hlt' : (k : Int) < (n : Int) := by omega
      obtain ⟨b, off, rfl⟩ := HI.out.1.addr (by omega)
      obtain ⟨u, c1, f1⟩ := HI.out.1.cell hlt
      go_wp2
      go_roundw
      case rel => exact ⟨k + 1, _, by omega, by go_num, hide ⟨HI.out.1.setAt hlt _, grown_trans HI.out.2 (grown_setCell _ _ _ _)⟩⟩
      case measure => simp [intOf]; omega
    · obtain rfl : k = n := by omega
      have hlt' : ¬ (k : Int) < (k : Int) := by omega
      go_wp2
      exact bodyPost_end (results_none rfl _ _ _) rfl ⟨rfl, HI.out.2⟩

def NamesP (L : List ByteArray) (w : World) (e : Ending) (w' : World) : Prop := ∃ q : Bool, e = .returned (.bool q) ∧ (q = true → L.length ≤ 100 ∧ ∀ x ∈ L, x.size ≤ 100) ∧ w' = w
set_option maxRecDepth 100000 in
set_option maxHeartbeats 1000000 in
theorem names_any (L : List ByteArray) (a : Option Addr) (c : Nat) (w : World) (hr : Reads w a (nV L)) (hlen : L.length ≤ maxLen) : Calls Try.prog 9 #[.slice a L.length c] w (NamesP L w) := by
  have HR := hide hr
  unfold maxLen at hlen
  clear hr
  go_enter Try.func9, Try.ntmps9
  go_wp2
  go_loopw [3] (fun i wr => wr = w ∧ ∃ k : Nat, k ≤ L.length ∧ k ≤ 200 ∧ i = .int .i64 (k : Nat) ∧ Hid (∀ j y, j < k → L[j]? = some y → y.size ≤ 100)) (fun i _ => L.length - (intOf i).toNat)
  case atStart => exact ⟨rfl, 0, by omega, by omega, rfl, hide (fun j y hj => by omega)⟩
  case round =>
    obtain ⟨rfl, k, hk, hk2, rfl, hh⟩ := hrel
    by_cases hlt : k < L.length
    · have hlt' : (k : Int) < (L.length : Int) := by omega
      by_cases h200 : k < 200
      · have hlt2 : (k : Int) < 200 := by omega
        obtain ⟨y, hy⟩ : ∃ y, L[k]? = some y := ⟨L[k], List.getElem?_eq_getElem hlt⟩
        obtain ⟨b, off, rfl, hc⟩ := reads_nV (k := k) (x := y) HR.out hy
        have c1 := hc.out k y hy
        clear hc
        by_cases hbig : 100 < y.size
        · have hb' : (100 : Int) < (y.size : Int) := by omega
          clear hh hy
          go_wp2
          go_ret
          exact ⟨false, rfl, (fun h => by cases h), rfl⟩
        · have hb' : ¬ (100 : Int) < (y.size : Int) := by omega
          have HN := hide (show ∀ j z, j < k + 1 → L[j]? = some z → z.size ≤ 100 from fun j z hj ha => by
            rcases Nat.lt_or_ge j k with h | h
            · exact hh.out j z h ha
            · have : j = k := by omega
              subst this
              rw [hy] at ha
              cases ha
              omega)
          clear hh hy
          go_wp2
          go_roundw
          case rel => exact ⟨by trivial, k + 1, by omega, by omega, by go_num, HN⟩
          case measure => simp [intOf]; omega
      · have hlt2 : ¬ (k : Int) < 200 := by omega
        have h5 : ¬ (L.length : Int) ≤ 100 := by omega
        go_wp2
        go_ret
        exact ⟨_, rfl, (fun h => by first | (simp at h; done) | (simp at h; omega)), rfl⟩
    · have hlt' : ¬ (k : Int) < (L.length : Int) := by omega
      have HA := hide (show ∀ x ∈ L, x.size ≤ 100 from fun x hx => by
        obtain ⟨j, hj⟩ := List.getElem?_of_mem hx
        exact hh.out j x (by have := (List.getElem?_eq_some_iff.1 hj).1; omega) hj)
      clear hh
      go_wp2
      go_ret
      exact ⟨_, rfl, (fun h => ⟨by simp at h; omega, HA.out⟩), rfl⟩
end Go.Proofs.Ytandbkbodlbjcaa
