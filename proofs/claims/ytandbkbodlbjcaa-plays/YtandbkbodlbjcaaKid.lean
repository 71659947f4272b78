/- Names as texts, spawns, what spawned a name: the code's and the document's own. -/
import Derived.Test.YtandbkbodlbjcaaStr
import Derived.Test.YtandbkbodlbjcaaShelf
import Derived.ArgAppend
import Derived.Lib.SlBytesConst
namespace Go.Proofs.Ytandbkbodlbjcaa
open Go.RowKit Go.ChangeShapes Go.WideShapes Go.ChangeAt Go.Deep

theorem below_drewN {B : Nat} {w w' : World} (h : Below B w w') (n : Nat) : Below B w (w'.drewN n) := ⟨h.os, h.tape, h.output, h.size, h.block⟩
def uN (l : List UInt8) : List Nat := l.map UInt8.toNat
theorem bstr_bs (l : List UInt8) : bstr (uN l) = bs l := by
  apply bytes_inj
  rw [bs_list]
  unfold bstr uN
  rw [strOfNums_data, List.map_map, List.map_map]
  conv => rhs; rw [← List.map_id l]
  apply List.map_congr_left
  intro a _
  simp
set_option maxRecDepth 100000 in
set_option maxHeartbeats 1000000 in
theorem refValid_any (s : ByteArray) (hs : s.size ≤ maxLen) (w : World) : Calls Try.prog 38 #[.string s] w fun e w' => e = .returned (.bool (validL s.data.toList)) ∧ w' = w := by
  have hsz : s.size = s.data.toList.length := Lib.size_eq s
  unfold maxLen at hs
  have HS := hide hsz
  clear hsz
  go_enter Try.func38, Try.ntmps38
  go_wp2
  go_loopw [3] (fun i wr => wr = w ∧ ∃ k : Nat, k ≤ s.size ∧ k ≤ 13 ∧ i = .int .i64 (k : Nat) ∧ Hid (∀ j c, j < k → s.data.toList[j]? = some c → c.toNat < 16)) (fun i _ => s.size - (intOf i).toNat)
  case atStart => exact ⟨rfl, 0, by omega, by omega, rfl, fun j c hj => by omega⟩
  case round =>
    obtain ⟨rfl, k, hk2, hk3, rfl, hh⟩ := hrel
    by_cases hlt : k < s.size
    · have hlt' : (k : Int) < (s.size : Int) := by omega
      by_cases h12 : k ≤ 12
      · have h12' : (k : Int) ≤ 12 := by omega
        have hg : ∃ x, s.data.toList[k]? = some x := ⟨s.data.toList[k]'(by rw [← Lib.size_eq]; exact hlt), List.getElem?_eq_getElem _⟩
        obtain ⟨x, hx⟩ := hg
        have ik := fun w => index_str (kd := .i64) (t := 31) Try.underlying31 (s := s) (j := k) hx w
        have HX := hide hx
        by_cases h16 : 16 ≤ x.toNat
        · have q : (16 : Int) ≤ (x.toNat : Int) := by omega
          have HV := hide (valid_bad HX.out h16)
          clear hx h16
          go_wp2
          go_ret
          exact ⟨ret_b HV.out.symm, rfl⟩
        · have q : ¬ (16 : Int) ≤ (x.toNat : Int) := by omega
          have HN := hide (show ∀ j c, j < k + 1 → s.data.toList[j]? = some c → c.toNat < 16 from fun j c hj hc => by
            rcases Nat.lt_or_ge j k with h | h
            · exact hh.out j c h hc
            · have : j = k := by omega
              subst this
              rw [HX.out] at hc
              cases hc
              omega)
          clear hx h16 hh
          go_wp2
          go_roundw
          case rel => exact ⟨by trivial, k + 1, by omega, by omega, by go_num, HN⟩
          case measure => simp [intOf]; omega
      · have h12' : ¬ (k : Int) ≤ 12 := by omega
        have hz : ¬ (s.size : Int) ≤ 12 := by omega
        have HV := hide (valid_long (l := s.data.toList) (by rw [← HS.out]; omega))
        clear hh
        go_wp2
        go_ret
        exact ⟨ret_b HV.out.symm, rfl⟩
    · have hlt' : ¬ (k : Int) < (s.size : Int) := by omega
      by_cases h12 : s.size ≤ 12
      · have h12' : (s.size : Int) ≤ 12 := by omega
        have HV := hide (show validL s.data.toList = true from valid_all (by rw [← HS.out]; exact h12) (fun j c hc => hh.out j c (by
          rcases Nat.lt_or_ge j s.data.toList.length with q | q
          · rw [← HS.out] at q; omega
          · rw [List.getElem?_eq_none q] at hc; cases hc) hc))
        clear hh
        go_wp2
        go_ret
        exact ⟨ret_b HV.out.symm, rfl⟩
      · have h12' : ¬ (s.size : Int) ≤ 12 := by omega
        have HV := hide (valid_long (l := s.data.toList) (by rw [← HS.out]; omega))
        clear hh
        go_wp2
        go_ret
        exact ⟨ret_b HV.out.symm, rfl⟩

theorem take_next {l : List UInt8} {k : Nat} {c : UInt8} (h : l[k]? = some c) : l.take (k + 1) = l.take k ++ [c] := by
  rw [List.take_add_one, h]; rfl

theorem cell_new1 (w : World) (v : Value) (t : TypeId) (fz : Nat × Nat) : (w.alloc (.cells #[v] t fz)).cell? ⟨w.heap.size, 0, none⟩ = some v := by
  have : (w.alloc (.cells #[v] t fz)).heap[w.heap.size]? = some (.cells #[v] t fz) := heap_alloc_new w _
  unfold World.cell?
  rw [this]
  rfl
theorem uN_append (a b : List UInt8) : uN (a ++ b) = uN a ++ uN b := by simp [uN]
end Go.Proofs.Ytandbkbodlbjcaa
