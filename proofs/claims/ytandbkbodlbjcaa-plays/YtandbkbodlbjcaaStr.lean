/- Names as strings: how a string is indexed, cut and read; what a name may be. -/
import Derived.Test.YtandbkbodlbjcaaBase
import Derived.Lib.Strings
import Derived.Lib.Walk
import Derived.Lib.Hide
namespace Go.Proofs.Ytandbkbodlbjcaa
open Go.RowKit Go.ChangeShapes Go.WideShapes Go.ChangeAt Go.Deep

theorem ret_b {a b : Bool} (h : a = b) : Ending.returned (.bool a) = .returned (.bool b) := by rw [h]
theorem ret_s {a b : ByteArray} (h : a = b) : Ending.returned (.string a) = .returned (.string b) := by rw [h]
/-- A string of these bytes. -/
def bs (l : List UInt8) : ByteArray := ⟨l.toArray⟩
theorem bs_list (l : List UInt8) : (bs l).data.toList = l := by simp [bs]
theorem bytes_inj {a b : ByteArray} (h : a.data.toList = b.data.toList) : a = b := by
  apply ByteArray.ext
  exact Array.toList_inj.1 h
theorem bs_self (s : ByteArray) : bs s.data.toList = s := bytes_inj (bs_list _)
theorem bs_size (l : List UInt8) : (bs l).size = l.length := by rw [Lib.size_eq, bs_list]
theorem index_str {kd : IntKind} {t : TypeId} (ht : Try.prog.underlying t = some .string) {s : ByteArray} {c : UInt8} {j : Nat} (h : s.data.toList[j]? = some c) (w : World) : (Instr.index t (.string s) (.int kd (j : Int))).run Try.prog w = .ok (.int .u8 c.toNat) w := by
  have hj : j < s.size := by
    rcases Nat.lt_or_ge j s.data.toList.length with k | k
    · simpa using k
    · rw [List.getElem?_eq_none k] at h; cases h
  rw [run_index_string w t s kd j ht, dif_pos (by omega)]
  have e : s[(j : Int).toNat]'(by omega) = c := by
    have : s[(j : Int).toNat]'(by omega) = s.data.toList[j]'(by simpa using hj) := by simp; rfl
    rw [this]
    rw [List.getElem?_eq_getElem (by simpa using hj)] at h
    exact Option.some.inj h
  rw [e]
theorem empty_str (s : ByteArray) : s.toList.isEmpty = s.data.toList.isEmpty := by
  rw [ByteArray.toList_eq]
theorem extract_bs (s : ByteArray) (a b : Nat) : s.extract a b = bs ((s.data.toList.drop a).take (b - a)) := by
  apply bytes_inj
  rw [bs_list, ByteArray.data_extract, Array.toList_extract]
  try simp [List.extract]

/-- May a task be named so? -/
def validL (l : List UInt8) : Bool := decide (l.length ≤ 12) && l.all fun c => decide (c.toNat < 16)
theorem valid_iff {l : List UInt8} : validL l = true ↔ l.length ≤ 12 ∧ ∀ c ∈ l, c.toNat < 16 := by simp [validL]
theorem valid_long {l : List UInt8} (h : 12 < l.length) : validL l = false := by
  unfold validL; rw [decide_eq_false (by omega)]; rfl
theorem valid_bad {l : List UInt8} {k : Nat} {c : UInt8} (h : l[k]? = some c) (hc : 16 ≤ c.toNat) : validL l = false := by
  rw [← Bool.not_eq_true, valid_iff]
  rintro ⟨_, h2⟩
  have := h2 c (List.mem_of_getElem? h)
  omega
theorem valid_all {l : List UInt8} (h : l.length ≤ 12) (ha : ∀ (j : Nat) (c : UInt8), l[j]? = some c → c.toNat < 16) : validL l = true := by
  rw [valid_iff]
  refine ⟨h, fun c hc => ?_⟩
  obtain ⟨j, hj⟩ := List.getElem?_of_mem hc
  exact ha j c hj

set_option maxRecDepth 100000 in
set_option maxHeartbeats 1000000 in
theorem valid_any (s : ByteArray) (hs : s.size ≤ maxLen) (w : World) : Calls Try.prog 33 #[.string s] w fun e w' => e = .returned (.bool (validL s.data.toList)) ∧ w' = w := by
  have hsz : s.size = s.data.toList.length := Lib.size_eq s
  unfold maxLen at hs
  by_cases h12 : s.size ≤ 12
  · have hk : ¬ (12 : Int) < (s.size : Int) := by omega
    have HS := hide hsz
    clear hsz
    go_enter Try.func33, Try.ntmps33
    go_wp2
    go_loopw [9] (fun i wr => wr = w ∧ ∃ k : Nat, k ≤ s.size ∧ i = .int .i64 (k : Nat) ∧ Hid (∀ j c, j < k → s.data.toList[j]? = some c → c.toNat < 16)) (fun i _ => s.size - (intOf i).toNat)
    case atStart => exact ⟨rfl, 0, by omega, rfl, fun j c hj => by omega⟩
    case round =>
      obtain ⟨rfl, k, hk2, rfl, hh⟩ := hrel
      by_cases hlt : k < s.size
      · have hg : ∃ x, s.data.toList[k]? = some x := ⟨s.data.toList[k]'(by rw [← Lib.size_eq]; exact hlt), List.getElem?_eq_getElem _⟩
        obtain ⟨x, hx⟩ := hg
        have ik := fun w => index_str (kd := .i64) (t := 31) Try.underlying31 (s := s) (j := k) hx w
        have hlt' : (k : Int) < (s.size : Int) := by omega
        have HX := hide hx
        by_cases h16 : 16 ≤ x.toNat
        · have q : (16 : Int) ≤ (x.toNat : Int) := by omega
          have HV := hide (valid_bad HX.out h16)
          clear hx h16
          go_wp2
          go_ret
          exact ⟨ret_b HV.out.symm, rfl⟩
        · have q : ¬ (16 : Int) ≤ (x.toNat : Int) := by omega
          have HN := hide (show ∀ j c, j < k + 1 → s.data.toList[j]? = some c → c.toNat < 16 from fun j c hj hc => by
            rcases Nat.lt_or_ge j k with h | h
            · exact hh.out j c h hc
            · have : j = k := by omega
              subst this
              rw [HX.out] at hc
              cases hc
              omega)
          clear hx h16 hh
          go_wp2
          go_roundw
          case rel => exact ⟨by trivial, k + 1, by omega, by go_num, HN⟩
          case measure => simp [intOf]; omega
      · have hlt' : ¬ (k : Int) < (s.size : Int) := by omega
        have HV := hide (show validL s.data.toList = true from valid_all (by rw [← HS.out]; exact h12) (fun j c hc => hh.out j c (by
          rcases Nat.lt_or_ge j s.data.toList.length with q | q
          · rw [← HS.out] at q; omega
          · rw [List.getElem?_eq_none q] at hc; cases hc) hc))
        clear hh
        go_wp2
        go_ret
        exact ⟨ret_b HV.out.symm, rfl⟩
  · have hk : (12 : Int) < (s.size : Int) := by omega
    have HV := hide (valid_long (l := s.data.toList) (by omega))
    clear hsz
    go_enter Try.func33, Try.ntmps33
    go_wp2
    go_ret
    exact ⟨ret_b HV.out.symm, rfl⟩
end Go.Proofs.Ytandbkbodlbjcaa
