/- Names of tasks: Valid, Kid. -/
import Derived.Test.YtbpcibnomkfglaaGreatDoorFind
import Derived.Lib.Strings
import Derived.Lib.Walk
import Derived.Lib.Hide
import Derived.Lib.SlBytesConst
import Derived.Laws.BytesArg
namespace Go.Proofs.YtbpcibnomkfglaaGreatDoor
open Go.RowKit Go.ChangeShapes Go.WideShapes Go.ChangeAt Go.Deep

theorem ret_s {a b : ByteArray} (h : a = b) : Ending.returned (.string a) = .returned (.string b) := by rw [h]
/-- A string of these bytes. -/
def bs (l : List UInt8) : ByteArray := ⟨l.toArray⟩
theorem bs_list (l : List UInt8) : (bs l).data.toList = l := by simp [bs]
theorem bytes_inj {a b : ByteArray} (h : a.data.toList = b.data.toList) : a = b := by
  apply ByteArray.ext
  exact Array.toList_inj.1 h
theorem bs_self (s : ByteArray) : bs s.data.toList = s := bytes_inj (bs_list _)
theorem bs_size (l : List UInt8) : (bs l).size = l.length := by rw [Lib.size_eq, bs_list]
theorem index_strN {kd : IntKind} {t : TypeId} (ht : Tryz.prog.underlying t = some .string) {s : ByteArray} {c : UInt8} {j : Nat} (h : s.data.toList[j]? = some c) (w : World) : (Instr.index t (.string s) (.int kd (j : Int))).run Tryz.prog w = .ok (.int .u8 c.toNat) w := by
  have hj : j < s.size := by
    rcases Nat.lt_or_ge j s.data.toList.length with k | k
    · simpa using k
    · rw [List.getElem?_eq_none k] at h; cases h
  rw [run_index_string w t s kd j ht, dif_pos (by omega)]
  have e : s[(j : Int).toNat]'(by omega) = c := by
    have : s[(j : Int).toNat]'(by omega) = s.data.toList[j]'(by simpa using hj) := by simp; rfl
    rw [this]
    rw [List.getElem?_eq_getElem (by simpa using hj)] at h
    exact Option.some.inj h
  rw [e]
/-- May a task be named so? -/
def validL (l : List UInt8) : Bool := decide (l.length ≤ 12) && l.all fun c => decide (c.toNat < 16)
theorem valid_iff {l : List UInt8} : validL l = true ↔ l.length ≤ 12 ∧ ∀ c ∈ l, c.toNat < 16 := by simp [validL]
theorem valid_long {l : List UInt8} (h : 12 < l.length) : validL l = false := by
  unfold validL; rw [decide_eq_false (by omega)]; rfl
theorem valid_bad {l : List UInt8} {k : Nat} {c : UInt8} (h : l[k]? = some c) (hc : 16 ≤ c.toNat) : validL l = false := by
  rw [← Bool.not_eq_true, valid_iff]
  rintro ⟨_, h2⟩
  have := h2 c (List.mem_of_getElem? h)
  omega
theorem valid_all {l : List UInt8} (h : l.length ≤ 12) (ha : ∀ (j : Nat) (c : UInt8), l[j]? = some c → c.toNat < 16) : validL l = true := by
  rw [valid_iff]
  refine ⟨h, fun c hc => ?_⟩
  obtain ⟨j, hj⟩ := List.getElem?_of_mem hc
  exact ha j c hj

set_option maxRecDepth 100000 in
set_option maxHeartbeats 1000000 in
theorem valid_any (s : ByteArray) (hs : s.size ≤ maxLen) (w : World) : Calls Tryz.prog 60 #[.string s] w fun e w' => e = .returned (.bool (validL s.data.toList)) ∧ w' = w := by
  have hsz : s.size = s.data.toList.length := Lib.size_eq s
  unfold maxLen at hs
  by_cases h12 : s.size ≤ 12
  · have hk : ¬ (12 : Int) < (s.size : Int) := by omega
    have HS := hide hsz
    clear hsz
    go_enter Tryz.func60, Tryz.ntmps60
    go_wp2
    go_loopw [9] (fun i wr => wr = w ∧ ∃ k : Nat, k ≤ s.size ∧ i = .int .i64 (k : Nat) ∧ Hid (∀ j c, j < k → s.data.toList[j]? = some c → c.toNat < 16)) (fun i _ => s.size - (intOf i).toNat)
    case atStart => exact ⟨rfl, 0, by omega, rfl, fun j c hj => by omega⟩
    case round =>
      obtain ⟨rfl, k, hk2, rfl, hh⟩ := hrel
      by_cases hlt : k < s.size
      · have hg : ∃ x, s.data.toList[k]? = some x := ⟨s.data.toList[k]'(by rw [← Lib.size_eq]; exact hlt), List.getElem?_eq_getElem _⟩
        obtain ⟨x, hx⟩ := hg
        have ik := fun w => index_strN (kd := .i64) (t := 35) Tryz.underlying35 (s := s) (j := k) hx w
        have hlt' : (k : Int) < (s.size : Int) := by omega
        have HX := hide hx
        by_cases h16 : 16 ≤ x.toNat
        · have q : (16 : Int) ≤ (x.toNat : Int) := by omega
          have HV := hide (valid_bad HX.out h16)
          clear hx h16
          go_wp2
          go_ret
          exact ⟨ret_b HV.out.symm, rfl⟩
        · have q : ¬ (16 : Int) ≤ (x.toNat : Int) := by omega
          have HN := hide (show ∀ j c, j < k + 1 → s.data.toList[j]? = some c → c.toNat < 16 from fun j c hj hc => by
            rcases Nat.lt_or_ge j k with h | h
            · exact hh.out j c h hc
            · have : j = k := by omega
              subst this
              rw [HX.out] at hc
              cases hc
              omega)
          clear hx h16 hh
          go_wp2
          go_roundw
          case rel => exact ⟨by trivial, k + 1, by omega, by go_num, HN⟩
          case measure => simp [intOf]; omega
      · have hlt' : ¬ (k : Int) < (s.size : Int) := by omega
        have HV := hide (show validL s.data.toList = true from valid_all (by rw [← HS.out]; exact h12) (fun j c hc => hh.out j c (by
          rcases Nat.lt_or_ge j s.data.toList.length with q | q
          · rw [← HS.out] at q; omega
          · rw [List.getElem?_eq_none q] at hc; cases hc) hc))
        clear hh
        go_wp2
        go_ret
        exact ⟨ret_b HV.out.symm, rfl⟩
  · have hk : (12 : Int) < (s.size : Int) := by omega
    have HV := hide (valid_long (l := s.data.toList) (by omega))
    clear hsz
    go_enter Tryz.func60, Tryz.ntmps60
    go_wp2
    go_ret
    exact ⟨ret_b HV.out.symm, rfl⟩
/-- Can a name have a spawn of that number? -/
def kidOk (l : List UInt8) (k : Int) : Bool := decide (0 ≤ k) && decide (k < 16) && decide (l.length < 12) && validL l
def kidL (l : List UInt8) (k : Int) : List UInt8 := if kidOk l k then l ++ [k.toNat.toUInt8] else []
theorem kid_parts {l : List UInt8} {k : Int} : kidOk l k = true ↔ 0 ≤ k ∧ k < 16 ∧ l.length < 12 ∧ validL l = true := by
  simp [kidOk, and_assoc]
theorem kid_no {l : List UInt8} {k : Int} (h : ¬ (0 ≤ k ∧ k < 16 ∧ l.length < 12 ∧ validL l = true)) : kidOk l k = false ∧ kidL l k = [] := by
  have : kidOk l k = false := by rw [← Bool.not_eq_true, kid_parts]; exact h
  exact ⟨this, by unfold kidL; rw [this]; rfl⟩
theorem u8_of {k : Int} (h0 : 0 ≤ k) (h1 : k < 256) : (k.toNat.toUInt8.toNat : Int) = k := by
  simp
  omega
theorem wrap8 {k : Int} (h0 : 0 ≤ k) (h1 : k < 256) : IntKind.u8.wrap k = k := by
  unfold IntKind.wrap
  simp [IntKind.signed, IntKind.bits]
  omega
theorem conv_one {k : Int} (_h0 : 0 ≤ k) (_h1 : k < 256) (w : World) : (convert 136 35 (.slice (some ⟨w.heap.size, 0, none⟩) 1 1)).run Tryz.prog (w.alloc (.cells #[.int .u8 k] 5)) = .ok (.string (bs [k.toNat.toUInt8])) (w.alloc (.cells #[.int .u8 k] 5)) := by
  have := run_convert_bytes_arg (P := Tryz.prog) (w.alloc (.cells #[.int .u8 k] 5)) 136 5 Tryz.underlying136 Tryz.underlying5 w.heap.size 0 1 1 [k] rfl (fun i hi => by
    have : i = 0 := by simp at hi; omega
    subst this
    have hh : (w.alloc (.cells #[.int .u8 k] 5)).heap[w.heap.size]? = some (.cells #[.int .u8 k] 5) := heap_alloc_new w _
    simp only [World.cell?, hh]; rfl) 35 Tryz.underlying35
  rw [this]
  have e : strOfNums [k] = bs [k.toNat.toUInt8] := by
    apply bytes_inj
    rw [bs_list, strOfNums_data]
    simp
  rw [e]
theorem str_add (s : ByteArray) (l : List UInt8) : s ++ bs l = bs (s.data.toList ++ l) := by
  apply bytes_inj
  rw [bs_list]
  simp [bs]

set_option maxRecDepth 100000 in
set_option maxHeartbeats 1000000 in
theorem kid_any (s : ByteArray) (hs : s.size ≤ 281474976710656) (k : Int) (w : World) : Calls Tryz.prog 39 #[.string s, .int .i64 k] w fun e w' => e = .returned (.tuple #[.string (bs (kidL s.data.toList k)), .bool (kidOk s.data.toList k)]) ∧ Below w.heap.size w w' := by
  have hsz : s.size = s.data.toList.length := Lib.size_eq s
  have C := fun w => valid_any s (by unfold maxLen; omega) w
  by_cases h0 : 0 ≤ k
  · have h0' : ¬ k < 0 := by omega
    by_cases h1 : k < 16
    · have h1' : ¬ 16 ≤ k := by omega
      by_cases h2 : s.size < 12
      · have h2' : ¬ (12 : Int) ≤ (s.size : Int) := by omega
        cases hv : validL s.data.toList with
        | true =>
          rw [hv] at C
          have HK := hide (show kidOk s.data.toList k = true from kid_parts.2 ⟨h0, h1, by omega, hv⟩)
          have HL := hide (show kidL s.data.toList k = s.data.toList ++ [k.toNat.toUInt8] by unfold kidL; rw [HK.out]; rfl)
          rw [HK.out, HL.out]
          have w8 := wrap8 h0 (show k < 256 by omega)
          have kk := fun w => conv_one h0 (show k < 256 by omega) w
          have HA := hide (str_add s [k.toNat.toUInt8])
          have hts : (bs [k.toNat.toUInt8]).size = 1 := bs_size _
          generalize s.data.toList ++ [k.toNat.toUInt8] = R at HA ⊢
          generalize bs [k.toNat.toUInt8] = t at kk HA hts
          clear hsz HL HK
          go_enter Tryz.func39, Tryz.ntmps39
          go_wp2_with (go_at_call 60; go_must (with_reducible refine (C _).mono ?_; (rintro e wz ⟨rfl, hwz⟩); subst hwz))
          exact bodyPost_ret (v := .tuple #[.string (s ++ t), .bool true]) (by simp [results, Tryz.results39, go_sem]) rfl ⟨by rw [HA.out], (Below.refl _ _).alloc (Nat.le_refl _) _⟩
        | false =>
          rw [hv] at C
          obtain ⟨e1, e2⟩ := kid_no (l := s.data.toList) (k := k) (by rw [hv]; simp)
          rw [e1, e2]
          clear hsz e1 e2
          go_enter Tryz.func39, Tryz.ntmps39
          go_wp2_with (go_at_call 60; go_must (with_reducible refine (C _).mono ?_; (rintro e wz ⟨rfl, hwz⟩); subst hwz))
          exact bodyPost_ret (v := .tuple #[.string ⟨#[]⟩, .bool false]) (by simp [results, Tryz.results39, go_sem]) rfl ⟨rfl, Below.refl _ _⟩
      · have h2' : (12 : Int) ≤ (s.size : Int) := by omega
        obtain ⟨e1, e2⟩ := kid_no (l := s.data.toList) (k := k) (by omega)
        rw [e1, e2]
        clear hsz e1 e2
        go_enter Tryz.func39, Tryz.ntmps39
        go_wp2_with (go_at_call 60; go_must (with_reducible refine (C _).mono ?_; (rintro e wz ⟨rfl, hwz⟩); subst hwz))
        exact bodyPost_ret (v := .tuple #[.string ⟨#[]⟩, .bool false]) (by simp [results, Tryz.results39, go_sem]) rfl ⟨rfl, Below.refl _ _⟩
    · have h1' : 16 ≤ k := by omega
      obtain ⟨e1, e2⟩ := kid_no (l := s.data.toList) (k := k) (by omega)
      rw [e1, e2]
      clear hsz e1 e2
      go_enter Tryz.func39, Tryz.ntmps39
      go_wp2_with (go_at_call 60; go_must (with_reducible refine (C _).mono ?_; (rintro e wz ⟨rfl, hwz⟩); subst hwz))
      exact bodyPost_ret (v := .tuple #[.string ⟨#[]⟩, .bool false]) (by simp [results, Tryz.results39, go_sem]) rfl ⟨rfl, Below.refl _ _⟩
  · have h0' : k < 0 := by omega
    obtain ⟨e1, e2⟩ := kid_no (l := s.data.toList) (k := k) (by omega)
    rw [e1, e2]
    clear hsz e1 e2
    go_enter Tryz.func39, Tryz.ntmps39
    go_wp2_with (go_at_call 60; go_must (with_reducible refine (C _).mono ?_; (rintro e wz ⟨rfl, hwz⟩); subst hwz))
    exact bodyPost_ret (v := .tuple #[.string ⟨#[]⟩, .bool false]) (by simp [results, Tryz.results39, go_sem]) rfl ⟨rfl, Below.refl _ _⟩

end Go.Proofs.YtbpcibnomkfglaaGreatDoor
