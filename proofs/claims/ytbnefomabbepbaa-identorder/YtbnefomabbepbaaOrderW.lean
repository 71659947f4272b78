/- IdentOrder answers true: its walk. -/
import Derived.Test.YtbnefomabbepbaaSortW
import Derived.Test.YtbnefomabbepbaaTellW
namespace Go.Proofs.Ytbnefomabbepbaa
open Go.RowKit Go.ChangeShapes Go.WideShapes Go.ChangeAt Go.Deep Go.Sort

theorem hex_less : ∀ n m : Fin 16, (hexB n.1.toUInt8 < hexB m.1.toUInt8) = (n.1.toUInt8 < m.1.toUInt8) ∧ ((hexB n.1.toUInt8 == hexB m.1.toUInt8) = (n.1.toUInt8 == m.1.toUInt8)) := by
  have h : ∀ n m : Fin 16, decide (hexB n.1.toUInt8 < hexB m.1.toUInt8) = decide (n.1.toUInt8 < m.1.toUInt8) ∧ ((hexB n.1.toUInt8 == hexB m.1.toUInt8) = (n.1.toUInt8 == m.1.toUInt8)) := by decide +kernel
  intro n m
  exact ⟨by have := (h n m).1; simpa using this, (h n m).2⟩
theorem hex_both {a b : UInt8} (ha : a.toNat < 16) (hb : b.toNat < 16) : decide (hexB a < hexB b) = decide (a < b) ∧ (hexB a == hexB b) = (a == b) := by
  have := hex_less ⟨a.toNat, ha⟩ ⟨b.toNat, hb⟩
  simp only [Nat.toUInt8_eq, UInt8.ofNat_toNat] at this
  exact ⟨by simp only [this.1], this.2⟩
theorem less_map : ∀ (a b : List UInt8), (∀ c ∈ a, c.toNat < 16) → (∀ c ∈ b, c.toNat < 16) → Op.bytesLess (a.map hexB) (b.map hexB) = Op.bytesLess a b
  | _, [], _, _ => by simp [Op.bytesLess]
  | [], _ :: _, _, _ => by simp [Op.bytesLess]
  | x :: a, y :: b, h1, h2 => by
    have := hex_both (h1 x (by simp)) (h2 y (by simp))
    simp only [List.map_cons, Op.bytesLess]
    rw [this.1, this.2, less_map a b (fun c hc => h1 c (by simp [hc])) (fun c hc => h2 c (by simp [hc]))]
theorem less_text {a b : List UInt8} (ha : validL a = true) (hb : validL b = true) : Op.bytesLess (textOf a) (textOf b) = Op.bytesLess a b := by
  have e1 : textOf a = textL a := by unfold textOf; rw [ha]; rfl
  have e2 : textOf b = textL b := by unfold textOf; rw [hb]; rfl
  rw [e1, e2]
  show ((decide ((114 : UInt8) < 114)) || ((114 : UInt8) == 114 && Op.bytesLess (a.map hexB) (b.map hexB))) = _
  rw [less_map a b (valid_iff.1 ha).2 (valid_iff.1 hb).2]
  simp
theorem text_inj {a b : List UInt8} (ha : validL a = true) (hb : validL b = true) (h : textOf a = textOf b) : a = b := by
  rw [← (read_text ha).2, ← (read_text hb).2, h]
theorem sort_two (a b : ByteArray) : sortR [b, a] = if lessB b a then [b, a] else if b = a then [b] else [a, b] := by
  show putB (putB [] b) a = _
  rw [put_is, put_is]
  simp only [putR]
theorem less_append (l : List UInt8) (c : UInt8) : Op.bytesLess l (l ++ [c]) = true := by
  induction l with
  | nil => rfl
  | cons x r ih => simp [Op.bytesLess, ih]
theorem toList_bs (l : List UInt8) : (bs l).toList = l := by rw [ByteArray.toList_eq, bs_list]
theorem common_two (a b : ByteArray) : commonB [a, b] = a.extract 0 (alikeB a b) := rfl
theorem extract_size' {a : ByteArray} {k : Nat} (h : k ≤ a.size) : (a.extract 0 k).size = k := by
  rw [extract_bs, bs_size]
  rw [Lib.size_eq] at h
  simp only [List.drop_zero, Nat.sub_zero, List.length_take]
  omega
theorem common_parts (a b : ByteArray) : (commonB [a, b]).size ≤ a.size ∧ (commonB [a, b]).size ≤ b.size ∧ a.extract 0 (commonB [a, b]).size = commonB [a, b] ∧ b.extract 0 (commonB [a, b]).size = commonB [a, b] := by
  rw [common_two]
  have h := alikeB_le a b
  rw [extract_size' h.1]
  refine ⟨h.1, h.2, rfl, ?_⟩
  rw [extract_bs, extract_bs]
  congr 1
  simp only [List.drop_zero, Nat.sub_zero]
  exact (alike_take _ _).symm

set_option maxRecDepth 100000 in
set_option maxHeartbeats 4000000 in
theorem order_any (a b : ByteArray) (ha : a.size ≤ maxLen) (hb : b.size ≤ maxLen) (w : World) :
    Calls Try.prog 6 #[.string a, .string b] w fun e w' => e = .returned (.bool true) ∧ Below w.heap.size w w' := by
  have AL := alive_any w
  have V1 := fun w => refValid_any a ha w
  have V2 := fun w => refValid_any b hb w
  cases hva : validL a.data.toList with
  | false =>
    rw [hva] at V1
    have V2' : ∀ w, Calls Try.prog 14 #[.string b] w fun e w' => e = .returned (.bool (validL b.data.toList)) ∧ w' = w := V2
    generalize validL b.data.toList = vb at V2'
    clear V2
    go_enter Try.func6, Try.ntmps6
    go_wp2_with (first
      | (go_at_call 7; go_must (with_reducible refine AL.mono ?_; (rintro e w1 ⟨rfl, hb1⟩)))
      | (go_at_call 14; first | (with_reducible refine (V1 _).mono ?_; (rintro e w2 ⟨rfl, hw2⟩); subst hw2) | (with_reducible refine (V2' _).mono ?_; (rintro e w2 ⟨rfl, hw2⟩); subst hw2)))
    go_ret
    exact ⟨rfl, hb1⟩
  | true =>
    rw [hva] at V1
    cases hvb : validL b.data.toList with
    | false =>
      rw [hvb] at V2
      go_enter Try.func6, Try.ntmps6
      go_wp2_with (first
        | (go_at_call 7; go_must (with_reducible refine AL.mono ?_; (rintro e w1 ⟨rfl, hb1⟩)))
        | (go_at_call 14; first | (with_reducible refine (V1 _).mono ?_; (rintro e w2 ⟨rfl, hw2⟩); subst hw2) | (with_reducible refine (V2 _).mono ?_; (rintro e w2 ⟨rfl, hw2⟩); subst hw2)))
      go_ret
      exact ⟨rfl, hb1⟩
    | true =>
      rw [hvb] at V2
      have ha12 : a.size ≤ 12 := by rw [Lib.size_eq]; exact (valid_iff.1 hva).1
      have hb12 : b.size ≤ 12 := by rw [Lib.size_eq]; exact (valid_iff.1 hvb).1
      have T1 := fun w => text_any a ha w
      have T2 := fun w => text_any b hb w
      have hlt : Op.bytesLess (bs (textOf a.data.toList)).toList (bs (textOf b.data.toList)).toList = lessB a b := by
        rw [toList_bs, toList_bs, less_text hva hvb]
        unfold lessB
        rw [ByteArray.toList_eq, ByteArray.toList_eq]
      have hlt2 : Op.bytesLess a.toList b.toList = lessB a b := rfl
      have hteq : ((bs (textOf a.data.toList)).toList == (bs (textOf b.data.toList)).toList) = (a.toList == b.toList) := by
        rw [toList_bs, toList_bs, ByteArray.toList_eq, ByteArray.toList_eq, Bool.eq_iff_iff, beq_iff_eq, beq_iff_eq]
        exact ⟨fun h => text_inj hva hvb h, fun h => by rw [h]⟩
      have S := hide (fun (w : World) hr => sort_any [b, a] (some ⟨w.heap.size, 0, none⟩) 2 (w.alloc (.cells #[.string b, .string a] 22)) hr (by simp) (fun h => by cases h) (fun s hs => by simp at hs; rcases hs with rfl | rfl <;> omega))
      unfold SortPost at S
      have hsl : (sortU (ssOf [b, a])).length = (sortR [b, a]).length := by rw [sorts_eq]; simp
      rw [eV_nV, ← sorts_eq, hsl, sort_two] at S
      generalize bs (textOf a.data.toList) = s at T1 hlt hteq
      generalize bs (textOf b.data.toList) = t at T2 hlt hteq
      have hne1 : (lessB a b != lessB a b) = false := by simp
      have hne2 : ((a.toList == b.toList) != (a.toList == b.toList)) = false := by simp
      clear hsl
      by_cases hba : b = a
      · subst hba
        have hl0 : lessB b b = false := by rw [less_not]; exact ltB_irrefl b
        rw [hl0] at hlt hlt2
        have hq : (b.toList == b.toList) = true := by simp
        rw [hq] at hteq
        rw [hl0, if_neg (by simp), if_pos rfl] at S
        clear hl0 hne1 hne2
        go_enter Try.func6, Try.ntmps6
        go_wp2_with (first
          | (go_at_call 7; go_must (with_reducible refine AL.mono ?_; (rintro e w1 ⟨rfl, hb1⟩)))
          | (go_at_call 14; go_must (with_reducible refine (V1 _).mono ?_; (rintro e w2 ⟨rfl, hw2⟩); subst hw2))
          | (go_at_call 16; first | (with_reducible refine (T1 _).mono ?_; clear T1; (rintro e w3 ⟨rfl, hb3⟩)) | (with_reducible refine (T2 _).mono ?_; (rintro e w4 ⟨rfl, hb4⟩); refine Hid.out ?_)))
        refine Lib.hid ?_
        have C := S.out w4 (reads_new _ [.string b, .string b] 22)
        change Calls Try.prog 18 #[.slice (some ⟨w4.heap.size, 0, none⟩) 2 2] _ _ at C
        go_wp2_with (go_at_call 18; go_must (with_reducible refine C.mono ?_; (rintro e w5 ⟨v5, rfl, ho5, hb5⟩); refine Hid.out ?_))
        refine Lib.hid ?_
        obtain ⟨a5, c5, rfl, _, _, _⟩ := own_formN ho5
        clear ho5
        go_wp2_with fail
        go_ret
        exact ⟨rfl, chain hb1 (chain hb3 (chain hb4 (chain ((Below.refl _ _).alloc (Nat.le_refl _) _) hb5)))⟩
      · have hq : (a.toList == b.toList) = false := by
          rw [beq_eq_false_iff_ne, ByteArray.toList_eq, ByteArray.toList_eq]
          exact fun h => hba (bytes_inj h).symm
        rw [hq] at hteq hne2
        obtain ⟨p, q, hR, hpq⟩ : ∃ p q, (if lessB b a = true then [b, a] else if b = a then [b] else [a, b]) = [p, q] ∧ Op.bytesLess p.toList q.toList = true := by
          cases hl : lessB b a with
          | true => exact ⟨b, a, by simp, hl⟩
          | false => exact ⟨a, b, by simp [hba], less_iff.2 (ltB_total (less_not.1 hl) hba)⟩
        rw [hR] at S
        clear hR hba
        generalize lessB a b = lab at hlt hlt2 hne1
        have KC := fun w => kid_any a (by omega) 3 w
        have HKL := hide (show kidOk a.data.toList 3 = true → Op.bytesLess a.toList (bs (kidL a.data.toList 3)).toList = true from fun h => by
          rw [toList_bs, ByteArray.toList_eq]
          unfold kidL
          rw [h, if_pos rfl]
          exact less_append _ _)
        generalize bs (kidL a.data.toList 3) = kd at KC HKL
        obtain ⟨cp1, cp2, cp3, cp4⟩ := common_parts a b
        have CM := hide (fun (w : World) hr => common_any [a, b] (some ⟨w.heap.size, 0, none⟩) 2 (w.alloc (.cells #[.string a, .string b] 22)) hr (by simp) (by unfold maxLen; omega) (fun s hs => by simp at hs; rcases hs with rfl | rfl <;> omega))
        generalize commonB [a, b] = cm at cp1 cp2 cp3 cp4 CM
        go_enter Try.func6, Try.ntmps6
        go_wp2_with (first
          | (go_at_call 7; go_must (with_reducible refine AL.mono ?_; (rintro e w1 ⟨rfl, hb1⟩)))
          | (go_at_call 14; first | (with_reducible refine (V1 _).mono ?_; (rintro e w2 ⟨rfl, hw2⟩); subst hw2) | (with_reducible refine (V2 _).mono ?_; (rintro e w2 ⟨rfl, hw2⟩); subst hw2))
          | (go_at_call 16; first | (with_reducible refine (T1 _).mono ?_; (rintro e w3 ⟨rfl, hb3⟩)) | (with_reducible refine (T2 _).mono ?_; (rintro e w4 ⟨rfl, hb4⟩); refine Hid.out ?_)))
        refine Lib.hid ?_
        have C := S.out w4 (reads_new _ [.string b, .string a] 22)
        change Calls Try.prog 18 #[.slice (some ⟨w4.heap.size, 0, none⟩) 2 2] _ _ at C
        go_wp2_with (go_at_call 18; go_must (with_reducible refine C.mono ?_; (rintro e w5 ⟨v5, rfl, ho5, hb5⟩); refine Hid.out ?_))
        refine Lib.hid ?_
        obtain ⟨a5, c5, rfl, hc5, hn5, hr5⟩ := own_formN ho5
        have HR5 := hide hr5
        clear hr5 ho5 C S
        go_wp2_with (go_at_call 10; go_must (with_reducible refine (KC _).mono ?_; (rintro e w6 ⟨rfl, hb6⟩); refine Hid.out ?_))
        refine Lib.hid ?_
        have C := CM.out w6 (reads_new _ [.string a, .string b] 22)
        change Calls Try.prog 21 #[.slice (some ⟨w6.heap.size, 0, none⟩) 2 2] _ _ at C
        go_wp2_with (go_at_call 21; go_must (with_reducible refine C.mono ?_; (rintro e w7 ⟨rfl, hb7⟩); refine Hid.out ?_))
        refine Lib.hid ?_
        obtain ⟨g5, o5, rfl, hcc⟩ := reads_nV (k := 0) (x := p) (HR5.out.below (chain hb6 (chain ((Below.refl _ _).alloc (Nat.le_refl _) _) hb7))) rfl
        have d0 : w7.cell? ⟨g5, o5, none⟩ = some (.string p) := by simpa using hcc.out 0 p rfl
        have d1 : w7.cell? ⟨g5, o5 + 1, none⟩ = some (.string q) := by simpa using hcc.out 1 q rfl
        have HBA := hide (chain hb1 (chain hb3 (chain hb4 (chain ((Below.refl _ _).alloc (Nat.le_refl _) _) (chain hb5 (chain hb6 (chain ((Below.refl _ _).alloc (Nat.le_refl _) _) hb7)))))))
        have hcm : (cm.toList == cm.toList) = true := by simp
        have sa : ∀ w, (Instr.slice 22 (.string a) none (some (.int .i64 (cm.size : Int))) none).run Try.prog w = .ok (.string cm) w := fun w => by
          have e := cp3
          have h1 : (0 : Int) ≤ (cm.size : Int) := by omega
          have h2 : (cm.size : Int) ≤ (a.size : Int) := by omega
          simp [go_sem, h1, h2, e]
        have sb : ∀ w, (Instr.slice 22 (.string b) none (some (.int .i64 (cm.size : Int))) none).run Try.prog w = .ok (.string cm) w := fun w => by
          have e := cp4
          have h1 : (0 : Int) ≤ (cm.size : Int) := by omega
          have h2 : (cm.size : Int) ≤ (b.size : Int) := by omega
          simp [go_sem, h1, h2, e]
        have hcs : (cm.size : Int) ≤ (a.size : Int) := by omega
        have hl2 : (([p, q].length : Nat) : Int) = 2 := rfl
        clear hcc C CM cp3 cp4 V1 V2 T1 T2 KC AL hb1 hb3 hb4 hb5 hb6 hb7
        cases hko : kidOk a.data.toList 3 with
        | false =>
          go_wp2_with fail
          go_big_quiet (fail)
          go_wp2_with fail
          go_ret
          exact ⟨rfl, below_drewN HBA.out _⟩
        | true =>
          have hkl := HKL.out hko
          go_wp2_with fail
          go_big_quiet (fail)
          go_wp2_with fail
          go_ret
          exact ⟨rfl, below_drewN HBA.out _⟩
theorem identOrder.walk (a b : ByteArray) (W : World) (h1 : a.size ≤ maxLen) (h2 : b.size ≤ maxLen) : Calls Try.prog 6 #[.string a, .string b] W fun e w' => e = .returned (.bool true) ∧ Below W.heap.size W w' := order_any a b h1 h2 W
end Go.Proofs.Ytbnefomabbepbaa
