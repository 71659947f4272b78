/- gleanerref4's name and plainIns. -/
import Derived.Test.YtfnloomcianbiaaGreatDoorRefN
import Derived.Test.YtfnloomcianbiaaGreatDoorPlain
namespace Go.Proofs.YtfnloomcianbiaaGreatDoor
open Go.RowKit Go.ChangeShapes Go.WideShapes Go.ChangeAt Go.Deep

/-- A byte that may stand at place j of a name. -/
def goodAt (j : Nat) (x : UInt8) : Bool := letter x || (decide (0 < j) && digit x)
theorem name_all {l : List UInt8} (h : ∀ j x, l[j]? = some x → goodAt j x = true) (h0 : l ≠ []) (h20 : l.length ≤ 20) : isNameL l = true := by
  cases l with
  | nil => exact absurd rfl h0
  | cons c r =>
    have hc : letter c = true := by
      have := h 0 c rfl
      simpa [goodAt] using this
    unfold isNameL
    simp only [List.isEmpty_cons, Bool.not_false, Bool.true_and, Bool.and_eq_true, decide_eq_true_eq, List.headD_cons, List.all_eq_true]
    refine ⟨⟨h20, hc⟩, fun x hx => ?_⟩
    obtain ⟨j, hj, rfl⟩ := List.getElem_of_mem hx
    have := h j _ (List.getElem?_eq_getElem hj)
    unfold goodAt at this
    cases h1 : letter (c :: r)[j] with
    | true => rfl
    | false =>
      rw [h1] at this
      simp only [Bool.false_or, Bool.and_eq_true] at this ⊢
      exact this.2
theorem name_bad {l : List UInt8} {j : Nat} {x : UInt8} (hx : l[j]? = some x) (h : goodAt j x = false) : isNameL l = false := by
  cases hn : isNameL l with
  | false => rfl
  | true =>
    exfalso
    unfold isNameL at hn
    simp only [Bool.and_eq_true, decide_eq_true_eq, List.all_eq_true] at hn
    obtain ⟨⟨⟨_, _⟩, h1⟩, h2⟩ := hn
    have h3 := h2 x (List.mem_of_getElem? hx)
    unfold goodAt at h
    simp only [Bool.or_eq_false_iff] at h
    rw [h.1, Bool.false_or] at h3
    rw [h3, Bool.and_true] at h
    have hj : j = 0 := by
      have := h.2
      simp at this
      exact this
    subst hj
    cases l with
    | nil => simp at hx
    | cons c r =>
      have : c = x := by simpa using hx
      subst this
      simp only [List.headD_cons] at h1
      rw [h.1] at h1
      cases h1
theorem name_long {l : List UInt8} (h : 20 < l.length) : isNameL l = false := by
  unfold isNameL
  rw [decide_eq_false (by omega)]
  simp

set_option maxRecDepth 100000 in
set_option maxHeartbeats 1000000 in
theorem refname_any (s : ByteArray) (hl : s.size ≤ 9223372036854775807) (w : World) : Calls Tryz.prog 15 #[.string s] w fun e w' => e = .returned (.bool (isNameL s.data.toList)) ∧ w' = w := by
  have hsz : s.size = s.data.toList.length := Lib.size_eq s
  have HE := hide (empty_str s)
  have HS := hide hsz
  clear hsz
  go_enter Tryz.func15, Tryz.ntmps15
  go_wp2
  go_loopw [3] (fun i wr => wr = w ∧ ∃ k : Nat, k ≤ s.size ∧ k ≤ 21 ∧ i = .int .i64 (k : Nat) ∧ Hid (∀ j x, j < k → s.data.toList[j]? = some x → goodAt j x = true)) (fun i _ => s.size - (intOf i).toNat)
  case atStart => exact ⟨rfl, 0, by omega, by omega, rfl, fun j x hj => by omega⟩
  case round =>
    obtain ⟨rfl, k, hk, hk21, rfl, hh⟩ := hrel
    by_cases hlt : k < s.size ∧ k ≤ 20
    · obtain ⟨hlt, hk20⟩ := hlt
      have hg : ∃ x, s.data.toList[k]? = some x := ⟨s.data.toList[k]'(by rw [← Lib.size_eq]; exact hlt), List.getElem?_eq_getElem _⟩
      obtain ⟨x, hx⟩ := hg
      have ik := fun w => index_str hx w
      have hlt' : (k : Int) < (s.size : Int) := by omega
      have hk20' : (k : Int) ≤ 20 := by omega
      have HX := hide hx
      clear hx
      have hxb : x.toNat < 256 := x.toNat_lt
      have HN := hide (show goodAt k x = ((decide (97 ≤ x.toNat) && decide (x.toNat ≤ 122)) || (decide (0 < k) && (decide (48 ≤ x.toNat) && decide (x.toNat ≤ 57)))) from rfl)
      have HB := hide (fun (h : goodAt k x = false) => name_bad HX.out h)
      have HO := hide (show goodAt k x = true → ∀ j y, j < k + 1 → s.data.toList[j]? = some y → goodAt j y = true from fun hq j y hj hy => by
        rcases Nat.lt_or_ge j k with h | h
        · exact hh.out j y h hy
        · have : j = k := by omega
          subst this
          rw [HX.out] at hy
          injection hy with hy
          rw [← hy]; exact hq)
      generalize x.toNat = n at ik HN hxb
      by_cases h1 : (97 ≤ n ∧ n ≤ 122)
      · have a1 : (97 : Int) ≤ (n : Int) := by omega
        have a2 : (n : Int) ≤ 122 := by omega
        have hq : goodAt k x = true := by rw [HN.out, decide_eq_true h1.1, decide_eq_true h1.2]; rfl
        have HQ := hide (HO.out hq)
        clear h1 hq HB HO HN hk20 hlt hk21
        go_wp2
        go_roundw
        case rel => exact ⟨trivial, k + 1, by omega, by omega, by go_num, HQ⟩
        case measure => simp [intOf]; omega
      · by_cases h2 : 0 < k ∧ 48 ≤ n ∧ n ≤ 57
        · have a1 : ¬ (97 : Int) ≤ (n : Int) := by omega
          have a2 : (48 : Int) ≤ (n : Int) := by omega
          have a3 : (n : Int) ≤ 57 := by omega
          have a4 : (0 : Int) < (k : Int) := by omega
          have hq : goodAt k x = true := by rw [HN.out, decide_eq_true h2.1, decide_eq_true h2.2.1, decide_eq_true h2.2.2]; simp
          have HQ := hide (HO.out hq)
          clear h1 h2 hq HB HO HN hk20 hlt hk21
          go_wp2
          go_roundw
          case rel => exact ⟨trivial, k + 1, by omega, by omega, by go_num, HQ⟩
          case measure => simp [intOf]; omega
        · have hq : goodAt k x = false := by
            rw [HN.out]
            by_cases g1 : 97 ≤ n
            · have g2 : ¬ n ≤ 122 := fun g => h1 ⟨g1, g⟩
              rw [decide_eq_false g2, decide_eq_false (show ¬ n ≤ 57 by omega)]; simp
            · rw [decide_eq_false g1]
              by_cases g3 : 0 < k
              · by_cases g4 : 48 ≤ n
                · rw [decide_eq_false (fun g => h2 ⟨g3, g4, g⟩ : ¬ n ≤ 57)]; simp
                · rw [decide_eq_false g4]; simp
              · rw [decide_eq_false g3]; simp
          have HQ := hide (HB.out hq)
          clear hq HB HO HN hk20 hlt hk21
          by_cases g1 : 97 ≤ n
          · have a1 : (97 : Int) ≤ (n : Int) := by omega
            have a2 : ¬ (n : Int) ≤ 122 := by omega
            have a3 : (48 : Int) ≤ (n : Int) := by omega
            have a4 : ¬ (n : Int) ≤ 57 := by omega
            clear h1 h2 g1
            by_cases g3 : 0 < k
            · have a5 : (0 : Int) < (k : Int) := by omega
              clear g3
              go_wp2
              go_ret
              exact ⟨by rw [HQ.out]; rfl, rfl⟩
            · have a5 : ¬ (0 : Int) < (k : Int) := by omega
              clear g3
              go_wp2
              go_ret
              exact ⟨by rw [HQ.out]; rfl, rfl⟩
          · have a1 : ¬ (97 : Int) ≤ (n : Int) := by omega
            by_cases g3 : 0 < k
            · have a5 : (0 : Int) < (k : Int) := by omega
              by_cases g4 : 48 ≤ n
              · have a3 : (48 : Int) ≤ (n : Int) := by omega
                have a4 : ¬ (n : Int) ≤ 57 := by omega
                clear h1 h2 g1 g3 g4
                go_wp2
                go_ret
                exact ⟨by rw [HQ.out]; rfl, rfl⟩
              · have a3 : ¬ (48 : Int) ≤ (n : Int) := by omega
                clear h1 h2 g1 g3 g4
                go_wp2
                go_ret
                exact ⟨by rw [HQ.out]; rfl, rfl⟩
            · have a5 : ¬ (0 : Int) < (k : Int) := by omega
              clear h1 h2 g1 g3
              go_wp2
              go_ret
              exact ⟨by rw [HQ.out]; rfl, rfl⟩
    · by_cases hend : k < s.size
      · have hk21' : ¬ (k : Int) ≤ 20 := by omega
        have hlt' : (k : Int) < (s.size : Int) := by omega
        have HQ := hide (name_long (l := s.data.toList) (by rw [← HS.out]; omega))
        have q20 : ¬ (s.size : Int) ≤ 20 := by omega
        clear hlt hk21 hend
        go_wp2
        all_goals first
          | (exfalso; omega)
          | (go_ret; exact ⟨by rw [HQ.out]; rfl, rfl⟩)
      · have hks : k = s.size := by omega
        subst hks
        have hlt' : ¬ (s.size : Int) < (s.size : Int) := by omega
        cases hemp : s.toList.isEmpty with
        | true =>
          have HQ := hide (show isNameL s.data.toList = false by
            rw [HE.out] at hemp
            unfold isNameL
            rw [hemp]; rfl)
          clear hlt hk21 hend
          go_wp2
          all_goals first
            | (exfalso; omega)
            | (go_ret; exact ⟨by rw [HQ.out]; rfl, rfl⟩)
        | false =>
          by_cases h20 : s.size ≤ 20
          · have HQ := hide (name_all (l := s.data.toList) (fun j y hy => hh.out j y (by rw [HS.out]; exact (List.getElem?_eq_some_iff.1 hy).1) hy) (fun h => by rw [HE.out, h] at hemp; cases hemp) (by rw [← HS.out]; exact h20))
            have q20 : (s.size : Int) ≤ 20 := by omega
            clear hlt hk21 hend h20
            go_wp2
            all_goals first
              | (exfalso; omega)
              | (go_ret; exact ⟨by rw [HQ.out]; rfl, rfl⟩)
          · have HQ := hide (name_long (l := s.data.toList) (by rw [← HS.out]; omega))
            have q20 : ¬ (s.size : Int) ≤ 20 := by omega
            clear hlt hk21 hend h20
            go_wp2
            all_goals first
              | (exfalso; omega)
              | (go_ret; exact ⟨by rw [HQ.out]; rfl, rfl⟩)

theorem plainIns_eq (op n : Int) (nf : Nat) : plainIns op n nf = (!(kindOf op).word.toList.isEmpty && ((kindOf op).hasN || decide (n = 0)) && (!decide (op = 16) || (decide (0 ≤ n) && decide (n < (nf : Int))))) := by
  unfold plainIns isFuncL
  by_cases h : (kindOf op).word.toList.isEmpty = true
  · rw [if_pos h, h]; rfl
  · have h' : (kindOf op).word.toList.isEmpty = false := by simpa using h
    rw [if_neg h, h']
    by_cases h16 : op = 16
    · have hh : (kindOf op).hasN = true := (hasN_spec op).2 (by omega)
      rw [if_pos h16, hh, decide_eq_true h16]
      simp
    · rw [if_neg h16, decide_eq_false h16]
      simp

set_option maxRecDepth 100000 in
set_option maxHeartbeats 1000000 in
theorem refPlainIns_any (op n : Int) (nf : Nat) (w : World) : Calls Tryz.prog 16 #[.agg #[.int .i64 op, .int .i64 n], .int .i64 (nf : Int)] w fun e w' => e = .returned (.bool (plainIns op n nf)) ∧ Below w.heap.size w w' := by
  have hb1 := alloc_below w (.cells #[.int .i64 op, .int .i64 n] 42)
  have hi0 : (w.alloc (.cells #[.int .i64 op, .int .i64 n] 42)).heap[w.heap.size]? = some (.cells [.int .i64 op, .int .i64 n].toArray 42 (0, 0)) := heap_alloc_new w _
  have HP := hide (plainIns_eq op n nf)
  have HN := fun w => refHasN_any op w
  have NM := fun w => refName_any op w
  generalize (kindOf op).word = wd at NM HP
  generalize (kindOf op).hasN = hn at HN HP
  generalize plainIns op n nf = r at HP ⊢
  have i0 := cell_row (i := 0) hi0 rfl
  have i1 := cell_row (i := 1) hi0 rfl
  have hil := lt_row hi0
  go_enter Tryz.func16, Tryz.ntmps16
  go_wp2_with (go_at_call 19; go_must (refine (HN _).mono ?_; rintro e wz ⟨rfl, hwz⟩; replace hwz := hwz.symm; subst hwz; refine Hid.out ?_))
  refine Lib.hid ?_
  generalize w.alloc (.cells #[.int .i64 op, .int .i64 n] 42) = wA at hi0 hb1 i0 i1 hil ⊢
  clear HN
  cases hn
  all_goals
    go_wp2_with (go_at_call 18; go_must (refine (NM _).mono ?_; rintro e w1 ⟨rfl, hb2⟩; have j0 := keep_cell i0 hb2; have j1 := keep_cell i1 hb2; have hjl := cell_some_lt j0))
  all_goals
    go_ret
    refine ⟨ret_b ?_, hb1.trans (hb2.mono hb1.size)⟩
    rw [HP.out]
    clear NM HP j0 j1 i0 i1 hi0
    try simp_all
    try (intros; omega)
end Go.Proofs.YtfnloomcianbiaaGreatDoor
