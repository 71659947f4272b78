/- The document's Late. -/
import Derived.Test.YtcfenakafcfjbaaRne
namespace Go.Proofs.Ytcfenakafcfjbaa
open Go.RowKit Go.ChangeShapes Go.WideShapes Go.ChangeAt Go.Deep Go.Maps Go.Sort

theorem riseL_cons (a x : Int) (r : List Int) : riseL (a :: r) x = if a < x then a :: riseL r x else if a = x then a :: r else x :: a :: r := by
  by_cases h : a < x
  · have hl : lessB a x = true := by simp [lessB, h]
    simp only [riseL, leadN, hl, if_true, List.getElem?_cons_succ, h]
    split
    · rfl
    · simp
  · have hl : lessB a x = false := by simp [lessB]; omega
    have e0 : leadN x (a :: r) = 0 := by simp [leadN, hl]
    unfold riseL
    rw [e0]
    by_cases e : a = x
    · simp [e]
    · simp [e, h]
theorem riseL_mem (x y : Int) : ∀ L : List Int, y ∈ riseL L x ↔ y ∈ L ∨ y = x
  | [] => by simp [riseL, leadN]
  | a :: r => by
    rw [riseL_cons]
    split
    · rw [List.mem_cons, riseL_mem x y r, List.mem_cons]
      constructor
      · rintro (h | h | h)
        · exact .inl (.inl h)
        · exact .inl (.inr h)
        · exact .inr h
      · rintro ((h | h) | h)
        · exact .inl h
        · exact .inr (.inl h)
        · exact .inr (.inr h)
    · split
      · rename_i h; subst h
        constructor
        · exact .inl
        · rintro (h | h)
          · exact h
          · subst h; simp
      · rw [List.mem_cons]
        constructor
        · rintro (h | h)
          · exact .inr h
          · exact .inl h
        · rintro (h | h)
          · exact .inr h
          · exact .inl h
theorem riseL_rise (x : Int) : ∀ L : List Int, L.Pairwise (· < ·) → (riseL L x).Pairwise (· < ·)
  | [], _ => by simp [riseL, leadN]
  | a :: r, h => by
    obtain ⟨h1, h2⟩ := List.pairwise_cons.1 h
    rw [riseL_cons]
    split
    · refine List.pairwise_cons.2 ⟨fun y hy => ?_, riseL_rise x r h2⟩
      rcases (riseL_mem x y r).1 hy with h3 | h3
      · exact h1 y h3
      · omega
    · split
      · exact h
      · refine List.pairwise_cons.2 ⟨fun y hy => ?_, h⟩
        rcases List.mem_cons.1 hy with rfl | hy
        · omega
        · have := h1 y hy; omega
theorem riseL_len (L : List Int) (x : Int) : (riseL L x).length ≤ L.length + 1 := by
  unfold riseL
  split
  · omega
  · simp; omega

theorem _root_.Go.World.ownsRow.drewN {w : World} {base : Nat} {e : TypeId} {size : Nat} {v : Value} {n : Nat} {xs : List Value} (h : w.ownsRow base e size v n xs) {q : Nat} : (w.drewN q).ownsRow base e size v n xs := h
theorem below_undrewN {w w' : World} {q : Nat} (h : Below (w.drewN q).heap.size (w.drewN q) w') : Below w.heap.size w w' := ⟨h.os, h.tape, h.output, h.size, h.block⟩
/-- Late it is. -/
def lcW (now wt : Int) (e : Wd) : Bool := e.inn && (decide (now > wt) && decide (e.at' < now - wt))
def rlateS (S : List Wd) (wt now x : Int) : Prop := okT now = true ∧ ∃ e ∈ S, lcW now wt e = true ∧ e.nd = x
/-- What was collected of the first k. -/
def CoP (S : List Wd) (wt now : Int) (k : Nat) (L : List Int) : Prop := L.Pairwise (· < ·) ∧ L.length ≤ k ∧ ∀ x, x ∈ L ↔ ∃ e ∈ S.take k, lcW now wt e = true ∧ e.nd = x
theorem CoP.nil (S : List Wd) (wt now : Int) : CoP S wt now 0 [] := ⟨List.Pairwise.nil, Nat.le_refl _, fun x => by simp⟩
theorem CoP.no {S : List Wd} {wt now : Int} {k : Nat} {L : List Int} (h : CoP S wt now k L) (hk : k < S.length) (hl : lcW now wt S[k] = false) : CoP S wt now (k + 1) L := by
  refine ⟨h.1, by have := h.2.1; omega, fun x => ?_⟩
  rw [h.2.2 x, List.take_succ_eq_append_getElem hk]
  constructor
  · rintro ⟨e, he, h1⟩
    exact ⟨e, List.mem_append_left _ he, h1⟩
  · rintro ⟨e, he, h1, h2⟩
    rcases List.mem_append.1 he with he | he
    · exact ⟨e, he, h1, h2⟩
    · rw [List.mem_singleton.1 he, hl] at h1; cases h1
theorem CoP.yes {S : List Wd} {wt now : Int} {k : Nat} {L : List Int} (h : CoP S wt now k L) (hk : k < S.length) (hl : lcW now wt S[k] = true) : CoP S wt now (k + 1) (riseL L S[k].nd) := by
  refine ⟨riseL_rise _ _ h.1, by have := h.2.1; have := riseL_len L S[k].nd; omega, fun x => ?_⟩
  rw [riseL_mem, h.2.2 x, List.take_succ_eq_append_getElem hk]
  constructor
  · rintro (⟨e, he, h1⟩ | rfl)
    · exact ⟨e, List.mem_append_left _ he, h1⟩
    · exact ⟨S[k], List.mem_append_right _ (by simp), hl, rfl⟩
  · rintro ⟨e, he, h1, h2⟩
    rcases List.mem_append.1 he with he | he
    · exact .inl ⟨e, he, h1, h2⟩
    · rw [List.mem_singleton.1 he] at h2; exact .inr h2.symm

set_option maxRecDepth 100000 in
set_option maxHeartbeats 8000000 in
theorem rlate_any {E : Cl} {w : World} {rb : Nat} {wt : Int} {S : List Wd} (h : RbM E w rb wt S) (hS : S.length ≤ 900) (hwt : 1 ≤ wt) (now : Int) :
    Calls Try.prog 19 #[.pointer (some ⟨rb, 0, none⟩), .int .i64 now] w (LateP w S.length (rlateS S wt now)) := by
  have HM := hide h
  have hw := h.2.2.1
  have HLN := hide hS
  obtain ⟨-, -, -, a, n, c, hB, hR, -⟩ := h
  have HR := hide hR
  have hn : S.length = n := hR.1
  have hn9 : n ≤ 900 := by rw [← hn]; exact hS
  have HN := hide hn
  obtain ⟨b0, g0⟩ := hB.at (o := 0) rfl
  obtain ⟨b1, g1⟩ := hB.at (o := 1) rfl
  have HB0 := hide b0
  have HB1 := hide b1
  have HRB := hide hB.1
  have HW := hide (And.intro hwt hw)
  unfold LateP
  clear hB hR hn b0 b1 g0 g1 hwt hw hS
  go_enter Try.func19, Try.ntmps19
  go_wp2
  go_loopw [5, 6] (fun v i wr => ∃ (k : Nat) (L : List Int), k ≤ n ∧ i = .int .i64 (k : Nat) ∧ Hid (wr.ownsRow w.heap.size 3 1 v L.length (iV L) ∧ CoP S wt now k L ∧ Below w.heap.size w wr ∧ (okT now = true ∨ k = 0))) (fun _ i _ => n - (intOf i).toNat)
  case atStart => exact ⟨0, [], Nat.zero_le _, rfl, hide ⟨World.ownsRow_nil _ _ _ _, CoP.nil _ _ _, Below.refl _ _, .inr rfl⟩⟩
  case round =>
    obtain ⟨k, L, hk, rfl, HA⟩ := hrel
    obtain ⟨ho, hC, hb, hk0⟩ := HA.out
    obtain ⟨aL, cL, rfl, -, -, -⟩ := own_formI ho
    have d1 := keep_cell HB1.out hb
    have C23 := hide (when_any now wr)
    by_cases hlt : k < n
    · have hlt' : (k : Int) < (n : Int) := by omega
      cases hq : okT now
      · rw [hq] at C23
        have HF := hide (show L = [] ∧ ∀ x, ¬ rlateS S wt now x from by
          have k0 : k = 0 := by
            rcases hk0 with e | e
            · rw [hq] at e; cases e
            · exact e
          subst k0
          refine ⟨List.eq_nil_of_length_eq_zero (by have := hC.2.1; omega), fun x h => by have h2 := h.1; rw [hq] at h2; cases h2⟩)
        have HO := hide ho
        have HBB := hide hb
        clear ho hC hb hk0 HA hq
        go_wp2_with (go_at_call 23; ((with_reducible refine C23.out.mono ?_); rintro e w1 ⟨rfl, hw1⟩; subst hw1))
        go_ret
        obtain ⟨rfl, hno⟩ := HF.out
        exact ⟨_, [], rfl, HO.out, List.Pairwise.nil, fun x => by simp [hno x], Nat.zero_le _, HBB.out⟩
      · rw [hq] at C23
        have hkl : k < S.length := by have := HN.out; omega
        obtain ⟨g, rfl, hg⟩ := HR.out.isAt (by omega)
        obtain ⟨y0, -, y2, -, y4, -⟩ := HR.out.at hkl
        have z0 := keep_cell y0 hb
        have z2 := keep_cell y2 hb
        have z4 := keep_cell y4 hb
        have d0 := keep_cell HB0.out hb
        have HQ := hide hq
        have hnow : 0 ≤ now ∧ now ≤ 1099511627776 := by simpa [okT] using hq
        have q1 : wrap64 (now - wt) = now - wt := by have := HW.out; unfold I64 at this; unfold wrap64; omega
        have q1' : IntKind.i64.wrap (now - wt) = now - wt := by rw [IntKind.wrap_i64]; unfold wrap64 at q1; exact q1
        have HLC : Hid (lcW now wt S[k] = (S[k].inn && (decide (now > wt) && decide (S[k].at' < now - wt)))) := hide rfl
        have hY := fun hl => hC.yes hkl hl
        have hNo := fun hl => hC.no hkl hl
        have hL9 : L.length ≤ 900 := by have := hC.2.1; have := HLN.out; omega
        generalize lcW now wt S[k] = lc at HLC hY hNo
        generalize S[k].inn = inn at z4 HLC
        generalize S[k].at' = at' at z2 HLC
        generalize S[k].nd = nd at z0 hY
        clear y0 y2 y4 hq hkl hC hk0 HA hnow
        have HO := hide ho
        have HBB := hide hb
        by_cases hlc : lc = true
        · have hc := HLC.out
          rw [hlc] at hc
          have hc2 : inn = true ∧ now > wt ∧ at' < now - wt := by
            have h := hc.symm
            simp only [Bool.and_eq_true, decide_eq_true_eq] at h
            exact ⟨h.1, h.2.1, h.2.2⟩
          obtain ⟨rfl, e2, e3⟩ := hc2
          have e2' : decide (now > wt) = true := by simpa using e2
          have e3' : decide (at' < now - wt) = true := by simpa using e3
          have hlt2 : now - wt > at' := e3
          have HY := hide (hY hlc)
          have C26 := hide (fun q => rise_any L nd w.heap.size (.slice aL L.length cL) (wr.drewN q) ho.drewN (by omega) (by simpa using hb.size))
          unfold RisePost at C26
          clear hY hNo hlc hc HLC ho hb
          go_upto_region 5 with (go_at_call 23; ((with_reducible refine C23.out.mono ?_); rintro e w1 ⟨rfl, hw1⟩; subst hw1))
          go_big_quiet (fail)
          go_wp2_with (go_at_call 26; ((with_reducible refine (C26.out _).mono ?_); rintro e w2 ⟨v2, rfl, ho2, hb2⟩; have HO2 := hide ho2; have HB2 := hide (HBB.out.trans ((below_undrewN hb2).mono HBB.out.size)); clear ho2 hb2))
          go_roundw
          case rel => exact ⟨k + 1, _, by omega, by go_num, hide ⟨HO2.out, HY.out, HB2.out, .inl (by first | exact HQ.out | trivial)⟩⟩
          case measure => simp [intOf]; omega
        · have hlf : lc = false := by simpa using hlc
          have HNo := hide (hNo hlf)
          have hc := HLC.out
          rw [hlf] at hc
          have hc2 : inn = false ∨ (inn = true ∧ ¬ now > wt) ∨ (inn = true ∧ now > wt ∧ ¬ at' < now - wt) := by
            have h := hc.symm
            simp only [Bool.and_eq_false_iff, decide_eq_false_iff_not] at h
            cases inn
            · exact .inl rfl
            · by_cases h5 : now > wt
              · refine .inr (.inr ⟨rfl, h5, ?_⟩)
                rcases h with h | h | h
                · cases h
                · exact absurd h5 h
                · exact h
              · exact .inr (.inl ⟨rfl, h5⟩)
          clear hY hNo hlc hc HLC ho hb hlf
          rcases hc2 with rfl | ⟨rfl, e2⟩ | ⟨rfl, e2, e3⟩
          · go_upto_region 5 with (go_at_call 23; ((with_reducible refine C23.out.mono ?_); rintro e w1 ⟨rfl, hw1⟩; subst hw1))
            go_big_quiet (fail)
            go_wp2_with fail
            go_roundw
            case rel => exact ⟨k + 1, L, by omega, by go_num, hide ⟨HO.out.drewN, HNo.out, below_drewN HBB.out _, .inl (by first | exact HQ.out | trivial)⟩⟩
            case measure => simp [intOf]; omega
          · have e2' : decide (now > wt) = false := by simpa using e2
            go_upto_region 5 with (go_at_call 23; ((with_reducible refine C23.out.mono ?_); rintro e w1 ⟨rfl, hw1⟩; subst hw1))
            go_big_quiet (fail)
            go_wp2_with fail
            go_roundw
            case rel => exact ⟨k + 1, L, by omega, by go_num, hide ⟨HO.out.drewN, HNo.out, below_drewN HBB.out _, .inl (by first | exact HQ.out | trivial)⟩⟩
            case measure => simp [intOf]; omega
          · have e2' : decide (now > wt) = true := by simpa using e2
            have e3' : decide (at' < now - wt) = false := by simpa using e3
            go_upto_region 5 with (go_at_call 23; ((with_reducible refine C23.out.mono ?_); rintro e w1 ⟨rfl, hw1⟩; subst hw1))
            go_big_quiet (fail)
            go_wp2_with fail
            go_roundw
            case rel => exact ⟨k + 1, L, by omega, by go_num, hide ⟨HO.out.drewN, HNo.out, below_drewN HBB.out _, .inl (by first | exact HQ.out | trivial)⟩⟩
            case measure => simp [intOf]; omega
    · obtain rfl : k = n := by omega
      have HF := hide (show ∀ x, x ∈ L ↔ rlateS S wt now x from fun x => by
        rw [hC.2.2 x, List.take_of_length_le (by have := HN.out; omega)]
        unfold rlateS
        rcases hk0 with e | e
        · rw [e]; simp
        · constructor
          · rintro ⟨y, hy, _⟩
            have : S = [] := List.eq_nil_of_length_eq_zero (by have := HN.out; omega)
            rw [this] at hy; cases hy
          · rintro ⟨_, y, hy, _⟩
            have : S = [] := List.eq_nil_of_length_eq_zero (by have := HN.out; omega)
            rw [this] at hy; cases hy)
      have HO := hide ho
      have HBB := hide hb
      have HRi := hide hC.1
      have HLe := hide hC.2.1
      clear ho hC hb hk0 HA
      go_wp2
      go_ret
      exact ⟨_, L, rfl, HO.out, HRi.out, HF.out, by have := HLe.out; have := HN.out; omega, HBB.out⟩
end Go.Proofs.Ytcfenakafcfjbaa
