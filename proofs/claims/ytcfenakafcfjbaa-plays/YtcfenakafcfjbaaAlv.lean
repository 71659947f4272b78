/- Late, SameInts, the example. -/
import Derived.Test.YtcfenakafcfjbaaLat
namespace Go.Proofs.Ytcfenakafcfjbaa
open Go.RowKit Go.ChangeShapes Go.WideShapes Go.ChangeAt Go.Deep Go.Maps Go.Sort

theorem take_eq {α : Type} {a b : List α} {k : Nat} (hk : k < a.length) (hk' : k < b.length) (h : a.take k = b.take k) (he : a[k] = b[k]) : a.take (k + 1) = b.take (k + 1) := by
  rw [List.take_succ_eq_append_getElem hk, List.take_succ_eq_append_getElem hk', h, he]
theorem ne_at {α : Type} {a b : List α} {k : Nat} (hk : k < a.length) (hk' : k < b.length) (he : a[k] ≠ b[k]) : a ≠ b := fun h => he (by subst h; rfl)
set_option maxRecDepth 100000 in
set_option maxHeartbeats 8000000 in
/-- gleanerref1.SameInts. -/
theorem sameInts_any (la lb : List Int) (aa ba : Option Addr) (al ac bl bc : Nat) (w : World) (hla : la.length = al) (hlb : lb.length = bl) (hal : al ≤ 20000) (ra : Reads w aa (iV la)) (rb : Reads w ba (iV lb)) :
    Calls Try.prog 18 #[.slice aa al ac, .slice ba bl bc] w fun e w' => e = .returned (.bool (decide (la = lb))) ∧ Below w.heap.size w w' := by
  by_cases hl : al = bl
  · subst hl
    obtain ⟨R, hR⟩ : ∃ R, R = decide (la = lb) := ⟨_, rfl⟩
    rw [← hR]
    have HD := hide hR
    clear hR
    go_enter Try.func18, Try.ntmps18
    go_wp2
    go_loopw [5] (fun i wr => Hid (Below w.heap.size w wr) ∧ ∃ (k : Nat), k ≤ al ∧ i = .int .i64 (k : Nat) ∧ Hid (la.take k = lb.take k)) (fun i _ => al - (intOf i).toNat)
    case atStart => exact ⟨hide (Below.refl _ _), 0, Nat.zero_le _, rfl, hide rfl⟩
    case round =>
      obtain ⟨hbw, k, hk, rfl, hT⟩ := hrel
      by_cases hlt : k < al
      · have hka : k < la.length := by omega
        have hkb : k < lb.length := by omega
        obtain ⟨cb, off, har, hcs⟩ := reads_at (ra.below hbw.out) hka
        obtain ⟨eb, eff, hbr, hds⟩ := reads_at (rb.below hbw.out) hkb
        subst har
        subst hbr
        have y0 := hcs.out k (.int .i64 la[k]) (by simp [iV, hka])
        have z0 := hds.out k (.int .i64 lb[k]) (by simp [iV, hkb])
        have hlt' : (k : Int) < (al : Int) := by omega
        have HTE := hide (fun h => take_eq hka hkb hT.out h)
        have HNE := hide (fun h => ne_at hka hkb h)
        generalize la[k] = x at y0 HTE HNE
        generalize lb[k] = y at z0 HTE HNE
        clear hcs hds
        by_cases he : x = y
        · subst he
          have HN := hide (HTE.out rfl)
          clear HTE HNE hT
          go_wp2_with fail
          go_big_quiet (fail)
          go_wp2_with fail
          go_roundw
          case rel => exact ⟨hide (below_drewN hbw.out _), k + 1, by omega, by go_num, HN⟩
          case measure => simp [intOf]; omega
        · have HF := hide (show R = false by rw [HD.out]; exact decide_eq_false (HNE.out he))
          have g0 : (x == y) = false := by rw [beq_eq_false_iff_ne]; exact he
          clear HTE HNE hT
          go_wp2_with fail
          go_big_quiet (fail)
          go_wp2
          go_ret
          exact ⟨by rw [HF.out]; rfl, below_drewN hbw.out _⟩
      · have HF := hide (show R = true by
          rw [HD.out]
          have e1 : la.take k = la := List.take_of_length_le (by omega)
          have e2 : lb.take k = lb := List.take_of_length_le (by omega)
          have := hT.out
          rw [e1, e2] at this
          exact decide_eq_true this)
        have hlt' : ¬ (k : Int) < (al : Int) := by omega
        clear hT
        go_wp2
        go_ret
        exact ⟨by rw [HF.out]; rfl, hbw.out⟩
  · have HF := hide (show decide (la = lb) = false from decide_eq_false (fun h => hl (by rw [← hla, ← hlb, h])))
    generalize decide (la = lb) = R at HF ⊢
    have q1 : ((al : Int) == (bl : Int)) = false := by rw [beq_eq_false_iff_ne]; omega
    go_enter Try.func18, Try.ntmps18
    go_wp2
    go_ret
    exact ⟨by rw [HF.out]; rfl, Below.refl _ _⟩



def lateS (F : Int → Option Int) (wt now x : Int) : Prop := okT now = true ∧ lateP F (now - max 1 wt) x
theorem late_any (w : World) {E : Cl} {cb N : Nat} {wt : Int} {F G : Int → Option Int} (h : BeM E w cb wt N F G) (hN : N ≤ 100000) (now : Int) :
    Calls Try.prog 15 #[.pointer (some ⟨cb, 0, none⟩), .int .i64 now] w (LateP w N (lateS F wt now)) := by
  cases hq : okT now
  · exact late_no w h now hq
  · exact late_yes w h hN now hq

/-- Rising rows of the same numbers are one. -/
theorem rise_one : ∀ {A B : List Int}, A.Pairwise (· < ·) → B.Pairwise (· < ·) → (∀ x, x ∈ A ↔ x ∈ B) → A = B
  | [], [], _, _, _ => rfl
  | [], b :: B, _, _, h => by have := (h b).2 (by simp); cases this
  | a :: A, [], _, _, h => by have := (h a).1 (by simp); cases this
  | a :: A, b :: B, hA, hB, h => by
    obtain ⟨a1, a2⟩ := List.pairwise_cons.1 hA
    obtain ⟨b1, b2⟩ := List.pairwise_cons.1 hB
    have e : a = b := by
      have h1 := (h a).1 (by simp)
      have h2 := (h b).2 (by simp)
      rcases List.mem_cons.1 h1 with e | e
      · exact e
      · rcases List.mem_cons.1 h2 with e2 | e2
        · exact e2.symm
        · have := b1 a e; have := a1 b e2; omega
    subst e
    rw [rise_one a2 b2 (fun x => ⟨fun hx => ?_, fun hx => ?_⟩)]
    · rcases List.mem_cons.1 ((h x).1 (List.mem_cons_of_mem _ hx)) with e | e
      · subst e; exact absurd (a1 x hx) (by omega)
      · exact e
    · rcases List.mem_cons.1 ((h x).2 (List.mem_cons_of_mem _ hx)) with e | e
      · subst e; exact absurd (b1 x hx) (by omega)
      · exact e

/-- A late row of which one knows the numbers. -/
def RowP (w : World) (L : List Int) (e : Ending) (w' : World) : Prop := ∃ a c, e = .returned (.slice a L.length c) ∧ w'.ownsRow w.heap.size 3 1 (.slice a L.length c) L.length (iV L) ∧ Reads w' a (iV L) ∧ Below w.heap.size w w'
theorem late_row {w : World} {N : Nat} {P : Int → Prop} {e : Ending} {w' : World} (h : LateP w N P e w') (L : List Int) (hL : L.Pairwise (· < ·)) (hP : ∀ x, P x ↔ x ∈ L) : RowP w L e w' := by
  obtain ⟨v, R, rfl, ho, hp, hm, hl, hb⟩ := h
  obtain rfl : R = L := rise_one hp hL (fun x => by rw [hm x, hP x])
  obtain ⟨a, c, rfl, _, hr, _⟩ := own_reads ho
  exact ⟨a, c, rfl, ho, hr, hb⟩

theorem al_new : newF [1, 2] = upd (upd (fun _ => none) 1 0) 2 0 ∧ newG [1, 2] = upd (upd (fun _ => none) 1 1) 2 1 := ⟨rfl, rfl⟩
theorem al_heard : heardQ (newF [1, 2]) (newG [1, 2]) 1 1 3 = true := by kernel_rfl
theorem al_7 (x : Int) : lateS (upd (newF [1, 2]) 1 (max ((newF [1, 2] 1).getD 0) 3)) 5 7 x ↔ x ∈ [2] := by
  rw [al_new.1]
  simp only [lateS, lateP, upd, okT, List.mem_singleton]
  constructor
  · rintro ⟨_, _, t, h, h2⟩
    by_cases e : x = 1
    · simp [e] at h; omega
    · by_cases e2 : x = 2
      · exact e2
      · simp [e, e2] at h
  · rintro rfl
    exact ⟨by decide, by unfold I64; omega, 0, by simp, by omega⟩
theorem al_9 (x : Int) : lateS (upd (newF [1, 2]) 1 (max ((newF [1, 2] 1).getD 0) 3)) 5 9 x ↔ x ∈ [1, 2] := by
  rw [al_new.1]
  simp only [lateS, lateP, upd, okT, List.mem_cons, List.not_mem_nil, or_false]
  constructor
  · rintro ⟨_, _, t, h, h2⟩
    by_cases e : x = 1
    · exact .inl e
    · by_cases e2 : x = 2
      · exact .inr e2
      · simp [e, e2] at h
  · rintro (rfl | rfl)
    · exact ⟨by decide, by unfold I64; omega, 3, by simp; omega, by omega⟩
    · exact ⟨by decide, by unfold I64; omega, 0, by simp, by omega⟩

/-- What New answers. -/
def NewP (w : World) (wt : Int) (n : Nat) (l : List Int) (e : Ending) (w' : World) : Prop := ∃ cb E, e = .returned (.pointer (some ⟨cb, 0, none⟩)) ∧ BeM E w' cb wt n (newF l) (newG l) ∧ Below w.heap.size w w' ∧ ∀ j, E j → w.heap.size ≤ j
theorem new_one (w : World) (wt : Int) (hwt : I64 wt) (l : List Int) (a : Option Addr) (n c : Nat) (hl : l.length = n) (hn : n ≤ 20000) (hi : In64 l) (ra : Reads w a (iV l)) :
    Calls Try.prog 7 #[.int .i64 wt, .slice a n c] w (NewP w wt n l) :=
  (new_any w wt hwt l a n c hl hn hi ra).mono (by rintro e w' ⟨E, h1, h2, h3, h4⟩; exact ⟨_, E, h1, h2, h3, h4⟩)

set_option maxRecDepth 100000 in
set_option maxHeartbeats 2000000 in
theorem alive_any (w : World) : Calls Try.prog 6 #[] w fun e w' => e = .returned (.bool true) ∧ Below w.heap.size w w' := by
  have i64 : ∀ x : Int, 0 ≤ x → x ≤ 100 → I64 x := fun x h1 h2 => by unfold I64; omega
  have C7 := hide (new_one (w.alloc (.cells #[.int .i64 1, .int .i64 2] 3)) 5 (i64 5 (by omega) (by omega)) [1, 2] (some ⟨w.heap.size, 0, none⟩) 2 2 rfl (by omega) (by intro x hx; simp at hx; omega) (reads2 w 1 2))
  have HB0 := hide (below_new w (.cells #[.int .i64 1, .int .i64 2] 3))
  go_enter Try.func6, Try.ntmps6
  go_upto_region 4 with (go_at_call 7; go_must ((with_reducible refine C7.out.mono ?_); rintro e w1 ⟨cb, E, rfl, hM, hb, hE⟩; have HM := hide hM; have HB1 := hide (HB0.out.trans (hb.mono HB0.out.size)); have HE := hide (show ∀ j, j < w.heap.size → ¬ E j from fun j hj e => by have := hE j e; have := HB0.out.size; omega); clear hM hb hE))
  have C9 := hide (heard_yes HM.out (by omega) 1 1 3 (i64 1 (by omega) (by omega)) (i64 3 (by omega) (by omega)) (by simp [al_new.1, upd]; exact i64 0 (by omega) (by omega)) al_heard)
  go_upto_region 5 with (go_at_call 9; go_must ((with_reducible refine C9.out.mono ?_); rintro e w2 ⟨rfl, hM, hS⟩; have HM2 := hide hM; have HB2 := hide (hS.kp.below HB1.out (Nat.le_refl _) HE.out); clear hM hS))
  have CL := hide (late_any w2 HM2.out (by omega) 7)
  go_upto_region 6 with (go_at_call 15; go_must ((with_reducible refine CL.out.mono ?_); intro e w3 h; obtain ⟨a3, c3, rfl, ho, hr, hb⟩ := late_row h [2] (by simp) al_7; have HO3 := hide ho; have HR3 := hide hr; have HB3 := hide (HB2.out.trans (hb.mono HB2.out.size)); have HM3 := hide (HM2.out.below hb); clear h ho hr hb))
  have CM := hide (late_any w3 HM3.out (by omega) 9)
  go_upto_region 7 with (go_at_call 15; go_must ((with_reducible refine CM.out.mono ?_); intro e w4 h; obtain ⟨a4, c4, rfl, ho, hr, hb⟩ := late_row h [1, 2] (by simp) al_9; have HR4 := hide hr; have HB4 := hide (HB3.out.trans (hb.mono HB3.out.size)); have HR34 := hide (HR3.out.below hb); clear h ho hr hb))
  have hb5 := below_new w4 (.cells #[.int .i64 2] 3)
  have S1 := hide (sameInts_any [2] [2] a3 (some ⟨w4.heap.size, 0, none⟩) 1 c3 1 1 (w4.alloc (.cells #[.int .i64 2] 3)) rfl rfl (by omega) (HR34.out.below hb5) (reads1 w4 2))
  rw [decide_eq_true (rfl : ([2] : List Int) = [2])] at S1
  have HB5 := hide (HB4.out.trans (hb5.mono HB4.out.size))
  have HR45 := hide (HR4.out.below hb5)
  clear hb5
  go_wp2_with (go_at_call 18; ((with_reducible refine S1.out.mono ?_); rintro e w5 ⟨rfl, hb⟩; have HB6 := hide (HB5.out.trans (hb.mono HB5.out.size)); have HR6 := hide (HR45.out.below hb); clear hb))
  have hb6 := below_new w5 (.cells #[.int .i64 1, .int .i64 2] 3)
  have S2 := hide (sameInts_any [1, 2] [1, 2] a4 (some ⟨w5.heap.size, 0, none⟩) 2 c4 2 2 (w5.alloc (.cells #[.int .i64 1, .int .i64 2] 3)) rfl rfl (by omega) (HR6.out.below hb6) (reads2 w5 1 2))
  rw [decide_eq_true (rfl : ([1, 2] : List Int) = [1, 2])] at S2
  have HB7 := hide (HB6.out.trans (hb6.mono HB6.out.size))
  clear hb6
  go_wp2_with (go_at_call 18; go_must ((with_reducible refine S2.out.mono ?_); rintro e w6 ⟨rfl, hb⟩; have HB8 := hide (HB7.out.trans (hb.mono HB7.out.size)); clear hb))
  go_ret
  exact ⟨rfl, HB8.out⟩
end Go.Proofs.Ytcfenakafcfjbaa
