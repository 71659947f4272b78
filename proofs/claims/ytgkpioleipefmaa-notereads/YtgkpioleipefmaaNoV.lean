/- Which views may be. -/
import Derived.Test.YtgkpioleipefmaaNoS
namespace Go.Proofs.Ytgkpioleipefmaa
open Go.RowKit Go.ChangeShapes Go.WideShapes Go.ChangeAt Go.Deep

theorem mem_at {w : World} {a : Option Addr} {c : List (Int × Int)} {k : Nat} (h : Reads w a (mV c)) (hk : k < c.length) : ∃ b off, a = some ⟨b, off, none⟩ ∧ w.cell? ⟨b, off + k * 2, none⟩ = some (.int .i64 c[k].1) ∧ w.cell? ⟨b, off + k * 2 + 1, none⟩ = some (.int .i64 c[k].2) := by
  have hh := mV_at c k hk
  rcases h with h | ⟨b, off, rfl, h⟩
  · rw [h] at hh; simp at hh
  · exact ⟨b, off, rfl, by rw [Nat.mul_comm]; exact h _ _ hh.1, by rw [Nat.mul_comm, Nat.add_assoc]; exact h _ _ hh.2⟩

/-- Each within its bounds, and above the one ahead. -/
def viewGo : Int → List (Int × Int) → Bool
  | _, [] => true
  | last, m :: r => !decide (m.1 ≤ last) && (okN 15 m.1 && (okNum m.2 && viewGo m.1 r))
theorem viewGo_len : ∀ (l : List (Int × Int)) (last : Int), -1 ≤ last → last ≤ 15 → viewGo last l = true → (l.length : Int) + last ≤ 15
  | [], last, _, h2, _ => by simpa using h2
  | m :: r, last, h1, h2, h => by
    simp only [viewGo, Bool.and_eq_true, Bool.not_eq_true', decide_eq_false_iff_not, okN_iff] at h
    have := viewGo_len r m.1 (by omega) (by omega) h.2.2.2
    simp only [List.length_cons]; omega
theorem viewGo_eq : ∀ (l : List (Int × Int)) (last : Int), viewGo last l = ((l.all fun m => okN 15 m.1 && okNum m.2) && rises l && (match l with | [] => true | m :: _ => decide (last < m.1)))
  | [], _ => rfl
  | [m], last => by
    simp only [viewGo, rises, List.all_cons, List.all_nil]
    rw [show (!decide (m.1 ≤ last)) = decide (last < m.1) by by_cases h : m.1 ≤ last <;> simp [h] <;> omega]
    generalize decide (last < m.1) = p1
    generalize okN 15 m.1 = p2
    generalize okNum m.2 = p3
    cases p1 <;> cases p2 <;> cases p3 <;> rfl
  | m :: b :: r, last => by
    rw [viewGo, viewGo_eq (b :: r) m.1]
    simp only [List.all_cons, rises]
    rw [show (!decide (m.1 ≤ last)) = decide (last < m.1) by by_cases h : m.1 ≤ last <;> simp [h] <;> omega]
    generalize decide (last < m.1) = p1
    generalize okN 15 m.1 = p2
    generalize okNum m.2 = p3
    generalize decide (m.1 < b.1) = p4
    generalize rises (b :: r) = p5
    generalize okN 15 b.1 = p6
    generalize okNum b.2 = p7
    generalize (r.all fun m => okN 15 m.1 && okNum m.2) = p8
    cases p1 <;> cases p2 <;> cases p3 <;> cases p4 <;> cases p5 <;> cases p6 <;> cases p7 <;> cases p8 <;> rfl
theorem okView_go (ep : Int) (l : List (Int × Int)) : okView ep l = (okNum ep && viewGo (-1) l) := by
  unfold okView
  by_cases h : viewGo (-1) l = true
  · have hl := viewGo_len l (-1) (by omega) (by omega) h
    have e := viewGo_eq l (-1)
    rw [h] at e ⊢
    have e' := e.symm
    simp only [Bool.and_eq_true] at e'
    rw [show decide (l.length ≤ 16) = true by simp; omega, e'.1.1, e'.1.2]
    simp
  · have e := viewGo_eq l (-1)
    have h' : viewGo (-1) l = false := by simpa using h
    rw [h'] at e ⊢
    cases l with
    | nil => simp [rises] at e
    | cons m r =>
      simp only [Bool.and_false]
      rw [Bool.and_assoc, Bool.and_assoc]
      have : (((m :: r).all fun m => okN 15 m.1 && okNum m.2) && rises (m :: r)) = false := by
        cases hq : (((m :: r).all fun m => okN 15 m.1 && okNum m.2) && rises (m :: r)) with
        | false => rfl
        | true =>
          rw [hq] at e
          simp at e
          simp [Bool.and_eq_true] at hq
          have := hq.1.1.1
          rw [okN_iff] at this
          omega
      rw [this]; simp
theorem viewGo_no {last : Int} {m : Int × Int} {r : List (Int × Int)} (h : m.1 ≤ last ∨ okN 15 m.1 = false ∨ okNum m.2 = false) : viewGo last (m :: r) = false := by
  rcases h with h | h | h <;> simp [viewGo, h]
theorem viewGo_yes {last : Int} {m : Int × Int} {r : List (Int × Int)} (h1 : ¬ m.1 ≤ last) (h2 : okN 15 m.1 = true) (h3 : okNum m.2 = true) : viewGo last (m :: r) = viewGo m.1 r := by
  simp only [viewGo, h2, h3]; simp; intro; omega

theorem within1 (m x : Int) (W : World) (g : Nat) (hg : g = W.heap.size) :
    Calls Try.prog 34 #[.int .i64 m, .slice (some ⟨g, 0, none⟩) 1 1] (W.alloc (.cells #[.int .i64 x] 3)) fun e w' => e = .returned (.bool (okN m x)) ∧ Below W.heap.size W w' := by
  subst hg
  refine (within_any m (some ⟨W.heap.size, 0, none⟩) 1 1 [x] (W.alloc (.cells #[.int .i64 x] 3)) rfl (by omega) (reads_new W (iV [x]) 3)).mono ?_
  rintro e w' ⟨rfl, rfl⟩
  exact ⟨by simp, below_new W _⟩
theorem within2 (m x y : Int) (W : World) (g : Nat) (hg : g = W.heap.size) :
    Calls Try.prog 34 #[.int .i64 m, .slice (some ⟨g, 0, none⟩) 2 2] (W.alloc (.cells #[.int .i64 x, .int .i64 y] 3)) fun e w' => e = .returned (.bool (okN m x && okN m y)) ∧ Below W.heap.size W w' := by
  subst hg
  refine (within_any m (some ⟨W.heap.size, 0, none⟩) 2 2 [x, y] (W.alloc (.cells #[.int .i64 x, .int .i64 y] 3)) rfl (by omega) (reads_new W (iV [x, y]) 3)).mono ?_
  rintro e w' ⟨rfl, rfl⟩
  exact ⟨by simp, below_new W _⟩

set_option maxRecDepth 100000 in
set_option maxHeartbeats 4000000 in
/-- note.mayView. -/
theorem mayView_any (ep : Int) (mem : List (Int × Int)) (a : Option Addr) (l c : Nat) (w : World) (hl : mem.length = l) (hlen : l ≤ 20000) (hr : Reads w a (mV mem)) :
    Calls Try.prog 37 #[.agg #[.int .i64 ep, .slice a l c]] w fun e w' => e = .returned (.bool (okView ep mem)) ∧ Below w.heap.size w w' := by
  have HO := hide (okView_go ep mem)
  generalize okView ep mem = R at HO ⊢
  have HB0 := hide (below_new w (.cells #[.int .i64 ep, .slice a l c] 29))
  obtain ⟨V, hV⟩ : ∃ V, V = w.alloc (.cells #[.int .i64 ep, .slice a l c] 29) := ⟨_, rfl⟩
  have hc0 : V.cell? ⟨w.heap.size, 0, none⟩ = some (.int .i64 ep) := by rw [hV, World.cell?_alloc_at _ _ _ _ rfl]; rfl
  have hc1 : V.cell? ⟨w.heap.size, 1, none⟩ = some (.slice a l c) := by rw [hV, World.cell?_alloc_at _ _ _ _ rfl]; rfl
  rw [← hV] at HB0
  have HVs := hide (show V.heap.size = w.heap.size + 1 by rw [hV]; simp)
  have HE := hide hV
  clear hV
  have W1 := hide (fun W g hg => within1 2147483647 ep W g hg)
  have W15 := hide (fun x W g hg => within1 15 x W g hg)
  have WN := hide (fun x W g hg => within1 2147483647 x W g hg)
  cases he : okN 2147483647 ep with
  | false =>
    rw [he] at W1
    have HF := hide (show R = false by rw [HO.out]; simp [okNum, he])
    go_enter Try.func37, Try.ntmps37
    go_wp2_with (go_at_call 34; go_must (rw [← HE.out]; (with_reducible refine (W1.out V _ (by first | rfl | rw [HVs.out])).mono ?_); rintro e w1 ⟨rfl, hb1⟩))
    go_ret
    exact ⟨by rw [HF.out]; rfl, HB0.out.trans (hb1.mono HB0.out.size)⟩
  | true =>
    rw [he] at W1
    have HR := hide (show R = viewGo (-1) mem by rw [HO.out]; simp [okNum, he])
    go_enter Try.func37, Try.ntmps37
    go_wp2_with (go_at_call 34; go_must (rw [← HE.out]; (with_reducible refine (W1.out V _ (by first | rfl | rw [HVs.out])).mono ?_); rintro e w1 ⟨rfl, hb1⟩; have k1 := keep_cell hc1 hb1; have HB1 := hide (HB0.out.trans (hb1.mono HB0.out.size))))
    go_loopw [3, 14] (fun la i wr => Hid (Below w.heap.size w wr) ∧ ∃ (k : Nat) (last : Int), k ≤ l ∧ i = .int .i64 (k : Nat) ∧ la = .int .i64 last ∧ Hid (R = viewGo last (mem.drop k))) (fun _ i _ => l - (intOf i).toNat)
    case atStart => exact ⟨HB1, 0, -1, Nat.zero_le _, rfl, rfl, by simpa using HR⟩
    case round =>
      obtain ⟨hbw, k, last, hk, rfl, rfl, hR⟩ := hrel
      by_cases hlt : k < l
      · have hkc : k < mem.length := by omega
        obtain ⟨cb, off, har, y0, y1⟩ := mem_at (hr.below hbw.out) hkc
        subst har
        have HD := hide (show mem.drop k = mem[k] :: mem.drop (k + 1) from List.drop_eq_getElem_cons hkc)
        generalize mem[k] = m at y0 y1 HD
        obtain ⟨mn, ml⟩ := m
        simp only at y0 y1
        have HNB := hide (fun (W : World) (o : Obj) (w' : World) (h : W = wr.alloc o) (hb : Below W.heap.size W w') => (show Below w.heap.size w w' by subst h; exact (hbw.out.alloc hbw.out.size o).trans (hb.mono (by have := hbw.out.size; simp; omega))))
        have hsz := hbw.out.size
        have hyl := cell_some_lt y0
        have hlt' : (k : Int) < (l : Int) := by omega
        have hR2 := hide (show R = viewGo last ((mn, ml) :: mem.drop (k + 1)) by rw [← HD.out]; exact hR.out)
        clear hR HD
        have K15 := hide (W15.out mn)
        have KN := hide (WN.out ml)
        by_cases h1 : mn ≤ last
        · have HF := hide (show R = false by rw [hR2.out]; exact viewGo_no (.inl h1))
          clear hR2
          go_wp2
          go_ret
          exact ⟨by rw [HF.out]; rfl, hbw.out.alloc hbw.out.size _⟩
        · obtain ⟨V2, hV2⟩ : ∃ V2, V2 = wr.alloc (.cells #[.int .i64 mn, .int .i64 ml] 50) := ⟨_, rfl⟩
          have d0 : V2.cell? ⟨wr.heap.size, 0, none⟩ = some (.int .i64 mn) := by rw [hV2, World.cell?_alloc_at _ _ _ _ rfl]; rfl
          have d1 : V2.cell? ⟨wr.heap.size, 1, none⟩ = some (.int .i64 ml) := by rw [hV2, World.cell?_alloc_at _ _ _ _ rfl]; rfl
          have hs2 : V2.heap.size = wr.heap.size + 1 := by rw [hV2]; simp
          have HV2 := hide hV2
          have HS2 := hide hs2
          have HB2 := hide (show Below w.heap.size w V2 by rw [hV2]; exact hbw.out.alloc hbw.out.size _)
          clear hV2 hs2
          cases h2 : okN 15 mn with
          | false =>
            rw [h2] at K15
            have HF := hide (show R = false by rw [hR2.out]; exact viewGo_no (.inr (.inl h2)))
            clear hR2
            go_wp2_with (go_at_call 34; go_must (rw [← HV2.out]; (with_reducible refine (K15.out V2 _ (by first | rfl | rw [HS2.out])).mono ?_); rintro e w2 ⟨rfl, hb2⟩))
            go_ret
            exact ⟨by rw [HF.out]; rfl, HB2.out.trans (hb2.mono HB2.out.size)⟩
          | true =>
            rw [h2] at K15
            cases h3 : okN 2147483647 ml with
            | false =>
              rw [h3] at KN
              have HF := hide (show R = false by rw [hR2.out]; exact viewGo_no (.inr (.inr h3)))
              clear hR2
              go_wp2_with (go_at_call 34; first
                | (rw [← HV2.out]; (with_reducible refine (K15.out V2 _ (by first | rfl | rw [HS2.out])).mono ?_); rintro e w2 ⟨rfl, hb2⟩; have e1 := keep_cell d1 hb2; have HB3 := hide (HB2.out.trans (hb2.mono HB2.out.size)))
                | (go_must ((with_reducible refine (KN.out w2 _ rfl).mono ?_); rintro e w3 ⟨rfl, hb3⟩)))
              go_ret
              exact ⟨by rw [HF.out]; rfl, HB3.out.trans (hb3.mono HB3.out.size)⟩
            | true =>
              rw [h3] at KN
              have HF := hide (show R = viewGo mn (mem.drop (k + 1)) by rw [hR2.out]; exact viewGo_yes h1 h2 h3)
              clear hR2
              go_wp2_with (go_at_call 34; first
                | (rw [← HV2.out]; (with_reducible refine (K15.out V2 _ (by first | rfl | rw [HS2.out])).mono ?_); rintro e w2 ⟨rfl, hb2⟩; have e1 := keep_cell d1 hb2; have e0 := keep_cell d0 hb2; have HB3 := hide (HB2.out.trans (hb2.mono HB2.out.size)))
                | (go_must ((with_reducible refine (KN.out w2 _ rfl).mono ?_); rintro e w3 ⟨rfl, hb3⟩; have e2 := keep_cell e0 hb3; have HB4 := hide (HB3.out.trans (hb3.mono HB3.out.size)))))
              go_roundw
              case rel => exact ⟨HB4, k + 1, mn, by omega, by go_num, rfl, HF⟩
              case measure => simp [intOf]; omega
      · have HD := hide (show mem.drop k = [] from List.drop_eq_nil_of_le (by omega))
        have HF := hide (show R = true by rw [hR.out, HD.out]; rfl)
        clear hR HD
        go_wp2
        go_ret
        exact ⟨by rw [HF.out]; rfl, hbw.out⟩
end Go.Proofs.Ytgkpioleipefmaa
