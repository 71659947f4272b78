/- gleanerref4.Read. -/
import Derived.Test.YtfnloomcianbiaaGreatDoorRefG
import Derived.Test.YtfnloomcianbiaaGreatDoorReadW
namespace Go.Proofs.YtfnloomcianbiaaGreatDoor
open Go.RowKit Go.ChangeShapes Go.WideShapes Go.ChangeAt Go.Deep

def RefPost (R : Except Int St) (w : World) (e : Ending) (w' : World) : Prop :=
  Below w.heap.size w w' ∧ match R with
    | .error n => e = .returned (.tuple #[noJob, .int .i64 n, .int .i64 2])
    | .ok st => ∃ fa fc aa ac cs, e = .returned (.tuple #[.agg #[.slice fa st.funcs.length fc, .int .i64 st.main, .slice aa st.args.length ac, .int .i64 st.fuel, .int .i64 st.tasks], .int .i64 0, .int .i64 0]) ∧ JobR w' ⟨fa, st.funcs.length, fc, st.main, aa, st.args.length, ac, st.fuel, st.tasks⟩ cs st.funcs st.args

theorem lateV_at {us : List Use} {k : Nat} {u : Use} (h : us[k]? = some u) (i : Nat) (hi : i < 4) : (lateV us)[k * 4 + i]? = (Use.late u)[i]? := by
  induction us generalizing k with
  | nil => simp at h
  | cons a r ih =>
    cases k with
    | zero =>
      have : a = u := by simpa using h
      subst this
      show (Use.late a ++ lateV r)[0 * 4 + i]? = _
      rw [List.getElem?_append_left (by simp [Use.late]; omega)]
      simp
    | succ k =>
      show (Use.late a ++ lateV r)[(k + 1) * 4 + i]? = _
      rw [List.getElem?_append_right (by simp [Use.late]; omega)]
      have e1 : (k + 1) * 4 + i - (Use.late a).length = k * 4 + i := by simp [Use.late]; omega
      rw [e1]
      exact ih (by simpa using h)
theorem find_first {nm : ByteArray} {fs : List Fun} {k : Nat} {f : Fun} (h : fs[k]? = some f) (he : (f.name.toList == nm.toList) = true) (hd : ∀ q g, q < k → fs[q]? = some g → (g.name.toList == nm.toList) = false) : findF nm fs = (k : Int) := by
  have gen : ∀ (gs : List Fun) (m i : Nat), gs[m]? = some f → (∀ q g, q < m → gs[q]? = some g → (g.name.toList == nm.toList) = false) → findFrom nm gs i = ((i + m : Nat) : Int) := by
    intro gs
    induction gs with
    | nil => intro m i h; simp at h
    | cons g r ih =>
      intro m i hm hdd
      cases m with
      | zero =>
        have : g = f := by simpa using hm
        subst this
        rw [findFrom, if_pos he]; rfl
      | succ m =>
        have h0 := hdd 0 g (by omega) rfl
        rw [findFrom, h0, if_neg (by decide), ih m (i + 1) (by simpa using hm) (fun q g' hq hg' => hdd (q + 1) g' (by omega) (by simpa using hg'))]
        omega
  have := gen fs k 0 h hd
  rw [Nat.zero_add] at this
  exact this

theorem lines_bound : ∀ (l acc : List UInt8), (linesFrom acc l).1.length ≤ l.length + 1 ∧ ∀ s ∈ (linesFrom acc l).1, s.size ≤ acc.length + l.length
  | [], acc => by
    rw [linesFrom]
    split
    · exact ⟨by simp, fun s hs => by cases hs⟩
    · refine ⟨by simp, fun s hs => ?_⟩
      simp only [List.mem_singleton] at hs
      rw [hs, bs_size]
      simp
  | c :: r, acc => by
    rw [linesFrom]
    split
    · obtain ⟨h1, h2⟩ := lines_bound r []
      refine ⟨by simp; omega, fun s hs => ?_⟩
      simp only [List.mem_cons] at hs
      rcases hs with rfl | hs
      · rw [bs_size]; omega
      · have := h2 s hs
        simp at this ⊢
        omega
    · obtain ⟨h1, h2⟩ := lines_bound r (acc ++ [c])
      refine ⟨by simp; omega, fun s hs => ?_⟩
      have := h2 s hs
      simp at this ⊢
      omega

set_option maxRecDepth 100000 in
set_option maxHeartbeats 3000000 in
set_option linter.unusedSimpArgs false in
theorem refRead_any (s : ByteArray) (hs : s.size ≤ 131072) (w : World) (h9 : 9 ≤ w.heap.size) : Calls Tryz.prog 10 #[.string s] w (RefPost (refReadL s) w) := by
  have hbA := alloc_below w (.cells #[.slice none 0 0, .int .i64 0, .slice none 0 0, .int .i64 0, .int .i64 0] 25)
  have hA : Box5 (w.alloc (.cells #[.slice none 0 0, .int .i64 0, .slice none 0 0, .int .i64 0, .int .i64 0] 25)) w.heap.size := heap_alloc_new w _
  have LN := lines_any s (by omega) (w.alloc (.cells #[.slice none 0 0, .int .i64 0, .slice none 0 0, .int .i64 0, .int .i64 0] 25))
  have hlb := lines_bound s.data.toList []
  have HRD := hide (show refReadL s = match goL (linesOf s.data.toList).2 (linesOf s.data.toList).1 0 false st0 with | .error n => .error n | .ok st => tieL st.uses st from rfl)
  have hlb' : (linesOf s.data.toList).1.length ≤ 200000 ∧ ∀ x ∈ (linesOf s.data.toList).1, x.size ≤ 200000 := by
    obtain ⟨h1, h2⟩ := hlb
    rw [← Lib.size_eq] at h1
    refine ⟨?_, fun x hx => ?_⟩
    · show (linesFrom [] s.data.toList).1.length ≤ _
      omega
    · have := h2 x hx
      rw [← Lib.size_eq] at this
      simp at this
      omega
  clear hlb
  generalize linesOf s.data.toList = LL at LN HRD hlb'
  obtain ⟨ls, wh⟩ := LL
  simp only at hlb' HRD
  generalize refReadL s = RES at HRD ⊢
  have q1 : ¬ (131072 : Int) < (s.size : Int) := by omega
  go_enter Tryz.func10, Tryz.ntmps10
  go_wp2_with (go_at_call 7; go_must ((with_reducible refine LN.mono ?_); rintro e w1 ⟨v, rfl, ho, hb1⟩; refine Hid.out ?_))
  refine Lib.hid ?_
  clear LN
  have hA1 : Box5 w1 w.heap.size := (hb1.block _ (lt_row hA)).trans hA
  have hbw1 := hbA.trans (hb1.mono hbA.size)
  have hwl1 : w.heap.size < w1.heap.size := lt_row hA1
  obtain ⟨va, vc, rfl⟩ := own_any ho
  have HCL := hide (show ∀ j x, ls[j]? = some x → ∃ lg, va = some ⟨lg, 0, none⟩ ∧ lg < w1.heap.size ∧ w1.cell? ⟨lg, j, none⟩ = some (.string x) from fun j x hx => by
    rcases ho.2 with ⟨h, e⟩ | ⟨lg, cap, cur, h, _, hh, _⟩
    · have : ls = [] := List.eq_nil_of_length_eq_zero e
      rw [this] at hx; simp at hx
    · injection h with h1 _ _
      refine ⟨lg, h1, lt_row hh, ?_⟩
      have := ho.cells (g := lg) (by rw [h1]; rfl) j (.string x) (by rw [List.getElem?_map, hx]; rfl)
      rwa [add_none, Nat.zero_add] at this)
  have hbX := alloc_below w1 (.cells #[.slice none 0 0, .int .i64 0, .slice none 0 0, .int .i64 0, .int .i64 0, .slice none 0 0] 58)
  have hX : (w1.alloc (.cells #[.slice none 0 0, .int .i64 0, .slice none 0 0, .int .i64 0, .int .i64 0, .slice none 0 0] 58)).heap[w1.heap.size]? = some (.cells [.slice none 0 0, .int .i64 0, .slice none 0 0, .int .i64 0, .int .i64 0, .slice none 0 0].toArray 58 (0, 0)) := heap_alloc_new w1 _
  have hR0 : Rf w1.heap.size (w1.alloc (.cells #[.slice none 0 0, .int .i64 0, .slice none 0 0, .int .i64 0, .int .i64 0, .slice none 0 0] 58)) w1.heap.size (.slice none 0 0) (.slice none 0 0) (.slice none 0 0) [] st0 :=
    ⟨Nat.le_trans h9 hbw1.size, Nat.le_refl _, hX, rfl, World.ownsRow_nil _ _ _ _, (fun i hi => by simp at hi), List.Pairwise.nil, World.ownsRow_nil _ _ _ _, World.ownsRow_nil _ _ _ _⟩
  have hoL := own_keep ho hbX
  have HA2 := hide ((hbX.block _ (lt_row hA1)).trans hA1)
  have HBW := hide (hbw1.trans (hbX.mono hbw1.size))
  have HR0 := hide hR0
  have HOL := hide hoL
  obtain ⟨ll, hll⟩ : ∃ ll, ll = ls.length := ⟨_, rfl⟩
  have HLL := hide hll
  rw [← hll] at hlb' ⊢
  have hlM : ll ≤ 200000 := hlb'.1
  have HLS := hide hlb'.2
  have hsz1 : (w1.alloc (.cells #[.slice none 0 0, .int .i64 0, .slice none 0 0, .int .i64 0, .int .i64 0, .slice none 0 0] 58)).heap.size = w1.heap.size + 1 := by simp
  have HSZ1 := hide hsz1
  clear hX hR0 hoL hll hlb' hA hA1 hb1 ho hbA hsz1
  obtain ⟨b, hb⟩ : ∃ b, b = w1.heap.size := ⟨_, rfl⟩
  have HBB := hide hb
  go_wp2
  rw [← hb] at HR0 HSZ1 hbX ⊢
  generalize w1.alloc (.cells #[.slice none 0 0, .int .i64 0, .slice none 0 0, .int .i64 0, .int .i64 0, .slice none 0 0] 58) = w2 at HR0 HSZ1 HA2 HBW HOL hbX ⊢
  have HBX' := hide hbX
  have HWB := hide (show w.heap.size < b by rw [hb]; exact hwl1)
  have HCL2 := hide (show ∀ j x, ls[j]? = some x → ∃ lg, va = some ⟨lg, 0, none⟩ ∧ lg < b ∧ w2.cell? ⟨lg, j, none⟩ = some (.string x) from fun j x hx => by
    obtain ⟨lg, h1, h2, h3⟩ := HCL.out j x hx
    refine ⟨lg, h1, by rw [hb]; exact h2, ?_⟩
    have hbX' : Below w1.heap.size w1 w2 := by rw [← hb]; exact HBX'.out
    exact keep_cell h3 hbX')
  clear hwl1 HCL
  clear hb hbX hbw1
  go_loopw [8, 9] (fun en i wr => ∃ (k : Nat) (e : Bool) (st : St) (fv av uv : Value) (cs : List Value), k ≤ ll ∧ i = .int .i64 (k : Nat) ∧ en = .bool e ∧ Hid (Rf b wr b fv av uv cs st) ∧ Hid (Good k st) ∧ Hid (goL wh ls 0 false st0 = goL wh (ls.drop k) k e st) ∧ Hid (Below b w2 wr) ∧ Hid (b ≤ wr.heap.size)) (fun _ i _ => ll - (intOf i).toNat)
  case atStart => exact ⟨0, false, st0, _, _, _, _, Nat.zero_le _, rfl, rfl, HR0, good0, (by refine Lib.hid ?_; rfl), Below.refl _ _, (by refine Lib.hid ?_; have := HSZ1.out; omega)⟩
  case round =>
    obtain ⟨k, e, st, fv, av, uv, cs, hk, rfl, rfl, hRf, hgd, hgo, hbr, hszr⟩ := hrel
    have hA5 : Box5 wr w.heap.size := (hbr.out.block _ HWB.out).trans HA2.out
    obtain ⟨a0, a1, a2, a3, a4, b0, b1, b2, b3, b4⟩ := hA5.facts
    obtain ⟨hr5, hg5⟩ := hA5.set (.slice none 0 0) (.int .i64 0) (.slice none 0 0) (.int .i64 0) (.int .i64 0)
    have hwlt := lt_row hA5
    have HW5 := hide (show Below w.heap.size w (((((wr.setCell ⟨w.heap.size, 0, none⟩ (.slice none 0 0)).setCell ⟨w.heap.size, 1, none⟩ (.int .i64 0)).setCell ⟨w.heap.size, 2, none⟩ (.slice none 0 0)).setCell ⟨w.heap.size, 3, none⟩ (.int .i64 0)).setCell ⟨w.heap.size, 4, none⟩ (.int .i64 0)) from
      (((((HBW.out.trans (hbr.out.mono (Nat.le_of_lt HWB.out))).setCell (p := ⟨w.heap.size, 0, none⟩) (Nat.le_refl _) _).setCell (p := ⟨w.heap.size, 1, none⟩) (Nat.le_refl _) _).setCell (p := ⟨w.heap.size, 2, none⟩) (Nat.le_refl _) _).setCell (p := ⟨w.heap.size, 3, none⟩) (Nat.le_refl _) _).setCell (p := ⟨w.heap.size, 4, none⟩) (Nat.le_refl _) _)
    have hBe : Below w.heap.size w wr := HBW.out.trans (hbr.out.mono (Nat.le_of_lt HWB.out))
    by_cases hlt : k < ll
    · have hlt' : (k : Int) < (ll : Int) := by omega
      have hkl : k < ls.length := by have := HLL.out; omega
      have hx := List.getElem?_eq_getElem hkl
      have hdr : ls.drop k = ls[k] :: ls.drop (k + 1) := List.drop_eq_getElem_cons hkl
      have hxs := HLS.out ls[k] (List.getElem_mem _)
      generalize ls[k] = l at hx hdr hxs
      obtain ⟨lg, rfl, hlg, hlc⟩ := HCL2.out k l hx
      have cl : wr.cell? ⟨lg, k, none⟩ = some (.string l) := by
        rw [World.cell?_of_block (hbr.out.block lg hlg)]
        exact hlc
      have hcll := cell_some_lt cl
      have HGO := hide (show goL wh ls 0 false st0 = if e = true ∨ (wh = false ∧ ls.drop (k + 1) = []) then .error ((k : Int) + 1) else if 2 ≤ k ∧ (l.toList == [101, 110, 100]) = true then goL wh (ls.drop (k + 1)) (k + 1) true st else match lineL ((k : Int) + 1) l st with | none => .error ((k : Int) + 1) | some st' => goL wh (ls.drop (k + 1)) (k + 1) false st' by
        rw [hgo.out, hdr, goL]
        rfl)
      have hdk : (ls.drop (k + 1) = []) ↔ k + 1 = ll := by
        rw [List.drop_eq_nil_iff]
        have := HLL.out
        omega
      clear hgo hdr hx hlc
      by_cases hbad : e = true ∨ (wh = false ∧ ls.drop (k + 1) = [])
      · have HE := hide (show RES = .error ((k : Int) + 1) by rw [HRD.out, HGO.out, if_pos hbad])
        clear HGO
        cases e with
        | true =>
          cases wh with
          | true =>
            go_wp2
            generalize (((((wr.setCell ⟨w.heap.size, 0, none⟩ (.slice none 0 0)).setCell ⟨w.heap.size, 1, none⟩ (.int .i64 0)).setCell ⟨w.heap.size, 2, none⟩ (.slice none 0 0)).setCell ⟨w.heap.size, 3, none⟩ (.int .i64 0)).setCell ⟨w.heap.size, 4, none⟩ (.int .i64 0)) = w5 at hr5 HW5 ⊢
            have d0 := cell_row (i := 0) hr5 rfl
            have d1 := cell_row (i := 1) hr5 rfl
            have d2 := cell_row (i := 2) hr5 rfl
            have d3 := cell_row (i := 3) hr5 rfl
            have d4 := cell_row (i := 4) hr5 rfl
            exact bodyPost_ret (v := .tuple #[.agg #[.slice none 0 0, .int .i64 0, .slice none 0 0, .int .i64 0, .int .i64 0], .int .i64 ((k : Int) + 1), .int .i64 2]) (by simp [results, Tryz.results10, go_sem, d0, d1, d2, d3, d4]) rfl ⟨HW5.out, by rw [HE.out]; rfl⟩
          | false =>
            by_cases hlast : k + 1 = ll
            · have q : ((k : Int) == (ll : Int) - 1) = true := by simp; omega
              clear hbad hdk
              go_wp2
              generalize (((((wr.setCell ⟨w.heap.size, 0, none⟩ (.slice none 0 0)).setCell ⟨w.heap.size, 1, none⟩ (.int .i64 0)).setCell ⟨w.heap.size, 2, none⟩ (.slice none 0 0)).setCell ⟨w.heap.size, 3, none⟩ (.int .i64 0)).setCell ⟨w.heap.size, 4, none⟩ (.int .i64 0)) = w5 at hr5 HW5 ⊢
              have d0 := cell_row (i := 0) hr5 rfl
              have d1 := cell_row (i := 1) hr5 rfl
              have d2 := cell_row (i := 2) hr5 rfl
              have d3 := cell_row (i := 3) hr5 rfl
              have d4 := cell_row (i := 4) hr5 rfl
              exact bodyPost_ret (v := .tuple #[.agg #[.slice none 0 0, .int .i64 0, .slice none 0 0, .int .i64 0, .int .i64 0], .int .i64 ((k : Int) + 1), .int .i64 2]) (by simp [results, Tryz.results10, go_sem, d0, d1, d2, d3, d4]) rfl ⟨HW5.out, by rw [HE.out]; rfl⟩
            · have q : ((k : Int) == (ll : Int) - 1) = false := by simp; omega
              clear hbad hdk
              go_wp2
              generalize (((((wr.setCell ⟨w.heap.size, 0, none⟩ (.slice none 0 0)).setCell ⟨w.heap.size, 1, none⟩ (.int .i64 0)).setCell ⟨w.heap.size, 2, none⟩ (.slice none 0 0)).setCell ⟨w.heap.size, 3, none⟩ (.int .i64 0)).setCell ⟨w.heap.size, 4, none⟩ (.int .i64 0)) = w5 at hr5 HW5 ⊢
              have d0 := cell_row (i := 0) hr5 rfl
              have d1 := cell_row (i := 1) hr5 rfl
              have d2 := cell_row (i := 2) hr5 rfl
              have d3 := cell_row (i := 3) hr5 rfl
              have d4 := cell_row (i := 4) hr5 rfl
              exact bodyPost_ret (v := .tuple #[.agg #[.slice none 0 0, .int .i64 0, .slice none 0 0, .int .i64 0, .int .i64 0], .int .i64 ((k : Int) + 1), .int .i64 2]) (by simp [results, Tryz.results10, go_sem, d0, d1, d2, d3, d4]) rfl ⟨HW5.out, by rw [HE.out]; rfl⟩
        | false =>
          have hb2 : wh = false ∧ k + 1 = ll := by
            rcases hbad with h | ⟨h1, h2⟩
            · cases h
            · exact ⟨h1, hdk.1 h2⟩
          obtain ⟨rfl, hlast⟩ := hb2
          have q : ((k : Int) == (ll : Int) - 1) = true := by simp; omega
          clear hbad hdk hlast
          go_wp2
          generalize (((((wr.setCell ⟨w.heap.size, 0, none⟩ (.slice none 0 0)).setCell ⟨w.heap.size, 1, none⟩ (.int .i64 0)).setCell ⟨w.heap.size, 2, none⟩ (.slice none 0 0)).setCell ⟨w.heap.size, 3, none⟩ (.int .i64 0)).setCell ⟨w.heap.size, 4, none⟩ (.int .i64 0)) = w5 at hr5 HW5 ⊢
          have d0 := cell_row (i := 0) hr5 rfl
          have d1 := cell_row (i := 1) hr5 rfl
          have d2 := cell_row (i := 2) hr5 rfl
          have d3 := cell_row (i := 3) hr5 rfl
          have d4 := cell_row (i := 4) hr5 rfl
          exact bodyPost_ret (v := .tuple #[.agg #[.slice none 0 0, .int .i64 0, .slice none 0 0, .int .i64 0, .int .i64 0], .int .i64 ((k : Int) + 1), .int .i64 2]) (by simp [results, Tryz.results10, go_sem, d0, d1, d2, d3, d4]) rfl ⟨HW5.out, by rw [HE.out]; rfl⟩
      · have HNB := hide hbad
        have he : e = false := by
          cases e with
          | false => rfl
          | true => exact absurd (.inl rfl) hbad
        subst he
        cases wh with
        | true =>
          clear hbad hdk
          by_cases hend : 2 ≤ k ∧ (l.toList == [101, 110, 100]) = true
          · have HG2 := hide (show goL true ls 0 false st0 = goL true (ls.drop (k + 1)) (k + 1) true st by rw [HGO.out, if_neg HNB.out, if_pos hend])
            have hk2 : (2 : Int) ≤ (k : Int) := by omega
            have hle := hend.2
            have HGD := hide (show Good (k + 1) st from ⟨hgd.out.funcs, by have := hgd.out.uses; omega, hgd.out.code, fun h => by omega, hgd.out.ok⟩)
            have hk1 : k + 1 ≤ ll := hlt
            skip
            clear HGO hend a0 a1 a2 a3 a4 b0 b1 b2 b3 b4 hr5 hg5 HW5 hA5
            go_wp2
            go_roundw
            case rel => exact ⟨k + 1, true, st, fv, av, uv, cs, hk1, by go_num, rfl, hRf, HGD, HG2, hbr, hszr⟩
            case measure => simp [intOf]; omega
          · have LI := line_all b b fv av uv cs st k (by omega) hgd.out l (by omega) wr hszr.out hRf.out
            have HGO2 := hide (show goL true ls 0 false st0 = match lineL ((k : Int) + 1) l st with | none => .error ((k : Int) + 1) | some st' => goL true (ls.drop (k + 1)) (k + 1) false st' by
              rw [HGO.out, if_neg HNB.out, if_neg hend])
            have HENDS := hide (show (k < 2) ∨ (2 ≤ k ∧ (l.toList == [101, 110, 100]) = false) by
              by_cases h : 2 ≤ k
              · right
                refine ⟨h, ?_⟩
                cases hq : (l.toList == [101, 110, 100]) with
                | false => rfl
                | true => exact absurd ⟨h, hq⟩ hend
              · left; omega)
            have hk1 : k + 1 ≤ ll := hlt
            skip
            clear HGO hend a0 a1 a2 a3 a4 b0 b1 b2 b3 b4 hr5 hg5 HW5
            rcases HENDS.out with hend | ⟨hend, hle⟩
            · have hk2 : ¬ (2 : Int) ≤ (k : Int) := by omega
              clear hend HENDS
              go_wp2_with (go_at_call 23; go_must ((with_reducible refine LI.mono ?_); rintro e9 w3 ⟨ok, rfl, hb3, hpost⟩; refine Hid.out ?_))
              refine Lib.hid ?_
              rcases hpost with ⟨rfl, st', fv', av', uv', cs', h1, h2⟩ | ⟨rfl, h1⟩
              · have HG3 := hide (show goL true ls 0 false st0 = goL true (ls.drop (k + 1)) (k + 1) false st' by rw [HGO2.out, h1])
                have HGD := hide (hgd.out.line h1)
                have HB3 := hide (hbr.out.trans hb3)
                have HS3 := hide (Nat.le_trans hszr.out hb3.size)
                have HR3 := hide h2
                clear h1 h2 hb3 LI hRf hgd hA5
                go_wp2
                go_roundw
                case rel => exact ⟨k + 1, false, st', fv', av', uv', cs', hk1, by go_num, rfl, HR3, HGD, HG3, HB3, HS3⟩
                case measure => simp [intOf]; omega
              · have HE := hide (show RES = .error ((k : Int) + 1) by rw [HRD.out, HGO2.out, h1])
                have hA6 : Box5 w3 w.heap.size := (hb3.block _ HWB.out).trans hA5
                obtain ⟨a0, a1, a2, a3, a4, b0, b1, b2, b3, b4⟩ := hA6.facts
                obtain ⟨hr6, hg6⟩ := hA6.set (.slice none 0 0) (.int .i64 0) (.slice none 0 0) (.int .i64 0) (.int .i64 0)
                have hwlt3 := lt_row hA6
                have HW6 := hide (show Below w.heap.size w (((((w3.setCell ⟨w.heap.size, 0, none⟩ (.slice none 0 0)).setCell ⟨w.heap.size, 1, none⟩ (.int .i64 0)).setCell ⟨w.heap.size, 2, none⟩ (.slice none 0 0)).setCell ⟨w.heap.size, 3, none⟩ (.int .i64 0)).setCell ⟨w.heap.size, 4, none⟩ (.int .i64 0)) from
                  (((((hBe.trans (hb3.mono (Nat.le_trans (Nat.le_of_lt HWB.out) hszr.out |> fun _ => Nat.le_of_lt HWB.out))).setCell (p := ⟨w.heap.size, 0, none⟩) (Nat.le_refl _) _).setCell (p := ⟨w.heap.size, 1, none⟩) (Nat.le_refl _) _).setCell (p := ⟨w.heap.size, 2, none⟩) (Nat.le_refl _) _).setCell (p := ⟨w.heap.size, 3, none⟩) (Nat.le_refl _) _).setCell (p := ⟨w.heap.size, 4, none⟩) (Nat.le_refl _) _)
                clear h1 hb3 LI hRf hgd hA5 hA6
                go_wp2
                generalize (((((w3.setCell ⟨w.heap.size, 0, none⟩ (.slice none 0 0)).setCell ⟨w.heap.size, 1, none⟩ (.int .i64 0)).setCell ⟨w.heap.size, 2, none⟩ (.slice none 0 0)).setCell ⟨w.heap.size, 3, none⟩ (.int .i64 0)).setCell ⟨w.heap.size, 4, none⟩ (.int .i64 0)) = w5 at hr6 HW6 ⊢
                have d0 := cell_row (i := 0) hr6 rfl
                have d1 := cell_row (i := 1) hr6 rfl
                have d2 := cell_row (i := 2) hr6 rfl
                have d3 := cell_row (i := 3) hr6 rfl
                have d4 := cell_row (i := 4) hr6 rfl
                exact bodyPost_ret (v := .tuple #[.agg #[.slice none 0 0, .int .i64 0, .slice none 0 0, .int .i64 0, .int .i64 0], .int .i64 ((k : Int) + 1), .int .i64 2]) (by simp [results, Tryz.results10, go_sem, d0, d1, d2, d3, d4]) rfl ⟨HW6.out, by rw [HE.out]; rfl⟩
            · have hk2 : (2 : Int) ≤ (k : Int) := by omega
              clear hend HENDS
              go_wp2_with (go_at_call 23; go_must ((with_reducible refine LI.mono ?_); rintro e9 w3 ⟨ok, rfl, hb3, hpost⟩; refine Hid.out ?_))
              refine Lib.hid ?_
              rcases hpost with ⟨rfl, st', fv', av', uv', cs', h1, h2⟩ | ⟨rfl, h1⟩
              · have HG3 := hide (show goL true ls 0 false st0 = goL true (ls.drop (k + 1)) (k + 1) false st' by rw [HGO2.out, h1])
                have HGD := hide (hgd.out.line h1)
                have HB3 := hide (hbr.out.trans hb3)
                have HS3 := hide (Nat.le_trans hszr.out hb3.size)
                have HR3 := hide h2
                clear h1 h2 hb3 LI hRf hgd hA5
                go_wp2
                go_roundw
                case rel => exact ⟨k + 1, false, st', fv', av', uv', cs', hk1, by go_num, rfl, HR3, HGD, HG3, HB3, HS3⟩
                case measure => simp [intOf]; omega
              · have HE := hide (show RES = .error ((k : Int) + 1) by rw [HRD.out, HGO2.out, h1])
                have hA6 : Box5 w3 w.heap.size := (hb3.block _ HWB.out).trans hA5
                obtain ⟨a0, a1, a2, a3, a4, b0, b1, b2, b3, b4⟩ := hA6.facts
                obtain ⟨hr6, hg6⟩ := hA6.set (.slice none 0 0) (.int .i64 0) (.slice none 0 0) (.int .i64 0) (.int .i64 0)
                have hwlt3 := lt_row hA6
                have HW6 := hide (show Below w.heap.size w (((((w3.setCell ⟨w.heap.size, 0, none⟩ (.slice none 0 0)).setCell ⟨w.heap.size, 1, none⟩ (.int .i64 0)).setCell ⟨w.heap.size, 2, none⟩ (.slice none 0 0)).setCell ⟨w.heap.size, 3, none⟩ (.int .i64 0)).setCell ⟨w.heap.size, 4, none⟩ (.int .i64 0)) from
                  (((((hBe.trans (hb3.mono (Nat.le_trans (Nat.le_of_lt HWB.out) hszr.out |> fun _ => Nat.le_of_lt HWB.out))).setCell (p := ⟨w.heap.size, 0, none⟩) (Nat.le_refl _) _).setCell (p := ⟨w.heap.size, 1, none⟩) (Nat.le_refl _) _).setCell (p := ⟨w.heap.size, 2, none⟩) (Nat.le_refl _) _).setCell (p := ⟨w.heap.size, 3, none⟩) (Nat.le_refl _) _).setCell (p := ⟨w.heap.size, 4, none⟩) (Nat.le_refl _) _)
                clear h1 hb3 LI hRf hgd hA5 hA6
                go_wp2
                generalize (((((w3.setCell ⟨w.heap.size, 0, none⟩ (.slice none 0 0)).setCell ⟨w.heap.size, 1, none⟩ (.int .i64 0)).setCell ⟨w.heap.size, 2, none⟩ (.slice none 0 0)).setCell ⟨w.heap.size, 3, none⟩ (.int .i64 0)).setCell ⟨w.heap.size, 4, none⟩ (.int .i64 0)) = w5 at hr6 HW6 ⊢
                have d0 := cell_row (i := 0) hr6 rfl
                have d1 := cell_row (i := 1) hr6 rfl
                have d2 := cell_row (i := 2) hr6 rfl
                have d3 := cell_row (i := 3) hr6 rfl
                have d4 := cell_row (i := 4) hr6 rfl
                exact bodyPost_ret (v := .tuple #[.agg #[.slice none 0 0, .int .i64 0, .slice none 0 0, .int .i64 0, .int .i64 0], .int .i64 ((k : Int) + 1), .int .i64 2]) (by simp [results, Tryz.results10, go_sem, d0, d1, d2, d3, d4]) rfl ⟨HW6.out, by rw [HE.out]; rfl⟩
        | false =>
          have hnl : k + 1 ≠ ll := fun h => hbad (.inr ⟨rfl, hdk.2 h⟩)
          clear hbad hdk
          by_cases hend : 2 ≤ k ∧ (l.toList == [101, 110, 100]) = true
          · have HG2 := hide (show goL false ls 0 false st0 = goL false (ls.drop (k + 1)) (k + 1) true st by rw [HGO.out, if_neg HNB.out, if_pos hend])
            have hk2 : (2 : Int) ≤ (k : Int) := by omega
            have hle := hend.2
            have HGD := hide (show Good (k + 1) st from ⟨hgd.out.funcs, by have := hgd.out.uses; omega, hgd.out.code, fun h => by omega, hgd.out.ok⟩)
            have hk1 : k + 1 ≤ ll := hlt
            have q : ((k : Int) == (ll : Int) - 1) = false := by simp; omega
            clear HGO hend a0 a1 a2 a3 a4 b0 b1 b2 b3 b4 hr5 hg5 HW5 hA5
            go_wp2
            go_roundw
            case rel => exact ⟨k + 1, true, st, fv, av, uv, cs, hk1, by go_num, rfl, hRf, HGD, HG2, hbr, hszr⟩
            case measure => simp [intOf]; omega
          · have LI := line_all b b fv av uv cs st k (by omega) hgd.out l (by omega) wr hszr.out hRf.out
            have HGO2 := hide (show goL false ls 0 false st0 = match lineL ((k : Int) + 1) l st with | none => .error ((k : Int) + 1) | some st' => goL false (ls.drop (k + 1)) (k + 1) false st' by
              rw [HGO.out, if_neg HNB.out, if_neg hend])
            have HENDS := hide (show (k < 2) ∨ (2 ≤ k ∧ (l.toList == [101, 110, 100]) = false) by
              by_cases h : 2 ≤ k
              · right
                refine ⟨h, ?_⟩
                cases hq : (l.toList == [101, 110, 100]) with
                | false => rfl
                | true => exact absurd ⟨h, hq⟩ hend
              · left; omega)
            have hk1 : k + 1 ≤ ll := hlt
            have q : ((k : Int) == (ll : Int) - 1) = false := by simp; omega
            clear HGO hend a0 a1 a2 a3 a4 b0 b1 b2 b3 b4 hr5 hg5 HW5
            rcases HENDS.out with hend | ⟨hend, hle⟩
            · have hk2 : ¬ (2 : Int) ≤ (k : Int) := by omega
              clear hend HENDS
              go_wp2_with (go_at_call 23; go_must ((with_reducible refine LI.mono ?_); rintro e9 w3 ⟨ok, rfl, hb3, hpost⟩; refine Hid.out ?_))
              refine Lib.hid ?_
              rcases hpost with ⟨rfl, st', fv', av', uv', cs', h1, h2⟩ | ⟨rfl, h1⟩
              · have HG3 := hide (show goL false ls 0 false st0 = goL false (ls.drop (k + 1)) (k + 1) false st' by rw [HGO2.out, h1])
                have HGD := hide (hgd.out.line h1)
                have HB3 := hide (hbr.out.trans hb3)
                have HS3 := hide (Nat.le_trans hszr.out hb3.size)
                have HR3 := hide h2
                clear h1 h2 hb3 LI hRf hgd hA5
                go_wp2
                go_roundw
                case rel => exact ⟨k + 1, false, st', fv', av', uv', cs', hk1, by go_num, rfl, HR3, HGD, HG3, HB3, HS3⟩
                case measure => simp [intOf]; omega
              · have HE := hide (show RES = .error ((k : Int) + 1) by rw [HRD.out, HGO2.out, h1])
                have hA6 : Box5 w3 w.heap.size := (hb3.block _ HWB.out).trans hA5
                obtain ⟨a0, a1, a2, a3, a4, b0, b1, b2, b3, b4⟩ := hA6.facts
                obtain ⟨hr6, hg6⟩ := hA6.set (.slice none 0 0) (.int .i64 0) (.slice none 0 0) (.int .i64 0) (.int .i64 0)
                have hwlt3 := lt_row hA6
                have HW6 := hide (show Below w.heap.size w (((((w3.setCell ⟨w.heap.size, 0, none⟩ (.slice none 0 0)).setCell ⟨w.heap.size, 1, none⟩ (.int .i64 0)).setCell ⟨w.heap.size, 2, none⟩ (.slice none 0 0)).setCell ⟨w.heap.size, 3, none⟩ (.int .i64 0)).setCell ⟨w.heap.size, 4, none⟩ (.int .i64 0)) from
                  (((((hBe.trans (hb3.mono (Nat.le_trans (Nat.le_of_lt HWB.out) hszr.out |> fun _ => Nat.le_of_lt HWB.out))).setCell (p := ⟨w.heap.size, 0, none⟩) (Nat.le_refl _) _).setCell (p := ⟨w.heap.size, 1, none⟩) (Nat.le_refl _) _).setCell (p := ⟨w.heap.size, 2, none⟩) (Nat.le_refl _) _).setCell (p := ⟨w.heap.size, 3, none⟩) (Nat.le_refl _) _).setCell (p := ⟨w.heap.size, 4, none⟩) (Nat.le_refl _) _)
                clear h1 hb3 LI hRf hgd hA5 hA6
                go_wp2
                generalize (((((w3.setCell ⟨w.heap.size, 0, none⟩ (.slice none 0 0)).setCell ⟨w.heap.size, 1, none⟩ (.int .i64 0)).setCell ⟨w.heap.size, 2, none⟩ (.slice none 0 0)).setCell ⟨w.heap.size, 3, none⟩ (.int .i64 0)).setCell ⟨w.heap.size, 4, none⟩ (.int .i64 0)) = w5 at hr6 HW6 ⊢
                have d0 := cell_row (i := 0) hr6 rfl
                have d1 := cell_row (i := 1) hr6 rfl
                have d2 := cell_row (i := 2) hr6 rfl
                have d3 := cell_row (i := 3) hr6 rfl
                have d4 := cell_row (i := 4) hr6 rfl
                exact bodyPost_ret (v := .tuple #[.agg #[.slice none 0 0, .int .i64 0, .slice none 0 0, .int .i64 0, .int .i64 0], .int .i64 ((k : Int) + 1), .int .i64 2]) (by simp [results, Tryz.results10, go_sem, d0, d1, d2, d3, d4]) rfl ⟨HW6.out, by rw [HE.out]; rfl⟩
            · have hk2 : (2 : Int) ≤ (k : Int) := by omega
              clear hend HENDS
              go_wp2_with (go_at_call 23; go_must ((with_reducible refine LI.mono ?_); rintro e9 w3 ⟨ok, rfl, hb3, hpost⟩; refine Hid.out ?_))
              refine Lib.hid ?_
              rcases hpost with ⟨rfl, st', fv', av', uv', cs', h1, h2⟩ | ⟨rfl, h1⟩
              · have HG3 := hide (show goL false ls 0 false st0 = goL false (ls.drop (k + 1)) (k + 1) false st' by rw [HGO2.out, h1])
                have HGD := hide (hgd.out.line h1)
                have HB3 := hide (hbr.out.trans hb3)
                have HS3 := hide (Nat.le_trans hszr.out hb3.size)
                have HR3 := hide h2
                clear h1 h2 hb3 LI hRf hgd hA5
                go_wp2
                go_roundw
                case rel => exact ⟨k + 1, false, st', fv', av', uv', cs', hk1, by go_num, rfl, HR3, HGD, HG3, HB3, HS3⟩
                case measure => simp [intOf]; omega
              · have HE := hide (show RES = .error ((k : Int) + 1) by rw [HRD.out, HGO2.out, h1])
                have hA6 : Box5 w3 w.heap.size := (hb3.block _ HWB.out).trans hA5
                obtain ⟨a0, a1, a2, a3, a4, b0, b1, b2, b3, b4⟩ := hA6.facts
                obtain ⟨hr6, hg6⟩ := hA6.set (.slice none 0 0) (.int .i64 0) (.slice none 0 0) (.int .i64 0) (.int .i64 0)
                have hwlt3 := lt_row hA6
                have HW6 := hide (show Below w.heap.size w (((((w3.setCell ⟨w.heap.size, 0, none⟩ (.slice none 0 0)).setCell ⟨w.heap.size, 1, none⟩ (.int .i64 0)).setCell ⟨w.heap.size, 2, none⟩ (.slice none 0 0)).setCell ⟨w.heap.size, 3, none⟩ (.int .i64 0)).setCell ⟨w.heap.size, 4, none⟩ (.int .i64 0)) from
                  (((((hBe.trans (hb3.mono (Nat.le_trans (Nat.le_of_lt HWB.out) hszr.out |> fun _ => Nat.le_of_lt HWB.out))).setCell (p := ⟨w.heap.size, 0, none⟩) (Nat.le_refl _) _).setCell (p := ⟨w.heap.size, 1, none⟩) (Nat.le_refl _) _).setCell (p := ⟨w.heap.size, 2, none⟩) (Nat.le_refl _) _).setCell (p := ⟨w.heap.size, 3, none⟩) (Nat.le_refl _) _).setCell (p := ⟨w.heap.size, 4, none⟩) (Nat.le_refl _) _)
                clear h1 hb3 LI hRf hgd hA5 hA6
                go_wp2
                generalize (((((w3.setCell ⟨w.heap.size, 0, none⟩ (.slice none 0 0)).setCell ⟨w.heap.size, 1, none⟩ (.int .i64 0)).setCell ⟨w.heap.size, 2, none⟩ (.slice none 0 0)).setCell ⟨w.heap.size, 3, none⟩ (.int .i64 0)).setCell ⟨w.heap.size, 4, none⟩ (.int .i64 0)) = w5 at hr6 HW6 ⊢
                have d0 := cell_row (i := 0) hr6 rfl
                have d1 := cell_row (i := 1) hr6 rfl
                have d2 := cell_row (i := 2) hr6 rfl
                have d3 := cell_row (i := 3) hr6 rfl
                have d4 := cell_row (i := 4) hr6 rfl
                exact bodyPost_ret (v := .tuple #[.agg #[.slice none 0 0, .int .i64 0, .slice none 0 0, .int .i64 0, .int .i64 0], .int .i64 ((k : Int) + 1), .int .i64 2]) (by simp [results, Tryz.results10, go_sem, d0, d1, d2, d3, d4]) rfl ⟨HW6.out, by rw [HE.out]; rfl⟩
    · have hkl : k = ll := by omega
      have hlt' : ¬ (k : Int) < (ll : Int) := by omega
      have hdr : ls.drop k = [] := List.drop_eq_nil_of_le (by have := HLL.out; omega)
      cases e with
      | false =>
        have HE := hide (show RES = .error ((ll : Int) + 1) by
          rw [HRD.out, hgo.out, hdr, hkl]
          rfl)
        clear hgo hdr
        go_wp2
        generalize (((((wr.setCell ⟨w.heap.size, 0, none⟩ (.slice none 0 0)).setCell ⟨w.heap.size, 1, none⟩ (.int .i64 0)).setCell ⟨w.heap.size, 2, none⟩ (.slice none 0 0)).setCell ⟨w.heap.size, 3, none⟩ (.int .i64 0)).setCell ⟨w.heap.size, 4, none⟩ (.int .i64 0)) = w5 at hr5 HW5 ⊢
        have d0 := cell_row (i := 0) hr5 rfl
        have d1 := cell_row (i := 1) hr5 rfl
        have d2 := cell_row (i := 2) hr5 rfl
        have d3 := cell_row (i := 3) hr5 rfl
        have d4 := cell_row (i := 4) hr5 rfl
        exact bodyPost_ret (v := .tuple #[.agg #[.slice none 0 0, .int .i64 0, .slice none 0 0, .int .i64 0, .int .i64 0], .int .i64 ((ll : Int) + 1), .int .i64 2]) (by simp [results, Tryz.results10, go_sem, d0, d1, d2, d3, d4]) rfl ⟨HW5.out, by rw [HE.out]; rfl⟩
      | true =>
        have HT0 := hide (show RES = tieL st.uses st by
          rw [HRD.out, hgo.out, hdr]
          rfl)
        clear hgo hdr hkl hlt
        clear a0 a1 a2 a3 a4 b0 b1 b2 b3 b4 hr5 hg5 HW5 hwlt
        obtain ⟨ua, uc, rfl⟩ := own_any hRf.out.uses
        obtain ⟨m, hm⟩ : ∃ m, m = st.uses.length := ⟨_, rfl⟩
        have HM := hide hm
        have hmB : m ≤ 200000 := by rw [hm]; have := hgd.out.uses; omega
        have y5 := hRf.out.cells.2.2.2.2.2
        rw [← hm] at y5
        have hbl := cell_some_lt y5
        have hR0 := hRf.out
        have hcb0 : ∀ f ∈ st.funcs, f.code.length ≤ 1000000 := fun f hf => by have := hgd.out.code f hf; omega
        have hok0 := hgd.out.ok
        have hfl0 := hgd.out.funcs
        have HRR := hide hR0
        clear hm hR0 hRf hA5 hBe
        obtain ⟨wt, hwt⟩ : ∃ wt, wt = wr := ⟨_, rfl⟩
        subst hwt
        go_wp2
        clear y5 hbl
        go_loopw [12] (fun i wr => ∃ q : Nat, q ≤ m ∧ i = .int .i64 (q : Nat) ∧ Hid (∃ st', Rf b wr b fv av (.slice ua st.uses.length uc) cs st' ∧ st'.uses = st.uses ∧ st'.funcs.length = st.funcs.length ∧ (∀ f ∈ st'.funcs, f.code.length ≤ 1000000) ∧ (∀ u ∈ st.uses, UseOk st'.funcs u) ∧ tieL st.uses st = tieL (st.uses.drop q) st') ∧ Hid (Below b w2 wr) ∧ Hid (b ≤ wr.heap.size)) (fun i _ => m - (intOf i).toNat)
        case atStart => exact ⟨0, Nat.zero_le _, rfl, (by refine Lib.hid ?_; exact ⟨st, HRR.out, rfl, rfl, hcb0, hok0, by simp⟩), hbr, hszr⟩
        case round =>
          clear HRR hcb0 hok0 hbr hszr
          obtain ⟨q, hq, rfl, hx, hbr, hszr⟩ := hrel
          obtain ⟨st', hR', hu', hfl', hcb', hok', htl⟩ := hx.out
          have hA5 : Box5 wr w.heap.size := (hbr.out.block _ HWB.out).trans HA2.out
          have hBe : Below w.heap.size w wr := HBW.out.trans (hbr.out.mono (Nat.le_of_lt HWB.out))
          obtain ⟨y0, y1, y2, y3, y4, y5⟩ := hR'.cells
          rw [← HM.out] at y5
          have hbl := cell_some_lt y5
          by_cases hlt : q < m
          · have hlt' : (q : Int) < (m : Int) := by omega
            have hkl : q < st.uses.length := by rw [← HM.out]; exact hlt
            obtain ⟨u, hu⟩ : ∃ u, st.uses[q]? = some u := ⟨st.uses[q], List.getElem?_eq_getElem hkl⟩
            have hum : u ∈ st.uses := List.mem_of_getElem? hu
            have hdrop : st.uses.drop q = u :: st.uses.drop (q + 1) := by
              rw [List.drop_eq_getElem_cons hkl]
              rw [List.getElem?_eq_getElem hkl] at hu
              rw [Option.some.inj hu]
            rw [hdrop] at htl
            have huk := hok' u hum
            obtain ⟨ug, rfl⟩ : ∃ ug, ua = some ⟨ug, 0, none⟩ := by
              rcases hR'.uses.2 with ⟨h, e⟩ | ⟨g', cap, cur, h, _⟩
              · rw [hu'] at e; omega
              · injection h with h1 _ _; exact ⟨g', h1⟩
            have xc : ∀ i v, i < 4 → (Use.late u)[i]? = some v → wr.cell? ⟨ug, q * 4 + i, none⟩ = some v := fun i v hi hv => by
              have h1 := hR'.uses.cells (g := ug) rfl (q * 4 + i) v (by rw [hu', lateV_at hu i hi]; exact hv)
              rwa [add_none, Nat.zero_add] at h1
            have x0 := xc 0 _ (by omega) rfl
            have x1 := xc 1 _ (by omega) rfl
            have x2 := xc 2 _ (by omega) rfl
            have x3 := xc 3 _ (by omega) rfl
            simp only [Nat.add_zero] at x0
            have hugl := cell_some_lt x0
            clear xc hx hdrop
            obtain ⟨nm, ln, ui, uk⟩ := u
            have hbA := alloc_below wr (.cells #[.int .i64 ln, .int .i64 ui, .int .i64 uk, .string nm] 61)
            have hhA : (wr.alloc (.cells #[.int .i64 ln, .int .i64 ui, .int .i64 uk, .string nm] 61)).heap[wr.heap.size]? = some (.cells [.int .i64 ln, .int .i64 ui, .int .i64 uk, .string nm].toArray 61 (0, 0)) := heap_alloc_new wr _
            have HT := hide (show tieL st.uses st = if findF nm st'.funcs < 0 then .error ln else if ui < 0 then tieL (st.uses.drop (q + 1)) { st' with main := findF nm st'.funcs } else tieL (st.uses.drop (q + 1)) (st'.setN ui.toNat uk.toNat (findF nm st'.funcs)) from htl)
            have HRa := hide (hR'.keep hbA)
            have HA5 := hide ((hbA.block _ (lt_row hA5)).trans hA5)
            have HBa := hide (hbr.out.trans (hbA.mono hszr.out))
            have HSa := hide (Nat.le_trans hszr.out hbA.size)
            obtain ⟨xb, hxb⟩ : ∃ xb, xb = wr.heap.size := ⟨_, rfl⟩
            have hxbb : b ≤ xb := by rw [hxb]; exact hszr.out
            obtain ⟨fl, hfl⟩ : ∃ fl, fl = st'.funcs.length := ⟨_, rfl⟩
            have HFL := hide hfl
            clear htl hA5 hR' y0 y1 y2 y3 y4 hBe
            go_upto_region 23 with fail
            rw [← hxb] at hhA ⊢
            generalize wr.alloc (.cells #[.int .i64 ln, .int .i64 ui, .int .i64 uk, .string nm] 61) = wa at hbA hhA HRa HA5 HBa HSa ⊢
            clear x0 x1 x2 x3 hugl y5 hbl hbr hszr hbA hxb hfl
            obtain ⟨fa, fc, rfl, hfr⟩ := HRa.out.freads
            have z0 := HRa.out.cells.1
            rw [← HFL.out] at z0
            have HZ0 := hide z0
            have HX := hide hhA
            have HFR := hide hfr
            have hflM : fl ≤ 32 := by rw [HFL.out, hfl']; exact hfl0
            clear z0 hhA hfr
            go_wp2
            go_loopw [14] (fun i wr => ∃ kk : Nat, kk ≤ fl ∧ i = .int .i64 (kk : Nat) ∧ Hid (Below wa.heap.size wa wr) ∧ Hid (∀ q g, q < kk → st'.funcs[q]? = some g → (g.name.toList == nm.toList) = false)) (fun i _ => fl - (intOf i).toNat)
            case atStart => exact ⟨0, Nat.zero_le _, rfl, Below.refl _ _, fun q g hq => absurd hq (Nat.not_lt_zero _)⟩
            case round =>
              obtain ⟨kk, hkk, rfl, hbq, hdif⟩ := hrel
              have z0 := keep_cell HZ0.out hbq.out
              have hxq := (hbq.out.block _ (lt_row HX.out)).trans HX.out
              have n0 := cell_row (i := 0) hxq rfl
              have n1 := cell_row (i := 1) hxq rfl
              have n2 := cell_row (i := 2) hxq rfl
              have n3 := cell_row (i := 3) hxq rfl
              have hzl := cell_some_lt z0
              have hnl := lt_row hxq
              by_cases hlq : kk < fl
              · have hkf : kk < st'.funcs.length := by have := HFL.out; omega
                have hkl2 : kk < (frs st'.funcs cs).length := by simp [frs, HRa.out.len]; exact hkf
                have hrow := frs_row HRa.out.len hkf
                obtain ⟨fb, fo, rfl, hfbl, hcl⟩ : ∃ fb fo, fa = some ⟨fb, fo, none⟩ ∧ fb < wa.heap.size ∧ ∀ j, j < (frs st'.funcs cs).length → ∀ i v, (FR.enc (frs st'.funcs cs)[j]!)[i]? = some v → wa.cell? ⟨fb, fo + j * 4 + i, none⟩ = some v := by
                  rcases HFR.out with ⟨_, h⟩ | h
                  · rw [h] at hkl2; simp at hkl2
                  · exact h
                have v0 := keep_cell (hcl kk hkl2 0 _ (by rw [hrow]; rfl)) hbq.out
                simp only [Nat.add_zero, Fun.row] at v0
                have hgx := List.getElem?_eq_getElem hkf
                generalize st'.funcs[kk] = fq at v0 hgx
                have hvl := cell_some_lt v0
                have hlq' : (kk : Int) < (fl : Int) := by omega
                have HQ := hide hbq.out
                have HV0 := hide v0
                clear hcl hrow hkl2
                cases he : (fq.name.toList == nm.toList) with
                | false =>
                  have HD := hide (show ∀ q g, q < kk + 1 → st'.funcs[q]? = some g → (g.name.toList == nm.toList) = false from fun q g' hq' hg' => by
                    rcases Nat.lt_or_ge q kk with h | h
                    · exact hdif.out q g' h hg'
                    · have : q = kk := by omega
                      subst this
                      rw [hgx] at hg'
                      injection hg' with hg'
                      rw [← hg']; exact he)
                  clear hbq hgx hdif hxq
                  go_wp2
                  go_quiet (fail)
                  go_wp2
                  go_roundw
                  case rel => exact ⟨kk + 1, by omega, by go_num, below_drewN HQ.out _, HD⟩
                  case measure => simp [intOf]; omega
                | true =>
                  have HFI := hide (find_first hgx he hdif.out)
                  have hkne : ((kk : Int) == (fl : Int)) = false := by simp; omega
                  have HBQ := hide hbq.out
                  clear hbq hgx hdif hxq v0 hvl n0 n1 n2 n3 z0 hzl hnl HQ
                  have hz0' := keep_cell HZ0.out HBQ.out
                  have hxq := (HBQ.out.block _ (lt_row HX.out)).trans HX.out
                  have n0 := cell_row (i := 0) hxq rfl
                  have n1 := cell_row (i := 1) hxq rfl
                  have n2 := cell_row (i := 2) hxq rfl
                  have n3 := cell_row (i := 3) hxq rfl
                  have hzl := cell_some_lt hz0'
                  have hnl := lt_row hxq
                  have v0 := HV0.out
                  have hvl := cell_some_lt v0
                  clear hxq
                  go_wp2
                  go_quiet (fail)
                  have hb9 : Below wa.heap.size wa (wr.drewN nq) := below_drewN HBQ.out nq
                  generalize wr.drewN nq = w9 at hb9 ⊢
                  have hR9 := HRa.out.keep hb9
                  have hx9 := (hb9.block _ (lt_row HX.out)).trans HX.out
                  have m1 := cell_row (i := 1) hx9 rfl
                  have m2 := cell_row (i := 2) hx9 rfl
                  have m3 := cell_row (i := 3) hx9 rfl
                  have hml := lt_row hx9
                  obtain ⟨r0, r1, r2, r3, r4, r5⟩ := hR9.cells
                  rw [← HFL.out] at r0
                  have hrl := cell_some_lt r0
                  have g1 := hR9.unfrozen 1
                  have HB9 := hide (HBa.out.trans (hb9.mono HSa.out))
                  have HS9 : b ≤ w9.heap.size := Nat.le_trans HSa.out hb9.size
                  clear n0 n1 n2 n3 hz0' hzl hnl v0 hvl HV0
                  by_cases hu0 : ui < 0
                  · have HH := hide (show tieL st.uses st = tieL (st.uses.drop (q + 1)) { st' with main := (kk : Int) } by rw [HT.out, HFI.out, if_neg (by omega), if_pos hu0])
                    have hgm := grown_setCell w9 b 1 (.int .i64 (kk : Int))
                    have hRm := hide (hR9.turn (main := (kk : Int)) (fuel := st'.fuel) (tasks := st'.tasks) hgm (set_row (i := 1) hR9.self (.int .i64 (kk : Int))))
                    have hBm := hide (HB9.out.trans (hR9.below hgm HS9))
                    have hSm := hide (show b ≤ (w9.setCell ⟨b, 1, none⟩ (.int .i64 (kk : Int))).heap.size from Nat.le_trans HS9 (hR9.below hgm HS9).size)
                    clear HT hR9 hx9
                    go_wp2
                    go_roundw
                    case rel => exact ⟨q + 1, by omega, by go_num, (by refine Lib.hid ?_; exact ⟨_, hRm.out, hu', hfl', hcb', hok', HH.out⟩), hBm, hSm⟩
                    case measure => simp [intOf]; omega
                  · obtain ⟨h1, h2, f, x, h3, h4⟩ : 0 ≤ ui ∧ 0 ≤ uk ∧ ∃ f x, st'.funcs[ui.toNat]? = some f ∧ f.code[uk.toNat]? = some x := by
                      rcases huk with h | h
                      · exact absurd h hu0
                      · exact h
                    obtain ⟨i, rfl⟩ : ∃ i : Nat, ui = (i : Int) := ⟨ui.toNat, by omega⟩
                    obtain ⟨j, rfl⟩ : ∃ j : Nat, uk = (j : Int) := ⟨uk.toNat, by omega⟩
                    simp only [Int.toNat_natCast] at h3 h4
                    have HH := hide (show tieL st.uses st = tieL (st.uses.drop (q + 1)) (st'.setN i j (kk : Int)) by rw [HT.out, HFI.out, if_neg (by omega), if_neg hu0]; simp)
                    have hil : i < st'.funcs.length := (List.getElem?_eq_some_iff.1 h3).1
                    have hjl : j < f.code.length := (List.getElem?_eq_some_iff.1 h4).1
                    have hfe : st'.funcs[i] = f := by rw [List.getElem?_eq_getElem hil] at h3; exact Option.some.inj h3
                    have hic : i < cs.length := by rw [hR9.len]; exact hil
                    have hc := hR9.codes i hic hil
                    rw [hfe] at hc
                    obtain ⟨fa', fc', e9, hfr2⟩ := hR9.freads
                    injection e9 with e91 _ e93
                    subst e91
                    subst e93
                    have hcl : ∀ j, j < (frs st'.funcs cs).length → ∀ i v, (FR.enc (frs st'.funcs cs)[j]!)[i]? = some v → w9.cell? ⟨fb, fo + j * 4 + i, none⟩ = some v := by
                      rcases hfr2 with ⟨h, _⟩ | ⟨fb', fo', h, _, hh⟩
                      · cases h
                      · cases h; exact hh
                    have hcc := hcl i (by simp [frs, hR9.len]; exact hil) 3 cs[i] (by
                      rw [frs_row hR9.len hil]; rfl)
                    obtain ⟨fcur, hfcur⟩ := own_tag hR9.fns (g := fb) (by
                      rcases hR9.fns.2 with ⟨h, _⟩ | ⟨g', cap, cur, h, _⟩
                      · cases h
                      · cases h; rfl)
                    obtain ⟨cg, cc, hcv, cur, hcur⟩ : ∃ cg cc, cs[i] = .slice (some ⟨cg, 0, none⟩) f.code.length cc ∧ ∃ cur, w9.heap[cg]? = some (.cells cur 42 (0, 0)) := by
                      rcases hc.2 with ⟨h, e⟩ | ⟨g', cap, cur, h, _, hh, _⟩
                      · omega
                      · exact ⟨g', cap, h, cur, hh⟩
                    have hcb2 : f.code.length ≤ 1000000 := hcb' f (List.mem_of_getElem? h3)
                    have RR := hide (hR9.setN i j cg f x hic h3 h4 (by rw [hcv]; rfl) (kk : Int))
                    have fz := frozen_arr2 (i := j * 2 + 1) hcur
                    have cz : w9.cell? ⟨cg, j * 2 + 1, none⟩ = some (.int .i64 x.2) := by
                      have h8 := hc.cells (g := cg) (by rw [hcv]; rfl) (j * 2 + 1) (.int .i64 x.2) (insV_at h4)
                      rwa [add_none, Nat.zero_add] at h8
                    have nb : b ≠ cg := fun e => by
                      have h8 := hR9.self
                      rw [e] at h8
                      exact tag_ne h8 (by decide) hcur
                    have nu : xb ≠ cg := fun e => by
                      rw [e] at hx9
                      exact tag_ne hx9 (by decide) hcur
                    have nf : fb ≠ cg := fun e => by
                      rw [e] at hfcur
                      exact tag_ne hfcur (by decide) hcur
                    rw [hcv] at hcc
                    obtain ⟨cn, hcn⟩ : ∃ cn, cn = f.code.length := ⟨_, rfl⟩
                    rw [← hcn] at hcc hjl hcb2
                    have HS2 := hide (show (∀ g ∈ (st'.setN i j (kk : Int)).funcs, g.code.length ≤ 1000000) ∧ (∀ u ∈ st.uses, UseOk (st'.setN i j (kk : Int)).funcs u) from ⟨fun g hg => setN_code hcb' hg, fun u hu => (hok' u hu).main i j (kk : Int)⟩)
                    have hi1 : (i : Int) < (fl : Int) := by have := HFL.out; omega
                    have hj1 : (j : Int) < (cn : Int) := by omega
                    have hd1 : ¬ ((i : Int) < 0) := by omega
                    have hSm := hide (show b ≤ (w9.setCell ⟨cg, j * 2 + 1, none⟩ (.int .i64 (kk : Int))).heap.size from Nat.le_trans HS9 RR.out.2.size)
                    clear HT hR9 hcl hfr2 hc hcv hcn h3 h4 hfe hu0 huk hx9
                    go_upto_region 30 with fail
                    go_region_held3 (fun w' => w'.cell? ⟨b, 0, none⟩ = some (.slice (some ⟨fb, fo, none⟩) fl fc) ∧ w'.cell? ⟨xb, 1, none⟩ = some (.int .i64 (i : Int)) ∧ w'.cell? ⟨xb, 2, none⟩ = some (.int .i64 (j : Int)) ∧ w'.cell? ⟨fb, fo + i * 4 + 3, none⟩ = some (.slice (some ⟨cg, 0, none⟩) cn cc)) (first | exact ⟨r0, m1, m2, hcc⟩ | exact ⟨by simpa using r0, by simpa using m1, by simpa using m2, by simpa using hcc⟩ | exact ⟨far_cell nb r0, far_cell nu m1, far_cell nu m2, far_cell nf hcc⟩ | go_keep) (fail)
                    go_wp2
                    go_roundw
                    case rel => exact ⟨q + 1, by omega, by go_num, (by refine Lib.hid ?_; exact ⟨_, RR.out.1.keep (Below.refl _ _).drew, hu', by simp [St.setN, hfl'], HS2.out.1, HS2.out.2, HH.out⟩), (by refine Lib.hid ?_; exact (HB9.out.trans RR.out.2).drew), hSm.out⟩
                    case measure => simp [intOf]; omega
              · have hkf : kk = fl := by omega
                subst hkf
                have HE := hide (show RES = .error ln by
                  have h0 : findF nm st'.funcs < 0 := findFrom_neg nm st'.funcs 0 fun g hg => by
                    obtain ⟨q', hq', rfl⟩ := List.getElem_of_mem hg
                    exact hdif.out q' _ (by have := HFL.out; omega) (List.getElem?_eq_getElem hq')
                  rw [HT0.out, HT.out, if_pos h0])
                have hd0 : decide ((kk : Int) < (kk : Int)) = false := by simp
                have HBQ := hide hbq.out
                clear hbq hdif hxq
                go_wp2
                go_quiet (fail)
                have hb9 : Below wa.heap.size wa (wr.drewN nq) := below_drewN HBQ.out nq
                generalize wr.drewN nq = w9 at hb9 ⊢
                have hR9 := HRa.out.keep hb9
                have hx9 := (hb9.block _ (lt_row HX.out)).trans HX.out
                have m0 := cell_row (i := 0) hx9 rfl
                have hml := lt_row hx9
                obtain ⟨r0, r1, r2, r3, r4, r5⟩ := hR9.cells
                rw [← HFL.out] at r0
                have hrl := cell_some_lt r0
                have hA6 : Box5 w9 w.heap.size := (hb9.block _ (lt_row HA5.out)).trans HA5.out
                obtain ⟨a0, a1, a2, a3, a4, b0, b1, b2, b3, b4⟩ := hA6.facts
                have hwlt3 := lt_row hA6
                have HB9 := hide (HBW.out.trans ((HBa.out.trans (hb9.mono HSa.out)).mono (Nat.le_of_lt HWB.out)))
                have hxw : w.heap.size ≠ xb := by have := HWB.out; omega
                clear n0 n1 n2 n3 z0 hzl hnl HT hR9
                go_upto_region 27 with fail
                refine wp_region_noPanic ?_
                refine wp_region_held_drew (S := fun w' => w'.cell? ⟨xb, 0, none⟩ = some (.int .i64 ln)) (by kernel_rfl) (by simpa using m0) (fun hHeld => ?_)
                refine takeD (i := 0) (d := some 124) (v := ?_) rfl rfl (by kernel_rfl) (by kernel_rfl) (by kernel_rfl) (fun _ _ _ h => h) (Or.inl ⟨by rfl, ?_⟩) (by assumption) ?_
                rotate_left
                · intro w hSw
                  go_simp
                  try (with_reducible rfl)
                try simp only [Act.put, List.setIfInBounds_toArray, List.set_cons_zero, List.set_cons_succ]
                refine takeD (i := 1) (d := some 125) (v := ?_) rfl rfl (by kernel_rfl) (by kernel_rfl) (by kernel_rfl) (fun _ _ _ h => h) (Or.inl ⟨by rfl, ?_⟩) (by assumption) ?_
                rotate_left
                · intro w hSw
                  go_simp
                  try (with_reducible rfl)
                try simp only [Act.put, List.setIfInBounds_toArray, List.set_cons_zero, List.set_cons_succ]
                refine takeD (i := 2) (d := some 126) (v := ?_) rfl rfl (by kernel_rfl) (by kernel_rfl) (by kernel_rfl) (fun _ _ _ h => h) (Or.inl ⟨by rfl, ?_⟩) (by assumption) ?_
                rotate_left
                · intro w hSw
                  go_simp
                  try (with_reducible rfl)
                try simp only [Act.put, List.setIfInBounds_toArray, List.set_cons_zero, List.set_cons_succ]
                refine wpAnyH_ready (rs := [3]) (by kernel_rfl) (by simp) ?_
                refine AllReadyH.cons rfl (fun K hK => ?_) AllReadyH.nil
                go_simp
                clear hHeld
                obtain ⟨hr6, hg6⟩ := hA6.set (.slice none 0 0) (.int .i64 0) (.slice none 0 0) (.int .i64 0) (.int .i64 0)
                have HW6 := hide (show Below w.heap.size w (((((w9.setCell ⟨w.heap.size, 0, none⟩ (.slice none 0 0)).setCell ⟨w.heap.size, 1, none⟩ (.int .i64 0)).setCell ⟨w.heap.size, 2, none⟩ (.slice none 0 0)).setCell ⟨w.heap.size, 3, none⟩ (.int .i64 0)).setCell ⟨w.heap.size, 4, none⟩ (.int .i64 0)) from
                  (((((HB9.out.setCell (p := ⟨w.heap.size, 0, none⟩) (Nat.le_refl _) _).setCell (p := ⟨w.heap.size, 1, none⟩) (Nat.le_refl _) _).setCell (p := ⟨w.heap.size, 2, none⟩) (Nat.le_refl _) _).setCell (p := ⟨w.heap.size, 3, none⟩) (Nat.le_refl _) _).setCell (p := ⟨w.heap.size, 4, none⟩) (Nat.le_refl _) _))
                generalize (((((w9.setCell ⟨w.heap.size, 0, none⟩ (.slice none 0 0)).setCell ⟨w.heap.size, 1, none⟩ (.int .i64 0)).setCell ⟨w.heap.size, 2, none⟩ (.slice none 0 0)).setCell ⟨w.heap.size, 3, none⟩ (.int .i64 0)).setCell ⟨w.heap.size, 4, none⟩ (.int .i64 0)) = w5 at hr6 hg6 HW6 ⊢
                refine hK.out _ _ (hg6.cell m0 (by simpa using fun e => hxw e.symm)) (fun hHeld => ?_)
                clear hK K
                try simp only [Act.put, List.setIfInBounds_toArray, List.set_cons_zero, List.set_cons_succ]
                refine takeD (i := 4) (d := some 3) (v := ?_) rfl rfl (by kernel_rfl) (by kernel_rfl) (by kernel_rfl) (fun _ _ _ h => h) (Or.inl ⟨by rfl, ?_⟩) (by assumption) ?_
                rotate_left
                · intro w hSw
                  go_simp
                  try (with_reducible rfl)
                try simp only [Act.put, List.setIfInBounds_toArray, List.set_cons_zero, List.set_cons_succ]
                refine takeD (i := 5) (d := some 4) (v := ?_) rfl rfl (by kernel_rfl) (by kernel_rfl) (by kernel_rfl) (fun _ _ _ h => h) (Or.inl ⟨by rfl, ?_⟩) (by assumption) ?_
                rotate_left
                · intro w hSw
                  go_simp
                  try (with_reducible rfl)
                try simp only [Act.put, List.setIfInBounds_toArray, List.set_cons_zero, List.set_cons_succ]
                refine wpAnyH_done (by kernel_rfl) ?_ _
                refine NoPanic.normal ?_
                go_wp2
                have d0 := cell_row (i := 0) hr6 rfl
                have d1 := cell_row (i := 1) hr6 rfl
                have d2 := cell_row (i := 2) hr6 rfl
                have d3 := cell_row (i := 3) hr6 rfl
                have d4 := cell_row (i := 4) hr6 rfl
                exact bodyPost_ret (v := .tuple #[.agg #[.slice none 0 0, .int .i64 0, .slice none 0 0, .int .i64 0, .int .i64 0], .int .i64 ln, .int .i64 2]) (by simp [results, Tryz.results10, go_sem, d0, d1, d2, d3, d4]) rfl ⟨HW6.out.drew, by rw [HE.out]; rfl⟩
          · have hqm : q = m := by omega
            have HE := hide (show RES = .ok st' by
              rw [HT0.out, htl, List.drop_of_length_le (by rw [← HM.out]; omega)]
              rfl)
            have hlt' : ¬ (q : Int) < (m : Int) := by omega
            obtain ⟨fa, fc, aa, ac, ef, ea, -⟩ := hR'.job
            subst ef ea
            obtain ⟨a0, a1, a2, a3, a4, b0, b1, b2, b3, b4⟩ := hA5.facts
            obtain ⟨hr6, hg6⟩ := hA5.set (.slice fa st'.funcs.length fc) (.int .i64 st'.main) (.slice aa st'.args.length ac) (.int .i64 st'.fuel) (.int .i64 st'.tasks)
            have hwlt3 := lt_row hA5
            have HRES := hide (hR'.result hg6 HWB.out hA5)
            have HW6 := hide (show Below w.heap.size w (((((wr.setCell ⟨w.heap.size, 0, none⟩ (.slice fa st'.funcs.length fc)).setCell ⟨w.heap.size, 1, none⟩ (.int .i64 st'.main)).setCell ⟨w.heap.size, 2, none⟩ (.slice aa st'.args.length ac)).setCell ⟨w.heap.size, 3, none⟩ (.int .i64 st'.fuel)).setCell ⟨w.heap.size, 4, none⟩ (.int .i64 st'.tasks)) from
              (((((hBe.setCell (p := ⟨w.heap.size, 0, none⟩) (Nat.le_refl _) _).setCell (p := ⟨w.heap.size, 1, none⟩) (Nat.le_refl _) _).setCell (p := ⟨w.heap.size, 2, none⟩) (Nat.le_refl _) _).setCell (p := ⟨w.heap.size, 3, none⟩) (Nat.le_refl _) _).setCell (p := ⟨w.heap.size, 4, none⟩) (Nat.le_refl _) _))
            clear hx htl hqm hR' hlt hfl'
            go_wp2
            generalize (((((wr.setCell ⟨w.heap.size, 0, none⟩ (.slice fa st'.funcs.length fc)).setCell ⟨w.heap.size, 1, none⟩ (.int .i64 st'.main)).setCell ⟨w.heap.size, 2, none⟩ (.slice aa st'.args.length ac)).setCell ⟨w.heap.size, 3, none⟩ (.int .i64 st'.fuel)).setCell ⟨w.heap.size, 4, none⟩ (.int .i64 st'.tasks)) = w5 at hr6 HW6 HRES ⊢
            have d0 := cell_row (i := 0) hr6 rfl
            have d1 := cell_row (i := 1) hr6 rfl
            have d2 := cell_row (i := 2) hr6 rfl
            have d3 := cell_row (i := 3) hr6 rfl
            have d4 := cell_row (i := 4) hr6 rfl
            refine bodyPost_ret (v := .tuple #[.agg #[.slice fa st'.funcs.length fc, .int .i64 st'.main, .slice aa st'.args.length ac, .int .i64 st'.fuel, .int .i64 st'.tasks], .int .i64 0, .int .i64 0]) (by simp [results, Tryz.results10, go_sem, d0, d1, d2, d3, d4]) rfl ⟨HW6.out, ?_⟩
            rw [HE.out]
            obtain ⟨fa', fc', aa', ac', e1, e2, hj⟩ := HRES.out.job
            cases e1
            cases e2
            exact ⟨fa, fc, aa, ac, cs, rfl, hj⟩
end Go.Proofs.YtfnloomcianbiaaGreatDoor
