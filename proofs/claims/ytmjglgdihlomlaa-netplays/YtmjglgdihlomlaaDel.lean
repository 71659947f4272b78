/- (*net.Net).Deliver, Drop. -/
import Derived.Test.YtmjglgdihlomlaaTake
namespace Go.Proofs.Ytmjglgdihlomlaa
open Go.RowKit Go.ChangeShapes Go.WideShapes Go.ChangeAt Go.Deep

theorem box1 (w : World) (L : List Value) (t : TypeId) : BoxL (w.alloc (.cells L.toArray t)) w.heap.size L ∧ Below w.heap.size w (w.alloc (.cells L.toArray t)) ∧ (w.alloc (.cells L.toArray t)).heap.size = w.heap.size + 1 := ⟨BoxL.new w L t, below_new _ _, by simp⟩
theorem map_erase (l : List Pm) (k : Nat) : (l.eraseIdx k).map Pm.p = (l.map Pm.p).eraseIdx k := by
  induction l generalizing k with
  | nil => rfl
  | cons a r ih =>
    cases k with
    | zero => rfl
    | succ k => simp [List.eraseIdx, ih]
/-- What Deliver answers where there is a k-th parcel. -/
def DelYes (D : Nat → Prop) (w : World) (cb : Nat) (L : List Pc) (k : Nat) (x : Pc) (e : Ending) (w' : World) : Prop :=
  ∃ a n c, e = .returned (.tuple #[.agg #[.int .i64 x.1, .int .i64 x.2.1, .slice a n c], .bool true]) ∧ w'.ownsRow w.heap.size 5 1 (.slice a n c) x.2.2.length (bV x.2.2) ∧ NetP D w' cb (L.eraseIdx k) ∧ Kp D w w'
def DelNo (w : World) (e : Ending) (w' : World) : Prop := e = .returned (.tuple #[.agg #[.int .i64 0, .int .i64 0, .slice none 0 0], .bool false]) ∧ Below w.heap.size w w'
theorem NetM.head {D : Nat → Prop} {w : World} {cb : Nat} {l : List Pm} (h : NetM D w cb l) : ∃ a n c, w.cell? ⟨cb, 0, none⟩ = some (.slice a n c) ∧ l.length = n := by
  obtain ⟨_, a, n, c, h1, h2, _⟩ := h
  exact ⟨a, n, c, h1, h2.1.1⟩

set_option maxRecDepth 100000 in
set_option maxHeartbeats 1000000 in
theorem deliver_no (D : Nat → Prop) (w : World) (cb : Nat) (L : List Pc) (k : Int) (hN : NetP D w cb L) (hk : hasB L.length k = false) :
    Calls Try.prog 12 #[.pointer (some ⟨cb, 0, none⟩), .int .i64 k] w (DelNo w) := by
  obtain ⟨l, hl, hM⟩ := hN
  obtain ⟨hx1, hx2, hx3⟩ := box1 w [.int .i64 0, .int .i64 0, .slice none 0 0] 37
  obtain ⟨V, hV⟩ : ∃ V, V = w.alloc (.cells #[.int .i64 0, .int .i64 0, .slice none 0 0] 37) := ⟨_, rfl⟩
  have HX := hide (show BoxL V w.heap.size [.int .i64 0, .int .i64 0, .slice none 0 0] by rw [hV]; exact hx1)
  have HB := hide (show Below w.heap.size w V by rw [hV]; exact hx2)
  obtain ⟨a, n, c, hcell, hn⟩ := (hM.below HB.out).head
  have hkn : hasB n k = false := by rw [← hn, ← hk, ← hl, List.length_map]
  have C25 := hide (has_any cb a n c k V hcell)
  rw [hkn] at C25
  have HV := hide hV
  obtain ⟨e0, e1, e2⟩ := HX.out.c3
  obtain ⟨g0, g1, g2⟩ := HX.out.f3
  clear hx1 hx2 hx3 hV hM hcell hkn hk hn hl
  unfold DelNo
  go_enter Try.func12, Try.ntmps12
  go_wp2_with (go_at_call 25; go_must (rw [← HV.out]; (with_reducible refine C25.out.mono ?_); rintro e w1 ⟨rfl, rfl⟩))
  have HF := hide (put3_box HX.out (.int .i64 0) (.int .i64 0) (.slice none 0 0))
  have HB3 := hide (put3_below (o := 0) HB.out (Nat.le_refl _) (.int .i64 0) (.int .i64 0) (.slice none 0 0))
  obtain ⟨X4, hX4⟩ : ∃ X4, X4 = put3 w1 w.heap.size 0 (.int .i64 0) (.int .i64 0) (.slice none 0 0) := ⟨_, rfl⟩
  rw [← hX4] at HF HB3
  unfold put3 at hX4
  rw [← hX4]
  clear hX4
  obtain ⟨x0, x1, x2⟩ := HF.out.c3
  exact bodyPost_ret (v := .tuple #[.agg #[.int .i64 0, .int .i64 0, .slice none 0 0], .bool false]) (by simp [results, Try.results12, go_sem, x0, x1, x2]) rfl ⟨rfl, HB3.out⟩

set_option maxRecDepth 100000 in
set_option maxHeartbeats 1000000 in
theorem deliver_yes (D : Nat → Prop) (w : World) (cb : Nat) (L : List Pc) (k : Nat) (hN : NetP D w cb L) (hk : k < L.length) (hL : L.length ≤ 20000) (hb : L[k].2.2.length ≤ 1000000) :
    Calls Try.prog 12 #[.pointer (some ⟨cb, 0, none⟩), .int .i64 (k : Int)] w (DelYes D w cb L k L[k]) := by
  obtain ⟨l, rfl, hM⟩ := hN
  rw [List.length_map] at hk hL
  obtain ⟨hx1, hx2, hx3⟩ := box1 w [.int .i64 0, .int .i64 0, .slice none 0 0] 37
  obtain ⟨V, hV⟩ : ∃ V, V = w.alloc (.cells #[.int .i64 0, .int .i64 0, .slice none 0 0] 37) := ⟨_, rfl⟩
  have HX := hide (show BoxL V w.heap.size [.int .i64 0, .int .i64 0, .slice none 0 0] by rw [hV]; exact hx1)
  have HB := hide (show Below w.heap.size w V by rw [hV]; exact hx2)
  have HS := hide (show V.heap.size = w.heap.size + 1 by rw [hV]; exact hx3)
  obtain ⟨a, n, c, hcell, hn⟩ := (hM.below HB.out).head
  have C25 := hide (has_any cb a n c (k : Int) V hcell)
  rw [show hasB n (k : Int) = true by simp [hasB]; omega] at C25
  have C26 := hide (take_any D V cb k l (hM.below HB.out) hk hL)
  have HD := hide hM.1.2.2
  have HEI := hide (show (l.eraseIdx k).map Pm.p = (l.map Pm.p).eraseIdx k from map_erase l k)
  obtain ⟨x, hx⟩ : ∃ x, x = l[k] := ⟨_, rfl⟩
  rw [List.getElem_map] at hb
  have e : (l.map Pm.p)[k] = l[k].p := List.getElem_map _
  rw [e]
  rw [← hx] at C26 hb ⊢
  have HV := hide hV
  have HBL := hide hb
  clear hx1 hx2 hx3 hV hM hcell hn e hx hb
  obtain ⟨⟨f, t, bs⟩, xa, xn, xc⟩ := x
  simp only at C26 HBL ⊢
  have CK := hide (fun W (h : Pm.ok D W ⟨(f, t, bs), xa, xn, xc⟩) => copy_any (f, t, bs) xa xn xc W h.1 h.2.2.2.2.1 h.2.2.2.1 (by have h1 := h.1; have h2 := HBL.out; simp only at h1 h2; omega))
  unfold DelYes
  go_enter Try.func12, Try.ntmps12
  go_wp2_with (first
    | (go_at_call 25; go_must (rw [← HV.out]; (with_reducible refine C25.out.mono ?_); rintro e w0 ⟨rfl, hw0⟩; have hw0' : V = w0 := hw0.symm; subst hw0'))
    | (go_at_call 26; go_must ((with_reducible refine C26.out.mono ?_); rintro e w1 ⟨rfl, hN1, hK1, hok1⟩; have HN1 := hide hN1; have HK1 := hide hK1; have HOK := hide hok1; clear hN1 hK1 hok1))
    | (go_at_call 23; go_must ((with_reducible refine (CK.out w1 HOK.out).mono ?_); rintro e w2 ⟨a2, n2, c2, rfl, ho2, hb2⟩; have HO2 := hide ho2; have HB2 := hide hb2; have HXw := hide ((BoxL.keep (w' := w1) HX.out HK1.out.size (HK1.out.block _ HX.out.1 (fun e => by have := HD.out _ e; omega))).below hb2); obtain ⟨e0, e1, e2⟩ := HXw.out.c3; obtain ⟨g0, g1, g2⟩ := HXw.out.f3; clear ho2 hb2)))
  have HF := hide (put3_box HXw.out (.int .i64 f) (.int .i64 t) (.slice a2 n2 c2))
  have hDr : ¬ D w.heap.size := fun e => by have := HD.out _ e; omega
  have HN9 := hide ((HN1.out.below HB2.out).keep (w' := put3 w2 w.heap.size 0 (.int .i64 f) (.int .i64 t) (.slice a2 n2 c2)) (by rw [put3_size]; exact Nat.le_refl _) (fun q h1 _ => put3_keep (by intro e; subst e; exact hDr h1) _ _ _))
  have hs1 := HK1.out.size
  have hs0 := HS.out
  have HO9 := hide (show (put3 w2 w.heap.size 0 (.int .i64 f) (.int .i64 t) (.slice a2 n2 c2)).ownsRow w.heap.size 5 1 (.slice a2 n2 c2) bs.length (bV bs) from own_mono (own_keep5 HO2.out (fun q hq => put3_keep (by omega) _ _ _)) (by omega))
  have HK9 := hide (show Kp D w (put3 w2 w.heap.size 0 (.int .i64 f) (.int .i64 t) (.slice a2 n2 c2)) from (((((Kp.of_below HB.out).trans HK1.out).below HB2.out).put (.inr (Nat.le_refl _)) _).put (.inr (Nat.le_refl _)) _).put (.inr (Nat.le_refl _)) _)
  obtain ⟨X4, hX4⟩ : ∃ X4, X4 = put3 w2 w.heap.size 0 (.int .i64 f) (.int .i64 t) (.slice a2 n2 c2) := ⟨_, rfl⟩
  rw [← hX4] at HF HN9 HO9 HK9
  unfold put3 at hX4
  rw [← hX4]
  clear hX4
  obtain ⟨x0, x1, x2⟩ := HF.out.c3
  exact bodyPost_ret (v := .tuple #[.agg #[.int .i64 f, .int .i64 t, .slice a2 n2 c2], .bool true]) (by simp [results, Try.results12, go_sem, x0, x1, x2]) rfl ⟨a2, n2, c2, rfl, HO9.out, ⟨_, HEI.out, HN9.out⟩, HK9.out⟩

set_option maxRecDepth 100000 in
set_option maxHeartbeats 1000000 in
theorem drop_no (D : Nat → Prop) (w : World) (cb : Nat) (L : List Pc) (k : Int) (hN : NetP D w cb L) (hk : hasB L.length k = false) :
    Calls Try.prog 15 #[.pointer (some ⟨cb, 0, none⟩), .int .i64 k] w fun e w' => e = .returned (.bool false) ∧ w' = w := by
  obtain ⟨l, hl, hM⟩ := hN
  obtain ⟨a, n, c, hcell, hn⟩ := hM.head
  have hkn : hasB n k = false := by rw [← hn, ← hk, ← hl, List.length_map]
  have C25 := hide (has_any cb a n c k w hcell)
  rw [hkn] at C25
  clear hM hcell hkn hk hn hl
  go_enter Try.func15, Try.ntmps15
  go_wp2_with (go_at_call 25; go_must ((with_reducible refine C25.out.mono ?_); rintro e w1 ⟨rfl, rfl⟩))
  go_ret
  exact ⟨rfl, rfl⟩

set_option maxRecDepth 100000 in
set_option maxHeartbeats 1000000 in
theorem drop_yes (D : Nat → Prop) (w : World) (cb : Nat) (L : List Pc) (k : Nat) (hN : NetP D w cb L) (hk : k < L.length) (hL : L.length ≤ 20000) :
    Calls Try.prog 15 #[.pointer (some ⟨cb, 0, none⟩), .int .i64 (k : Int)] w fun e w' => e = .returned (.bool true) ∧ NetP D w' cb (L.eraseIdx k) ∧ Kp D w w' := by
  obtain ⟨l, rfl, hM⟩ := hN
  rw [List.length_map] at hk hL
  obtain ⟨a, n, c, hcell, hn⟩ := hM.head
  have C25 := hide (has_any cb a n c (k : Int) w hcell)
  rw [show hasB n (k : Int) = true by simp [hasB]; omega] at C25
  have C26 := hide (take_any D w cb k l hM hk hL)
  have HEI := hide (show (l.eraseIdx k).map Pm.p = (l.map Pm.p).eraseIdx k from map_erase l k)
  generalize l[k] = x at C26
  clear hM hcell hn
  go_enter Try.func15, Try.ntmps15
  go_wp2_with (first
    | (go_at_call 25; go_must ((with_reducible refine C25.out.mono ?_); rintro e w0 ⟨rfl, hw0⟩; have hw0' : w = w0 := hw0.symm; subst hw0'))
    | (go_at_call 26; go_must ((with_reducible refine C26.out.mono ?_); rintro e w1 ⟨rfl, hN1, hK1, -⟩; have HN1 := hide hN1; have HK1 := hide hK1; clear hN1 hK1)))
  go_ret
  exact ⟨rfl, ⟨_, HEI.out, HN1.out⟩, HK1.out⟩

end Go.Proofs.Ytmjglgdihlomlaa
