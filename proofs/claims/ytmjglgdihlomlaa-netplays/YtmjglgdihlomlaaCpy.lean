/- bytes.Clone, net.copyOf, gleanerref10.parcel: a parcel in new memory. -/
import Derived.Test.YtmjglgdihlomlaaPar
namespace Go.Proofs.Ytmjglgdihlomlaa
open Go.RowKit Go.ChangeShapes Go.WideShapes Go.ChangeAt Go.Deep

theorem eqlNil (a : Option Addr) (n c : Nat) (w : World) : (binOp .eql 35 (.slice a n c) (.slice none 0 0)).run Try.prog w = .ok (.bool a.isNone) w := by
  cases a <;> kernel_rfl
set_option maxRecDepth 100000 in
set_option maxHeartbeats 400000 in
theorem clone_any (a : Option Addr) (n c : Nat) (xs : List Nat) (w : World) (hl : xs.length = n) (hr : Reads w a (bV xs)) (hnil : a = none → n = 0 ∧ c = 0) (hn : n ≤ 1000000) :
    Calls Try.prog 30 #[.slice a n c] w fun e w' => ∃ v, e = .returned v ∧ w'.ownsRow w.heap.size 5 1 v n (bV xs) ∧ Below w.heap.size w w' := by
  cases a with
  | none =>
    obtain ⟨rfl, rfl⟩ := hnil rfl
    have hx : xs = [] := List.eq_nil_of_length_eq_zero hl
    subst hx
    have hq := eqlNil none 0 0
    go_enter Try.func30, Try.ntmps30
    go_wp2
    go_ret
    exact ⟨_, rfl, World.ownsRow_nil _ _ _ _, Below.refl _ _⟩
  | some ad =>
    have HR := hide hr
    have HL := hide hl
    have hq := eqlNil (some ad) n c
    clear hr hl hnil
    have HO := hide (show (w.alloc (.cells #[] 5)).ownsRow w.heap.size 5 1 (.slice (some ⟨w.heap.size, 0, none⟩) 0 0) 0 (bV []) from World.ownsRow_made w #[] 0 (Nat.le_refl _) (by unfold maxLen; omega) rfl)
    have HB := hide (below_new w (.cells #[] 5))
    go_enter Try.func30, Try.ntmps30
    go_wp2_with (at_builtin; go_must (refine append_bytes rfl (.tmp 5) (.tmp 6) rfl w.heap.size (.slice (some ⟨w.heap.size, 0, none⟩) 0 0) 0 [] rfl HO.out (some ad) n c xs rfl (fun h => by cases h) HL.out (HR.out.below HB.out) (by omega) (by simp) ?_; intro v' w' h1 h2 _))
    go_ret
    refine ⟨_, rfl, by simpa using h1, HB.out.grown h2 (by simp) (fun k hk => by simp [Value.ownBlock] at hk; omega)⟩

/-- What a copy of a parcel is: its bytes in new memory. -/
def CopyPost (x : Pc) (w : World) (e : Ending) (w' : World) : Prop := ∃ a n c, e = .returned (.agg #[.int .i64 x.1, .int .i64 x.2.1, .slice a n c]) ∧ w'.ownsRow w.heap.size 5 1 (.slice a n c) x.2.2.length (bV x.2.2) ∧ Below w.heap.size w w'
theorem open5 {w : World} {B n : Nat} {v : Value} {xs : List Value} (h : w.ownsRow B 5 1 v n xs) : ∃ a c, v = .slice a n c := by
  obtain ⟨a, c, e, _⟩ := own_slice h
  exact ⟨a, c, e⟩

theorem own_keep5 {w w' : World} {B n : Nat} {v : Value} {xs : List Value} (h : w.ownsRow B 5 1 v n xs) (hk : ∀ k, B ≤ k → w'.heap[k]? = w.heap[k]?) : w'.ownsRow B 5 1 v n xs := by
  refine ⟨h.1, ?_⟩
  rcases h.2 with h | ⟨g, cap, cur, e, h1, h2, h3⟩
  · exact .inl h
  · exact .inr ⟨g, cap, cur, e, h1, by rw [hk g h1]; exact h2, h3⟩

set_option maxRecDepth 100000 in
set_option maxHeartbeats 1000000 in
theorem copy_any (x : Pc) (a : Option Addr) (n c : Nat) (w : World) (hl : x.2.2.length = n) (hr : Reads w a (bV x.2.2)) (hnil : a = none → n = 0 ∧ c = 0) (hn : n ≤ 1000000) :
    Calls Try.prog 23 #[.agg #[.int .i64 x.1, .int .i64 x.2.1, .slice a n c]] w (CopyPost x w) := by
  obtain ⟨f, t, xs⟩ := x
  simp only at hl hr ⊢
  have CK := hide (fun W (hb : Below w.heap.size w W) => clone_any a n c xs W hl (hr.below hb) hnil hn)
  have HL := hide hl
  clear hl hr hnil
  obtain ⟨hx1, hx2, hx3, hx4⟩ := box2 w [.int .i64 f, .int .i64 t, .slice a n c] [.int .i64 0, .int .i64 0, .slice none 0 0] 37 37
  obtain ⟨V, hV⟩ : ∃ V, V = (w.alloc (.cells #[.int .i64 f, .int .i64 t, .slice a n c] 37)).alloc (.cells #[.int .i64 0, .int .i64 0, .slice none 0 0] 37) := ⟨_, rfl⟩
  have HX := hide (show BoxL V w.heap.size [.int .i64 f, .int .i64 t, .slice a n c] by rw [hV]; exact hx1)
  have HY := hide (show BoxL V (w.heap.size + 1) [.int .i64 0, .int .i64 0, .slice none 0 0] by rw [hV]; exact hx2)
  have HB := hide (show Below w.heap.size w V by rw [hV]; exact hx3)
  have HS := hide (show V.heap.size = w.heap.size + 2 by rw [hV]; exact hx4)
  have HV := hide hV
  clear hx1 hx2 hx3 hx4 hV
  unfold CopyPost
  go_enter Try.func23, Try.ntmps23
  go_wp2_with (go_at_call 30; go_must (rw [← HV.out]; (with_reducible refine (CK.out V HB.out).mono ?_); rintro e w1 ⟨v1, rfl, ho, hb⟩; obtain ⟨a1, c1, rfl⟩ := open5 ho; have HO := hide ho; have HX1 := hide (HX.out.below hb); have HY1 := hide (HY.out.below hb); have HB1 := hide (HB.out.trans (hb.mono HB.out.size)); obtain ⟨k0, k1, k2⟩ := HX1.out.c3; obtain ⟨u0, u1, u2⟩ := HX1.out.f3; obtain ⟨e0, e1, e2⟩ := HY1.out.c3; obtain ⟨g0, g1, g2⟩ := HY1.out.f3; have HSZ := hide hb.size; clear ho hb))
  have HX2 := hide (HX1.out.put 2 (.slice a1 n c1))
  have hne : w.heap.size + 1 ≠ w.heap.size := by omega
  have HY2 := hide (HY1.out.grown (grown_setCell w1 w.heap.size 2 (.slice a1 n c1)) hne)
  have HY3 := hide (put3_box HY2.out (.int .i64 f) (.int .i64 t) (.slice a1 n c1))
  have HB3 := hide (put3_below (g := w.heap.size + 1) (o := 0) (HB1.out.setCell (p := ⟨w.heap.size, 2, none⟩) (Nat.le_refl _) (.slice a1 n c1)) (by omega) (.int .i64 f) (.int .i64 t) (.slice a1 n c1))
  have HO3 := hide (show (put3 (w1.setCell ⟨w.heap.size, 2, none⟩ (.slice a1 n c1)) (w.heap.size + 1) 0 (.int .i64 f) (.int .i64 t) (.slice a1 n c1)).ownsRow w.heap.size 5 1 (.slice a1 n c1) n (bV xs) from by
    refine own_mono (own_keep5 HO.out (fun k hk => ?_)) (by have := HS.out; omega)
    have := HS.out
    rw [put3_keep (by omega), Below.heap_setCell _ _ _ _ (by show k ≠ w.heap.size; omega)])
  obtain ⟨X, hX⟩ : ∃ X, X = put3 (w1.setCell ⟨w.heap.size, 2, none⟩ (.slice a1 n c1)) (w.heap.size + 1) 0 (.int .i64 f) (.int .i64 t) (.slice a1 n c1) := ⟨_, rfl⟩
  rw [← hX] at HY3 HB3 HO3
  unfold put3 at hX
  rw [← hX]
  clear hX
  obtain ⟨x0, x1, x2⟩ := HY3.out.c3
  refine bodyPost_ret (v := .agg #[.int .i64 f, .int .i64 t, .slice a1 n c1]) (by simp [results, Try.results23, go_sem, x0, x1, x2]) rfl ?_
  exact ⟨a1, n, c1, rfl, by simp only [HL.out]; exact HO3.out, HB3.out⟩

set_option maxRecDepth 100000 in
set_option maxHeartbeats 1000000 in
theorem parcel_any (x : Pc) (a : Option Addr) (n c : Nat) (w : World) (hl : x.2.2.length = n) (hr : Reads w a (bV x.2.2)) (hnil : a = none → n = 0 ∧ c = 0) (hn : n ≤ 1000000) :
    Calls Try.prog 24 #[.agg #[.int .i64 x.1, .int .i64 x.2.1, .slice a n c]] w (CopyPost x w) := by
  obtain ⟨f, t, xs⟩ := x
  simp only at hl hr ⊢
  have HR := hide hr
  have HN := hide hnil
  have HL := hide hl
  clear hl hr hnil
  obtain ⟨hx1, hx2, hx3, hx4⟩ := box2 w [.int .i64 f, .int .i64 t, .slice a n c] [.int .i64 0, .int .i64 0, .slice none 0 0] 37 37
  obtain ⟨V, hV⟩ : ∃ V, V = (w.alloc (.cells #[.int .i64 f, .int .i64 t, .slice a n c] 37)).alloc (.cells #[.int .i64 0, .int .i64 0, .slice none 0 0] 37) := ⟨_, rfl⟩
  have HX := hide (show BoxL V w.heap.size [.int .i64 f, .int .i64 t, .slice a n c] by rw [hV]; exact hx1)
  have HY := hide (show BoxL V (w.heap.size + 1) [.int .i64 0, .int .i64 0, .slice none 0 0] by rw [hV]; exact hx2)
  have HB := hide (show Below w.heap.size w V by rw [hV]; exact hx3)
  have HS := hide (show V.heap.size = w.heap.size + 2 by rw [hV]; exact hx4)
  have HV := hide hV
  clear hx1 hx2 hx3 hx4 hV
  unfold CopyPost
  go_enter Try.func24, Try.ntmps24
  go_wp2_with (at_builtin; go_must (rw [← HV.out]; refine append_bytes rfl (.const (.slice none 0 0)) (.tmp 4) rfl V.heap.size (.slice none 0 0) 0 [] rfl (World.ownsRow_nil _ _ _ _) a n c xs rfl HN.out HL.out (HR.out.below HB.out) (by omega) (Nat.le_refl _) ?_; intro v1 w1 ho hgr _; rw [Nat.zero_add, List.nil_append] at ho; have hb := below_of hgr; obtain ⟨a1, c1, rfl⟩ := open5 ho; have HO := hide ho; have HX1 := hide (HX.out.below hb); have HY1 := hide (HY.out.below hb); have HB1 := hide (HB.out.trans (hb.mono HB.out.size)); obtain ⟨k0, k1, k2⟩ := HX1.out.c3; obtain ⟨u0, u1, u2⟩ := HX1.out.f3; obtain ⟨e0, e1, e2⟩ := HY1.out.c3; obtain ⟨g0, g1, g2⟩ := HY1.out.f3; have HSZ := hide hb.size; clear ho hb hgr))
  have HX2 := hide (HX1.out.put 2 (.slice a1 n c1))
  have hne : w.heap.size + 1 ≠ w.heap.size := by omega
  have HY2 := hide (HY1.out.grown (grown_setCell w1 w.heap.size 2 (.slice a1 n c1)) hne)
  have HY3 := hide (put3_box HY2.out (.int .i64 f) (.int .i64 t) (.slice a1 n c1))
  have HB3 := hide (put3_below (g := w.heap.size + 1) (o := 0) (HB1.out.setCell (p := ⟨w.heap.size, 2, none⟩) (Nat.le_refl _) (.slice a1 n c1)) (by omega) (.int .i64 f) (.int .i64 t) (.slice a1 n c1))
  have HO3 := hide (show (put3 (w1.setCell ⟨w.heap.size, 2, none⟩ (.slice a1 n c1)) (w.heap.size + 1) 0 (.int .i64 f) (.int .i64 t) (.slice a1 n c1)).ownsRow w.heap.size 5 1 (.slice a1 n c1) n (bV xs) from by
    refine own_mono (own_keep5 HO.out (fun k hk => ?_)) (by have := HS.out; omega)
    have := HS.out
    rw [put3_keep (by omega), Below.heap_setCell _ _ _ _ (by show k ≠ w.heap.size; omega)])
  obtain ⟨X, hX⟩ : ∃ X, X = put3 (w1.setCell ⟨w.heap.size, 2, none⟩ (.slice a1 n c1)) (w.heap.size + 1) 0 (.int .i64 f) (.int .i64 t) (.slice a1 n c1) := ⟨_, rfl⟩
  rw [← hX] at HY3 HB3 HO3
  unfold put3 at hX
  rw [← hX]
  clear hX
  obtain ⟨x0, x1, x2⟩ := HY3.out.c3
  refine bodyPost_ret (v := .agg #[.int .i64 f, .int .i64 t, .slice a1 n c1]) (by simp [results, Try.results24, go_sem, x0, x1, x2]) rfl ?_
  exact ⟨a1, n, c1, rfl, by simp only [HL.out]; exact HO3.out, HB3.out⟩

end Go.Proofs.Ytmjglgdihlomlaa
