/- alive: the example of the document. -/
import Derived.Test.YtmjglgdihlomlaaWay
namespace Go.Proofs.Ytmjglgdihlomlaa
open Go.RowKit Go.ChangeShapes Go.WideShapes Go.ChangeAt Go.Deep

/-- Parcels without bytes, written out in a row of a block of its own. -/
theorem rowP_lit (w : World) (l : List Pm) (hl : ∀ x ∈ l, x.a = none ∧ x.n = 0 ∧ x.c = 0 ∧ x.p.2.2 = []) (n : Nat) (hn : l.length = n) (hm : n ≤ 1000000) : RowP (fun k => k = w.heap.size) (w.alloc (.cells (cV l).toArray 37)) (some ⟨w.heap.size, 0, none⟩) n n l := by
  refine ⟨hn, ⟨Nat.le_refl _, by unfold maxLen; omega⟩, (fun e => by cases e), reads_new w (cV l) 37, fun ad e _ => by cases e; rfl, fun x hx => ?_⟩
  obtain ⟨h1, h2, h3, h4⟩ := hl x hx
  exact ⟨by rw [h4, h2]; rfl, fun y hy => by rw [h4] at hy; simp at hy, ⟨by omega, by rw [h3]; exact Nat.zero_le _⟩, fun _ => ⟨h2, h3⟩, .inl (by rw [h4]; rfl), fun ad e _ => by rw [h1] at e; cases e⟩

theorem send_two (w1 : World) (cb : Nat) (hN : NetP (fun k => k = cb) w1 cb []) :
    Calls Try.prog 10 #[.pointer (some ⟨cb, 0, none⟩), .slice (some ⟨w1.heap.size, 0, none⟩) 2 2] (w1.alloc (.cells #[.int .i64 0, .int .i64 1, .slice none 0 0, .int .i64 0, .int .i64 2, .slice none 0 0] 37)) fun e w' => e = .returned (.int .i64 2) ∧ ∃ D : Nat → Prop, NetP D w' cb [(0, 1, []), (0, 2, [])] ∧ (∀ k, D k → k = cb ∨ w1.heap.size ≤ k) ∧ Kp (fun k => k = cb) w1 w' := by
  have hlt := hN.lt cb rfl
  refine (send_any (fun k => k = cb) (fun k => k = w1.heap.size) _ cb [] (some ⟨w1.heap.size, 0, none⟩) 2 2 [⟨(0, 1, []), none, 0, 0⟩, ⟨(0, 2, []), none, 0, 0⟩] (hN.below (below_new _ _)) (by simp) (rowP_lit w1 _ (by simp) 2 rfl (by omega)) (fun k hk e => by omega) (by omega) (by simp)).mono ?_
  rintro e w' ⟨rfl, h1, h2⟩
  refine ⟨rfl, _, h1, fun k hk => ?_, (Kp.of_below (below_new _ _)).trans h2⟩
  rcases hk with hk | hk
  · exact .inl hk
  · right
    have := hk.1
    simp at this
    omega

set_option maxRecDepth 100000 in
set_option maxHeartbeats 4000000 in
theorem alive_any (w : World) : Calls Try.prog 7 #[] w fun e w' => e = .returned (.bool true) ∧ Below w.heap.size w w' := by
  go_enter Try.func7, Try.ntmps7
  go_wp2_with (first
    | (go_at_call 9; go_must ((with_reducible refine (new_any w).mono ?_); rintro e w1 ⟨cb, rfl, hN1, hcb, hb1⟩; have C10 := hide (send_two w1 cb hN1); have HB1 := hide hb1; clear hN1 hb1))
    | (go_at_call 10; go_must ((with_reducible refine C10.out.mono ?_); rintro e w2 ⟨rfl, D, hN2, hD, hK2⟩; have C12 := hide (show Calls Try.prog 12 #[.pointer (some ⟨cb, 0, none⟩), .int .i64 1] w2 (DelYes D w2 cb [(0, 1, []), (0, 2, [])] 1 (0, 2, [])) from deliver_yes D w2 cb [(0, 1, []), (0, 2, [])] 1 hN2 (by simp) (by simp) (by simp)); have HK2 := hide hK2; have HD := hide hD; have HLT := hide hN2.lt; clear hN2 hK2 hD))
    | (go_at_call 12; go_must ((with_reducible refine C12.out.mono ?_); rintro e w3 ⟨a3, n3, c3, rfl, ho3, hN3, hK3⟩; have hBox := (BoxL.new w3 [.int .i64 0, .int .i64 2, .slice a3 n3 c3] 37).c3; obtain ⟨z0, z1, z2⟩ := hBox; have C22 := hide (way_any D (w3.alloc (.cells #[.int .i64 0, .int .i64 2, .slice a3 n3 c3] 37)) cb [(0, 1, [])] (hN3.below (below_new _ _)) (by simp) (by simp)); have HK3 := hide hK3; clear hN3 hK3 ho3))
    | (go_at_call 22; go_must ((with_reducible refine C22.out.mono ?_); rintro e w4 ⟨a4, n4, c4, l4, rfl, hR4, hl4, hb4⟩; have hn4 : n4 = 1 := (by rw [← hR4.1.1.1, ← List.length_map (f := Pm.p), hl4]; rfl); subst hn4; have HB4 := hide hb4; clear hR4 hl4 hb4)))
  go_ret
  refine ⟨rfl, ?_⟩
  have h2 : Below w.heap.size w w2 := HB1.out.trans (HK2.out.to_below HB1.out.size (fun k hk => by omega))
  have h3 : Below w.heap.size w w3 := h2.trans (HK3.out.to_below h2.size (fun k hk => by
    rcases HD.out k hk with e | e
    · omega
    · have := HB1.out.size; omega))
  exact (h3.alloc h3.size _).trans (HB4.out.mono (by have := h3.size; simp; omega))
end Go.Proofs.Ytmjglgdihlomlaa
