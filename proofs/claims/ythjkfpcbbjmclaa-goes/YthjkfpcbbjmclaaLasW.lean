/- ViewLast's walk. -/
import Derived.Test.YthjkfpcbbjmclaaAlv
import Derived.Test.YthjkfpcbbjmclaaPln
namespace Go.Proofs.Ythjkfpcbbjmclaa
open Go.RowKit Go.ChangeShapes Go.WideShapes Go.ChangeAt Go.Deep

def two3 : List Mb := [(0, 1), (3, 1)]
theorem two_may (ep : Int) : mayV ep two3 = okN ep := by
  unfold mayV
  rw [show headZ two3 = true from rfl, show goV (-1) two3 = true by decide]
  simp
theorem two_wo (ep : Int) : woE ep two3 [3] = if okN ep then (if ep = 2147483647 then 16 else 0) else 1 := by
  unfold woE
  rw [two_may, show outOk two3 [3] = true by decide]
  simp
theorem two_wi (ep : Int) : wiE ep two3 2 1 = if okN ep then (if ep = 2147483647 then 16 else 0) else 1 := by
  unfold wiE
  rw [two_may, show okM (2, 1) = true by decide, show inV two3 2 = false by decide]
  simp
theorem reads_two (w : World) : Reads (w.alloc (.cells #[.int .i64 0, .int .i64 1, .int .i64 3, .int .i64 1] 41)) (some ⟨w.heap.size, 0, none⟩) (mV two3) := reads_new w (mV two3) 41
set_option linter.unusedSimpArgs false in
set_option maxRecDepth 100000 in
set_option maxHeartbeats 4000000 in
theorem last_walk (ep : Int) (K : Int) (M : Bool) (w : World) (h1 : woE ep two3 [3] = K) (h2 : wiE ep two3 2 1 = K) (h3 : mayV ep two3 = M)
    (hc : (ep < 1 ∧ K = 1 ∧ M = false) ∨ (2147483647 < ep ∧ K = 1 ∧ M = false) ∨ (ep = 2147483647 ∧ K = 16 ∧ M = true) ∨ (1 ≤ ep ∧ ep < 2147483647 ∧ K = 0 ∧ M = true)) :
    Calls Try.prog 7 #[.int .i64 ep] w fun e w' => e = .returned (.bool true) ∧ Below w.heap.size w w' := by
  have C8 := hide (alive_any w)
  have C10 := hide (fun g X (hr : Reads X (some ⟨g, 0, none⟩) (mV two3)) g2 (hs : Reads X (some ⟨g2, 0, none⟩) (iV [3])) => without_any ep two3 [3] (some ⟨g, 0, none⟩) 2 2 (some ⟨g2, 0, none⟩) 1 1 X rfl (by omega) hr (fun h => by cases h) rfl (by omega) hs)
  have C12 := hide (fun g X (hr : Reads X (some ⟨g, 0, none⟩) (mV two3)) => with_any ep two3 2 1 (some ⟨g, 0, none⟩) 2 2 X rfl (by omega) hr (fun h => by cases h))
  have C19 := hide (fun g X (hr : Reads X (some ⟨g, 0, none⟩) (mV two3)) => may_any ep two3 (some ⟨g, 0, none⟩) 2 2 X rfl (by omega) hr)
  have C17 := hide (fun n X => num_any n X)
  rw [h1] at C10
  rw [h2] at C12
  rw [h3] at C19
  clear h1 h2 h3
  go_enter Try.func7, Try.ntmps7
  go_upto_region 3 with (go_at_call 8; go_must ((with_reducible refine C8.out.mono ?_); rintro e w1 ⟨rfl, hb1⟩; have HB1 := hide hb1; clear hb1))
  have HB2 := hide ((HB1.out.alloc HB1.out.size (.cells #[.int .i64 0, .int .i64 1, .int .i64 3, .int .i64 1] 41)))
  have HR2 := hide (reads_two w1)
  have HS2 := hide (show (w1.alloc (.cells #[.int .i64 0, .int .i64 1, .int .i64 3, .int .i64 1] 41)).heap.size = w1.heap.size + 1 by simp)
  generalize w1.alloc (.cells #[.int .i64 0, .int .i64 1, .int .i64 3, .int .i64 1] 41) = W2 at HB2 HR2 HS2 ⊢
  have HB3 := hide (HB2.out.alloc HB2.out.size (.cells #[.int .i64 ep, .slice (some ⟨w1.heap.size, 0, none⟩) 2 2] 24))
  have HX3 := hide (BoxL.new W2 [.int .i64 ep, .slice (some ⟨w1.heap.size, 0, none⟩) 2 2] 24)
  have HR3 := hide (HR2.out.below (below_new W2 (.cells #[.int .i64 ep, .slice (some ⟨w1.heap.size, 0, none⟩) 2 2] 24)))
  rw [HS2.out] at HX3
  generalize W2.alloc (.cells #[.int .i64 ep, .slice (some ⟨w1.heap.size, 0, none⟩) 2 2] 24) = X3 at HB3 HX3 HR3 ⊢
  obtain ⟨⟨x0, x1⟩, -⟩ := HX3.out.c2
  clear HB1 HB2 HR2 HS2 C8
  go_upto_region 4 with (go_at_call 10; go_must ((with_reducible refine (C10.out _ _ (HR3.out.below (below_new X3 (.cells #[.int .i64 3] 3))) _ (reads_i1 X3 3)).mono ?_); rintro e w4 ⟨v4, rfl, ho4, hb4⟩; obtain ⟨a4, c4, rfl⟩ := ho4.open; have HN4 := hide ((below_new X3 (.cells #[.int .i64 3] 3)).trans (hb4.mono (below_new X3 (.cells #[.int .i64 3] 3)).size)); clear ho4 hb4))
  have HN5 := hide (HN4.out.alloc HN4.out.size (.cells #[.int .i64 (woP ep two3 [3]), .slice a4 (woL ep two3 [3]).length c4] 24))
  generalize w4.alloc (.cells #[.int .i64 (woP ep two3 [3]), .slice a4 (woL ep two3 [3]).length c4] 24) = X5 at HN5 ⊢
  obtain ⟨⟨y0, y1⟩, -⟩ := (HX3.out.below HN5.out).c2
  clear HN4 x0 x1 C10
  go_upto_region 5 with (go_at_call 12; go_must ((with_reducible refine (C12.out _ _ (HR3.out.below HN5.out)).mono ?_); rintro e w6 ⟨v6, rfl, ho6, hb6⟩; obtain ⟨a6, c6, rfl⟩ := ho6.open; have HN6 := hide (HN5.out.trans (hb6.mono HN5.out.size)); clear ho6 hb6))
  have HN7 := hide (HN6.out.alloc HN6.out.size (.cells #[.int .i64 (wiP ep two3 2 1), .slice a6 (wiL ep two3 2 1).length c6] 24))
  generalize w6.alloc (.cells #[.int .i64 (wiP ep two3 2 1), .slice a6 (wiL ep two3 2 1).length c6] 24) = X7 at HN7 ⊢
  obtain ⟨⟨z0, z1⟩, -⟩ := (HX3.out.below HN7.out).c2
  clear HN5 HN6 y0 y1 C12
  have HB7 := hide (HB3.out.trans (HN7.out.mono HB3.out.size))
  have HR7 := hide (HR3.out.below HN7.out)
  clear HR3 HB3 HN7 HX3
  rcases hc with ⟨h1, rfl, rfl⟩ | ⟨h1, rfl, rfl⟩ | ⟨h1, rfl, rfl⟩ | ⟨h1, h2, rfl, rfl⟩
  · go_wp2_with first
      | (go_at_call 17; go_must ((with_reducible refine (C17.out _ _).mono ?_); rintro e w8 ⟨rfl, hw8⟩; subst hw8))
      | (go_at_call 19; go_must ((with_reducible refine (C19.out _ _ HR7.out).mono ?_); rintro e w9 ⟨rfl, hb9⟩; have HB9 := hide (HB7.out.trans (hb9.mono HB7.out.size)); clear hb9))
    go_ret
    exact ⟨rfl, HB9.out⟩
  · have h2 : ¬ ep < 1 := by omega
    go_wp2_with first
      | (go_at_call 17; go_must ((with_reducible refine (C17.out _ _).mono ?_); rintro e w8 ⟨rfl, hw8⟩; subst hw8))
      | (go_at_call 19; go_must ((with_reducible refine (C19.out _ _ HR7.out).mono ?_); rintro e w9 ⟨rfl, hb9⟩; have HB9 := hide (HB7.out.trans (hb9.mono HB7.out.size)); clear hb9))
    go_ret
    exact ⟨rfl, HB9.out⟩
  · subst h1
    go_wp2_with first
      | (go_at_call 17; go_must ((with_reducible refine (C17.out _ _).mono ?_); rintro e w8 ⟨rfl, hw8⟩; subst hw8))
      | (go_at_call 19; go_must ((with_reducible refine (C19.out _ _ HR7.out).mono ?_); rintro e w9 ⟨rfl, hb9⟩; have HB9 := hide (HB7.out.trans (hb9.mono HB7.out.size)); clear hb9))
    go_ret
    exact ⟨rfl, HB9.out⟩
  · have j1 : ¬ ep < 1 := by omega
    have j2 : ¬ 2147483647 < ep := by omega
    have j3 : (ep == 2147483647) = false := by rw [beq_eq_false_iff_ne]; omega
    clear h1 h2
    go_wp2_with first
      | (go_at_call 17; go_must ((with_reducible refine (C17.out _ _).mono ?_); rintro e w8 ⟨rfl, hw8⟩; subst hw8))
      | (go_at_call 19; go_must ((with_reducible refine (C19.out _ _ HR7.out).mono ?_); rintro e w9 ⟨rfl, hb9⟩; have HB9 := hide (HB7.out.trans (hb9.mono HB7.out.size)); clear hb9))
    go_ret
    exact ⟨rfl, HB9.out⟩
theorem last_any (ep : Int) (w : World) : Calls Try.prog 7 #[.int .i64 ep] w fun e w' => e = .returned (.bool true) ∧ Below w.heap.size w w' := by
  by_cases h1 : ep < 1
  · have ho : okN ep = false := by simp [okN]; omega
    exact last_walk ep 1 false w (by rw [two_wo, ho]; rfl) (by rw [two_wi, ho]; rfl) (by rw [two_may, ho]) (.inl ⟨h1, rfl, rfl⟩)
  · by_cases h2 : 2147483647 < ep
    · have ho : okN ep = false := by simp [okN]; omega
      exact last_walk ep 1 false w (by rw [two_wo, ho]; rfl) (by rw [two_wi, ho]; rfl) (by rw [two_may, ho]) (.inr (.inl ⟨h2, rfl, rfl⟩))
    · have ho : okN ep = true := by simp [okN]; omega
      by_cases h3 : ep = 2147483647
      · exact last_walk ep 16 true w (by rw [two_wo, ho, if_pos rfl, if_pos h3]) (by rw [two_wi, ho, if_pos rfl, if_pos h3]) (by rw [two_may, ho]) (.inr (.inr (.inl ⟨h3, rfl, rfl⟩)))
      · exact last_walk ep 0 true w (by rw [two_wo, ho, if_pos rfl, if_neg h3]) (by rw [two_wi, ho, if_pos rfl, if_neg h3]) (by rw [two_may, ho]) (.inr (.inr (.inr ⟨by omega, by omega, rfl, rfl⟩)))
namespace viewLast
theorem walk (ep : Int) (w : World) (_h : -9223372036854775808 ≤ ep ∧ ep ≤ 9223372036854775807) : Calls Try.prog 7 #[.int .i64 ep] w fun e w' => e = .returned (.bool true) ∧ Below w.heap.size w w' := last_any ep w
end viewLast
end Go.Proofs.Ythjkfpcbbjmclaa
