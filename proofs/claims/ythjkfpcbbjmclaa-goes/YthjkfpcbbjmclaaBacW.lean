/- ViewBack's walk. -/
import Derived.Test.YthjkfpcbbjmclaaLasW
import Derived.Test.YthjkfpcbbjmclaaNws
import Derived.Test.YthjkfpcbbjmclaaSam
namespace Go.Proofs.Ythjkfpcbbjmclaa
open Go.RowKit Go.ChangeShapes Go.WideShapes Go.ChangeAt Go.Deep

theorem back_wo (n k : Nat) (h1 : 1 ≤ k) (h : k < n) (hn : n ≤ 16) : woE 1 (fiL n) [(k : Int), (k : Int)] = 0 ∧ woP 1 (fiL n) [(k : Int), (k : Int)] = 2 ∧ woL 1 (fiL n) [(k : Int), (k : Int)] = fiL k ++ BB n k := by
  have hm : mayV 1 (fiL n) = true := fiL_may (by omega) hn rfl
  have hi : inV (fiL n) (k : Int) = true := by rw [inV_fiL]; simpa using h
  have he : woE 1 (fiL n) [(k : Int), (k : Int)] = 0 := by
    have ho : outOk (fiL n) [(k : Int), (k : Int)] = true := by
      simp [outOk, hi]; omega
    unfold woE
    rw [hm, ho]; rfl
  refine ⟨he, by unfold woP; rw [he]; rfl, ?_⟩
  unfold woL
  rw [he, if_pos rfl, filter_mem2, filter_cut n k h]
theorem back_wi (n k : Nat) (lf : Int) (h1 : 1 ≤ k) (h : k < n) (hn : n ≤ 16) (hl : 1 ≤ lf ∧ lf ≤ 2147483647) : wiE 2 (fiL k ++ BB n k) (k : Int) lf = 0 ∧ wiP 2 (fiL k ++ BB n k) (k : Int) lf = 3 ∧ wiL 2 (fiL k ++ BB n k) (k : Int) lf = fiL k ++ ((k : Int), lf) :: BB n k := by
  have hok : okM ((k : Int), lf) = true := (okM_iff _).2 (by simp only; omega)
  have he : wiE 2 (fiL k ++ BB n k) (k : Int) lf = 0 := by
    unfold wiE
    rw [cut_may n k 2 h1 h hn rfl, hok, cut_in]; rfl
  exact ⟨he, by unfold wiP; rw [he]; rfl, by unfold wiL; rw [he, if_pos rfl, ins_cut]⟩
theorem back_wi2 (n k : Nat) (lf : Int) : wiE 3 (fiL k ++ ((k : Int), lf) :: BB n k) (k : Int) lf = 1 ∧ wiP 3 (fiL k ++ ((k : Int), lf) :: BB n k) (k : Int) lf = 0 ∧ wiL 3 (fiL k ++ ((k : Int), lf) :: BB n k) (k : Int) lf = [] := by
  have he : wiE 3 (fiL k ++ ((k : Int), lf) :: BB n k) (k : Int) lf = 1 := by
    unfold wiE
    rw [back_in]; simp
  exact ⟨he, by unfold wiP; rw [he]; rfl, by unfold wiL; rw [he]; rfl⟩
theorem view_post {w w' : World} {p er : Int} {l : List Mb} {e : Ending} {n : Nat} (hn : l.length = n) (h : VwPost w p er l e w') : ∃ a c, e = .returned (.tuple #[.agg #[.int .i64 p, .slice a n c], .int .i64 er]) ∧ (a = none → n = 0 ∧ c = 0) ∧ n ≤ c ∧ c ≤ maxLen ∧ Reads w' a (mV l) ∧ Below w.heap.size w w' := by
  obtain ⟨v, rfl, ho, hb⟩ := h
  rw [hn] at ho
  obtain ⟨a, c, rfl, h1, h2, h3, h4, _⟩ := ho.form
  exact ⟨a, c, rfl, h3, h1, h2, h4, hb⟩
/-- The same, as a contract. -/
theorem view_calls {f : Nat} {args : Array Value} {w : World} {p er : Int} {l : List Mb} {n : Nat} (h : Calls Try.prog f args w (VwPost w p er l)) (hn : l.length = n) :
    Calls Try.prog f args w fun e w' => ∃ a c, e = .returned (.tuple #[.agg #[.int .i64 p, .slice a n c], .int .i64 er]) ∧ Hid (a = none → n = 0 ∧ c = 0) ∧ Hid (n ≤ c ∧ c ≤ maxLen) ∧ Hid (Reads w' a (mV l)) ∧ Hid (Below w.heap.size w w') := by
  refine h.mono ?_
  intro e w' hp
  obtain ⟨a, c, h1, h2, h3, h4, h5, h6⟩ := view_post hn hp
  exact ⟨a, c, h1, hide h2, hide ⟨h3, h4⟩, hide h5, hide h6⟩

set_option linter.unusedSimpArgs false in
set_option maxRecDepth 100000 in
set_option maxHeartbeats 8000000 in
theorem back_walk (n k : Nat) (lf : Int) (w : World) (h2 : 2 ≤ n) (hn : n ≤ 16) (h1 : 1 ≤ k) (h : k < n) (hl : 2 ≤ lf ∧ lf ≤ 2147483647) :
    Calls Try.prog 6 #[.int .i64 (n : Nat), .int .i64 (k : Nat), .int .i64 lf] w fun e w' => e = .returned (.bool true) ∧ Below w.heap.size w w' := by
  have C8 := hide (alive_any w)
  obtain ⟨e1, e2, e3⟩ := fi_yes (n := (n : Int)) (by omega)
  rw [Int.toNat_natCast] at e3
  have C14 := hide (fun X => by have := first_any (n : Int) X; rw [e1, e2, e3] at this; exact view_calls this (fiL_len n))
  obtain ⟨o1, o2, o3⟩ := back_wo n k h1 h hn
  have C10 := hide (fun a c X (hr : Reads X a (mV (fiL n))) (hnil : a = none → n = 0 ∧ c = 0) g (hs : Reads X (some ⟨g, 0, none⟩) (iV [(k : Int), (k : Int)])) => by have := without_any 1 (fiL n) [(k : Int), (k : Int)] a n c (some ⟨g, 0, none⟩) 2 2 X (fiL_len n) (by omega) hr hnil rfl (by omega) hs; rw [o1, o2, o3] at this; exact view_calls this (cut_len n k h))
  obtain ⟨i1, i2, i3⟩ := back_wi n k lf h1 h hn (by omega)
  have C12 := hide (fun a c X (hr : Reads X a (mV (fiL k ++ BB n k))) (hnil : a = none → n - 1 = 0 ∧ c = 0) => by have := with_any 2 (fiL k ++ BB n k) (k : Int) lf a (n - 1) c X (cut_len n k h) (by omega) hr hnil; rw [i1, i2, i3] at this; exact view_calls this (back_len n k lf h))
  obtain ⟨j1, j2, j3⟩ := back_wi2 n k lf
  have C12b := hide (fun a c X (hr : Reads X a (mV (fiL k ++ ((k : Int), lf) :: BB n k))) (hnil : a = none → n = 0 ∧ c = 0) => by have := with_any 3 (fiL k ++ ((k : Int), lf) :: BB n k) (k : Int) lf a n c X (back_len n k lf h) (by omega) hr hnil; rw [j1, j2, j3] at this; exact view_calls this (n := 0) rfl)
  have C17 := hide (fun x X => num_any x X)
  have HF1 := hide (show fenV 3 (fiL k ++ ((k : Int), lf) :: BB n k) 3 (k : Int) 1 = true by unfold fenV; rw [back_not n k lf hl.1]; rfl)
  have HF2 := hide (show fenV 3 (fiL k ++ ((k : Int), lf) :: BB n k) 3 (k : Int) lf = false by unfold fenV; rw [back_has]; rfl)
  have C22a := hide (fun a c X (hr : Reads X a (mV (fiL k ++ ((k : Int), lf) :: BB n k))) => by have := fenced_any 3 (fiL k ++ ((k : Int), lf) :: BB n k) 3 (k : Int) 1 a n c X (back_len n k lf h) (by omega) hr; rw [HF1.out] at this; exact this)
  have C22b := hide (fun a c X (hr : Reads X a (mV (fiL k ++ ((k : Int), lf) :: BB n k))) => by have := fenced_any 3 (fiL k ++ ((k : Int), lf) :: BB n k) 3 (k : Int) lf a n c X (back_len n k lf h) (by omega) hr; rw [HF2.out] at this; exact this)
  have C19 := hide (fun a c X (hr : Reads X a (mV (fiL k ++ ((k : Int), lf) :: BB n k))) => by have := may_any 3 (fiL k ++ ((k : Int), lf) :: BB n k) a n c X (back_len n k lf h) (by omega) hr; rw [back_may n k lf 3 h1 h hn (by omega) rfl] at this; exact this)
  have HAT := hide (back_at n k lf)
  have q1 : ¬ (n : Int) < 2 := by omega
  have q2 : ¬ (16 : Int) < (n : Int) := by omega
  have q3 : ¬ (k : Int) < 1 := by omega
  have q4 : ¬ (n : Int) ≤ (k : Int) := by omega
  have q5 : ¬ lf < 2 := by omega
  have q6 : ¬ 2147483647 < lf := by omega
  clear e1 e2 e3 o1 o2 o3 i1 i2 i3 j1 j2 j3 HF1 HF2
  go_enter Try.func6, Try.ntmps6
  go_upto_region 5 with first
    | (go_at_call 8; go_must ((with_reducible refine C8.out.mono ?_); rintro e w1 ⟨rfl, hb1⟩; have HB1 := hide hb1; clear hb1))
    | (go_at_call 14; go_must ((with_reducible refine (C14.out _).mono ?_); rintro e w2 ⟨a2, c2, rfl, HN2, HC2, HR2, HB2⟩))
  have HX5 := hide (BoxL.new w2 [.int .i64 1, .slice a2 n c2] 24)
  have HB5 := hide (HB1.out.trans ((HB2.out.trans ((below_new w2 (.cells #[.int .i64 1, .slice a2 n c2] 24)).mono HB2.out.size)).mono HB1.out.size))
  have HR5 := hide (HR2.out.below (below_new w2 (.cells #[.int .i64 1, .slice a2 n c2] 24)))
  generalize w2.alloc (.cells #[.int .i64 1, .slice a2 n c2] 24) = X5 at HX5 HB5 HR5 ⊢
  generalize w2.heap.size = g5 at HX5 ⊢
  obtain ⟨⟨x0, x1⟩, -⟩ := HX5.out.c2
  clear HR2 HB2 HB1 C8 C14
  go_upto_region 6 with (go_at_call 10; go_must ((with_reducible refine (C10.out _ _ _ (HR5.out.below (below_new X5 (.cells #[.int .i64 (k : Nat), .int .i64 (k : Nat)] 3))) HN2.out _ (reads_i2 X5 k k)).mono ?_); rintro e w6 ⟨a6, c6, rfl, HN6, HC6, HR6, hb6⟩; have HB6 := hide ((below_new X5 (.cells #[.int .i64 (k : Nat), .int .i64 (k : Nat)] 3)).trans (hb6.out.mono (below_new X5 (.cells #[.int .i64 (k : Nat), .int .i64 (k : Nat)] 3)).size)); clear hb6))
  have HX6 := hide (BoxL.new w6 [.int .i64 2, .slice a6 (n - 1) c6] 24)
  have HB6' := hide (HB6.out.trans ((below_new w6 (.cells #[.int .i64 2, .slice a6 (n - 1) c6] 24)).mono HB6.out.size))
  have HR6' := hide (HR6.out.below (below_new w6 (.cells #[.int .i64 2, .slice a6 (n - 1) c6] 24)))
  generalize w6.alloc (.cells #[.int .i64 2, .slice a6 (n - 1) c6] 24) = X6 at HX6 HB6' HR6' ⊢
  generalize w6.heap.size = g6 at HX6 ⊢
  obtain ⟨⟨y0, y1⟩, -⟩ := HX6.out.c2
  clear HB6 HR6 x0 x1 C10
  go_upto_region 7 with (go_at_call 12; go_must ((with_reducible refine (C12.out _ _ _ HR6'.out HN6.out).mono ?_); rintro e w7 ⟨a7, c7, rfl, HN7, HC7, HR7, HB7⟩))
  have HX7 := hide (BoxL.new w7 [.int .i64 3, .slice a7 n c7] 24)
  have HB7' := hide (HB7.out.trans ((below_new w7 (.cells #[.int .i64 3, .slice a7 n c7] 24)).mono HB7.out.size))
  have HR7' := hide (HR7.out.below (below_new w7 (.cells #[.int .i64 3, .slice a7 n c7] 24)))
  generalize w7.alloc (.cells #[.int .i64 3, .slice a7 n c7] 24) = X7 at HX7 HB7' HR7' ⊢
  generalize w7.heap.size = g7 at HX7 ⊢
  obtain ⟨⟨z0, z1⟩, -⟩ := HX7.out.c2
  clear HB7 HR7 y0 y1 C12
  go_upto_region 8 with (go_at_call 12; go_must ((with_reducible refine (C12b.out _ _ _ HR7'.out HN7.out).mono ?_); rintro e w8 ⟨a8, c8, rfl, HN8, -, -, HB8⟩))
  have HB8' := hide (HB8.out.alloc HB8.out.size (.cells #[.int .i64 0, .slice a8 0 c8] 24))
  generalize w8.alloc (.cells #[.int .i64 0, .slice a8 0 c8] 24) = X8 at HB8' ⊢
  clear HB8 z0 z1 C12b HN8
  have HB68 := hide (HB7'.out.trans (HB8'.out.mono HB7'.out.size))
  have HB58 := hide (HB6'.out.trans (HB68.out.mono HB6'.out.size))
  have HBW := hide (HB5.out.trans (HB58.out.mono HB5.out.size))
  have HCE := hide (show ∀ W, Below X8.heap.size X8 W → (W.cell? ⟨g5, 0, none⟩ = some (.int .i64 1) ∧ W.cell? ⟨g5, 1, none⟩ = some (.slice a2 n c2)) ∧ (W.cell? ⟨g6, 0, none⟩ = some (.int .i64 2) ∧ W.cell? ⟨g6, 1, none⟩ = some (.slice a6 (n - 1) c6)) ∧ (W.cell? ⟨g7, 0, none⟩ = some (.int .i64 3) ∧ W.cell? ⟨g7, 1, none⟩ = some (.slice a7 n c7)) from fun W hW =>
    ⟨((HX5.out.below HB58.out).below hW).c2.1, ((HX6.out.below HB68.out).below hW).c2.1, ((HX7.out.below HB8'.out).below hW).c2.1⟩)
  have HR8 := hide (HR7'.out.below HB8'.out)
  have HR6v := hide (HR6'.out.below HB68.out)
  have HR5v := hide (HR5.out.below HB58.out)
  have C23 := hide (fun W (hW : Below X8.heap.size X8 W) g (hr : Reads W (some ⟨g, 0, none⟩) (vV [⟨1, a2, n, c2, fiL n⟩, ⟨3, a7, n, c7, fiL k ++ ((k : Int), lf) :: BB n k⟩, ⟨2, a6, n - 1, c6, fiL k ++ BB n k⟩])) => show Calls Try.prog 23 #[.slice (some ⟨g, 0, none⟩) 3 3] W (NwPost W ⟨3, a7, n, c7, fiL k ++ ((k : Int), lf) :: BB n k⟩) from
    newest_any [⟨1, a2, n, c2, fiL n⟩, ⟨3, a7, n, c7, fiL k ++ ((k : Int), lf) :: BB n k⟩, ⟨2, a6, n - 1, c6, fiL k ++ BB n k⟩] (some ⟨g, 0, none⟩) 3 3 W rfl (by omega) (by omega) hr (fun x hx => by
      simp only [List.mem_cons, List.not_mem_nil, or_false] at hx
      rcases hx with rfl | rfl | rfl
      · exact ⟨⟨fiL_len n, HC2.out, HN2.out, HR5v.out.below hW⟩, by simp only; omega⟩
      · exact ⟨⟨back_len n k lf h, HC7.out, HN7.out, HR8.out.below hW⟩, by simp only; omega⟩
      · exact ⟨⟨cut_len n k h, HC6.out, HN6.out, HR6v.out.below hW⟩, by simp only; omega⟩))
  have HRV := hide (fun W : World => show Reads (W.alloc (.cells #[.int .i64 1, .slice a2 n c2, .int .i64 3, .slice a7 n c7, .int .i64 2, .slice a6 (n - 1) c6] 24)) (some ⟨W.heap.size, 0, none⟩) (vV [⟨1, a2, n, c2, fiL n⟩, ⟨3, a7, n, c7, fiL k ++ ((k : Int), lf) :: BB n k⟩, ⟨2, a6, n - 1, c6, fiL k ++ BB n k⟩]) from reads_new W (vV [⟨1, a2, n, c2, fiL n⟩, ⟨3, a7, n, c7, fiL k ++ ((k : Int), lf) :: BB n k⟩, ⟨2, a6, n - 1, c6, fiL k ++ BB n k⟩]) 24)
  have HLN := hide (back_len n k lf h)
  have hkl : k < (fiL k ++ ((k : Int), lf) :: BB n k).length := by rw [HLN.out]; exact h
  obtain ⟨gm, om, har, -, m1⟩ := mem_at HR8.out hkl
  subst har
  have HEL := hide (show (fiL k ++ ((k : Int), lf) :: BB n k)[k] = ((k : Int), lf) from by
    have := HAT.out
    rw [List.getElem?_eq_getElem hkl] at this
    exact Option.some.inj this)
  rw [HEL.out] at m1
  have C18 := hide (fun a c W (ha : Reads W a (mV (fiL k ++ ((k : Int), lf) :: BB n k))) (hb : Reads W (some ⟨gm, om, none⟩) (mV (fiL k ++ ((k : Int), lf) :: BB n k))) => show Calls Try.prog 18 #[.agg #[.int .i64 3, .slice a n c], .agg #[.int .i64 3, .slice (some ⟨gm, om, none⟩) n c7]] W fun e w' => e = .returned (.bool true) ∧ Below W.heap.size W w' from by
    have := sameView_any 3 3 (fiL k ++ ((k : Int), lf) :: BB n k) (fiL k ++ ((k : Int), lf) :: BB n k) a (some ⟨gm, om, none⟩) n c n c7 W HLN.out HLN.out (by omega) ha hb
    simpa using this)
  clear HAT HEL hkl
  generalize fiL k ++ ((k : Int), lf) :: BB n k = L at C22a C22b C19 HR8 C23 HRV C18 HLN
  generalize fiL k ++ BB n k = M at C23 HRV
  generalize fiL n = N at C23 HRV
  clear HX5 HX6 HX7 HB5 HB6' HB7' HB8' HB68 HB58 HR5 HR6' HR7' HR5v HR6v HN2 HN6 HN7 HC2 HC6 HC7
  have hkn : (k : Int) < (n : Int) := by omega
  have HK := hide (show ∀ W, Below X8.heap.size X8 W → W.cell? ⟨g5, 0, none⟩ = some (.int .i64 1) ∧ W.cell? ⟨g5, 1, none⟩ = some (.slice a2 n c2) ∧ W.cell? ⟨g6, 0, none⟩ = some (.int .i64 2) ∧ W.cell? ⟨g6, 1, none⟩ = some (.slice a6 (n - 1) c6) ∧ W.cell? ⟨g7, 0, none⟩ = some (.int .i64 3) ∧ W.cell? ⟨g7, 1, none⟩ = some (.slice (some ⟨gm, om, none⟩) n c7) ∧ W.cell? ⟨gm, om + k * 2 + 1, none⟩ = some (.int .i64 lf) from fun W hW => by
    obtain ⟨⟨x0, x1⟩, ⟨y0, y1⟩, z0, z1⟩ := HCE.out W hW
    exact ⟨x0, x1, y0, y1, z0, z1, keep_cell m1 hW⟩)
  have HQ : Below X8.heap.size X8 X8.drew := (Below.refl _ _).drew
  clear HCE m1
  go_region_held3 (fun W => W.cell? ⟨g5, 0, none⟩ = some (.int .i64 1) ∧ W.cell? ⟨g5, 1, none⟩ = some (.slice a2 n c2) ∧ W.cell? ⟨g6, 0, none⟩ = some (.int .i64 2) ∧ W.cell? ⟨g6, 1, none⟩ = some (.slice a6 (n - 1) c6) ∧ W.cell? ⟨g7, 0, none⟩ = some (.int .i64 3) ∧ W.cell? ⟨g7, 1, none⟩ = some (.slice (some ⟨gm, om, none⟩) n c7) ∧ W.cell? ⟨gm, om + k * 2 + 1, none⟩ = some (.int .i64 lf)) (first | exact HK.out _ HQ | exact HK.out _ (HQ.alloc HQ.size _))
    (first
      | (go_at_call 17; (with_reducible refine (C17.out _ _).mono ?_); rintro e w9 ⟨rfl, hw9⟩; subst hw9)
      | (go_at_call 18; (with_reducible refine (C18.out _ _ _ HO5.out (HR8.out.below HQ)).mono ?_); rintro e w10 ⟨rfl, hb⟩; have HQ := HQ.trans (hb.mono HQ.size); clear hb)
      | (go_at_call 23; (with_reducible refine (C23.out _ (HQ.alloc HQ.size (.cells #[.int .i64 1, .slice a2 n c2, .int .i64 3, .slice (some ⟨gm, om, none⟩) n c7, .int .i64 2, .slice a6 (n - 1) c6] 24)) _ (HRV.out _)).mono ?_); rintro e w10 ⟨v, rfl, ho, hb⟩; obtain ⟨a11, c11, rfl, -, -, -, hr11, -⟩ := (show Own _ _ v n L by have h1 : Own _ _ v L.length L := ho; rw [HLN.out] at h1; exact h1).form; have HO5 := hide hr11; have HQ := (HQ.alloc HQ.size (.cells #[.int .i64 1, .slice a2 n c2, .int .i64 3, .slice (some ⟨gm, om, none⟩) n c7, .int .i64 2, .slice a6 (n - 1) c6] 24)).trans (hb.mono (HQ.alloc HQ.size (.cells #[.int .i64 1, .slice a2 n c2, .int .i64 3, .slice (some ⟨gm, om, none⟩) n c7, .int .i64 2, .slice a6 (n - 1) c6] 24)).size); clear hb ho hr11)
      | (go_at_call 19; (with_reducible refine (C19.out _ _ _ (HR8.out.below HQ)).mono ?_); rintro e w10 ⟨rfl, hb⟩; have HQ := HQ.trans (hb.mono HQ.size); clear hb)
      | (go_at_call 22; (with_reducible refine (C22b.out _ _ _ (HR8.out.below HQ)).mono ?_); rintro e w10 ⟨rfl, hb⟩; have HQ := HQ.trans (hb.mono HQ.size); clear hb)
      | (go_at_call 22; (with_reducible refine (C22a.out _ _ _ (HR8.out.below HQ)).mono ?_); rintro e w10 ⟨rfl, hb⟩; have HQ := HQ.trans (hb.mono HQ.size); clear hb))
  all_goals
    have HQE := hide HQ
    clear HQ
    go_wp2
    go_ret
    exact ⟨rfl, HBW.out.trans (HQE.out.mono HBW.out.size)⟩
end Go.Proofs.Ythjkfpcbbjmclaa
