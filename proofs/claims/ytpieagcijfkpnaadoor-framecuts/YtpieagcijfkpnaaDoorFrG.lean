/- gleanerref10.PackFrame. -/
import Derived.Test.YtpieagcijfkpnaaDoorFrE
import Derived.Test.YtpieagcijfkpnaaDoorRefB
import Derived.Lib.SlBytesConst
namespace Go.Proofs.YtpieagcijfkpnaaDoor
open Go.RowKit Go.ChangeShapes Go.WideShapes Go.ChangeAt Go.Deep

set_option maxRecDepth 100000 in
set_option maxHeartbeats 2000000 in
theorem rpack_no (f : Fr) (a : Option Addr) (l c : Nat) (w : World) (hl : f.load.length = l) (hlen : l ≤ 9223372036854775807) (hw : wrongL f ≠ 0) :
    Calls Tryd.prog 10 #[f.val a l c] w fun e w' => e = .returned (.tuple #[.slice none 0 0, .int .i64 (wrongL f : Nat)]) ∧ Below w.heap.size w w' := by
  obtain ⟨f1, f2, f3, f4, f5, ld⟩ := f
  simp only at hl
  have HW := hide (show wrongL ⟨f1, f2, f3, f4, f5, ld⟩ = if (okN 15 f1 && okN 15 f2 && okN 2147483647 f3 && okN 2147483647 f4 && okN 2147483647 f5) = true then (if 4096 < l then 3 else 0) else 1 by
    simp only [wrongL, Fr.ok, hl])
  simp only [Fr.val]
  have C1 := hide (fun W => node_any f1 W)
  have C2 := hide (fun W => node_any f2 W)
  have C3 := hide (fun W => rnum_any f3 W)
  have C4 := hide (fun W => rnum_any f4 W)
  have C5 := hide (fun W => rnum_any f5 W)
  generalize okN 15 f1 = A1 at HW C1
  generalize okN 15 f2 = A2 at HW C2
  generalize okN 2147483647 f3 = A3 at HW C3
  generalize okN 2147483647 f4 = A4 at HW C4
  generalize okN 2147483647 f5 = A5 at HW C5
  have HB1 := hide (show ∀ (o : Obj), Below w.heap.size w (w.alloc o) from fun o => (Below.refl _ _).alloc (Nat.le_refl _) _)
  cases A1 with
  | false =>
    go_enter Tryd.func10, Tryd.ntmps10
    go_wp2_with (first | (go_at_call 19; go_must ((with_reducible refine (C1.out _).mono ?_); rintro e w1 ⟨rfl, rfl⟩)))
    go_ret2
    exact ⟨by rw [HW.out]; rfl, HB1.out _⟩
  | true =>
  cases A2 with
  | false =>
    go_enter Tryd.func10, Tryd.ntmps10
    go_wp2_with (first | (go_at_call 19; first | ((with_reducible refine (C1.out _).mono ?_); rintro e w1 ⟨rfl, rfl⟩) | (go_must ((with_reducible refine (C2.out _).mono ?_); rintro e w1 ⟨rfl, rfl⟩))))
    go_ret2
    exact ⟨by rw [HW.out]; rfl, HB1.out _⟩
  | true =>
  cases A3 with
  | false =>
    go_enter Tryd.func10, Tryd.ntmps10
    go_wp2_with (first | (go_at_call 19; first | ((with_reducible refine (C1.out _).mono ?_); rintro e w1 ⟨rfl, rfl⟩) | (go_must ((with_reducible refine (C2.out _).mono ?_); rintro e w1 ⟨rfl, rfl⟩))) | (go_at_call 20; first | ((with_reducible refine (C3.out _).mono ?_); rintro e w1 ⟨rfl, rfl⟩) | ((with_reducible refine (C4.out _).mono ?_); rintro e w1 ⟨rfl, rfl⟩) | (go_must ((with_reducible refine (C5.out _).mono ?_); rintro e w1 ⟨rfl, rfl⟩))))
    go_ret2
    exact ⟨by rw [HW.out]; rfl, HB1.out _⟩
  | true =>
  cases A4 with
  | false =>
    go_enter Tryd.func10, Tryd.ntmps10
    go_wp2_with (first | (go_at_call 19; first | ((with_reducible refine (C1.out _).mono ?_); rintro e w1 ⟨rfl, rfl⟩) | (go_must ((with_reducible refine (C2.out _).mono ?_); rintro e w1 ⟨rfl, rfl⟩))) | (go_at_call 20; first | ((with_reducible refine (C3.out _).mono ?_); rintro e w1 ⟨rfl, rfl⟩) | ((with_reducible refine (C4.out _).mono ?_); rintro e w1 ⟨rfl, rfl⟩) | (go_must ((with_reducible refine (C5.out _).mono ?_); rintro e w1 ⟨rfl, rfl⟩))))
    go_ret2
    exact ⟨by rw [HW.out]; rfl, HB1.out _⟩
  | true =>
  cases A5 with
  | false =>
    go_enter Tryd.func10, Tryd.ntmps10
    go_wp2_with (first | (go_at_call 19; first | ((with_reducible refine (C1.out _).mono ?_); rintro e w1 ⟨rfl, rfl⟩) | (go_must ((with_reducible refine (C2.out _).mono ?_); rintro e w1 ⟨rfl, rfl⟩))) | (go_at_call 20; first | ((with_reducible refine (C3.out _).mono ?_); rintro e w1 ⟨rfl, rfl⟩) | ((with_reducible refine (C4.out _).mono ?_); rintro e w1 ⟨rfl, rfl⟩) | (go_must ((with_reducible refine (C5.out _).mono ?_); rintro e w1 ⟨rfl, rfl⟩))))
    go_ret2
    exact ⟨by rw [HW.out]; rfl, HB1.out _⟩
  | true =>
    have h4 : 4096 < l := by
      rcases Nat.lt_or_ge 4096 l with h | h
      · exact h
      · exact absurd (by rw [HW.out]; simp; omega) hw
    have HW3 := hide (show wrongL ⟨f1, f2, f3, f4, f5, ld⟩ = 3 by rw [HW.out]; simp [h4])
    go_enter Tryd.func10, Tryd.ntmps10
    go_wp2_with (first | (go_at_call 19; first | ((with_reducible refine (C1.out _).mono ?_); rintro e w1 ⟨rfl, rfl⟩) | (go_must ((with_reducible refine (C2.out _).mono ?_); rintro e w1 ⟨rfl, rfl⟩))) | (go_at_call 20; first | ((with_reducible refine (C3.out _).mono ?_); rintro e w1 ⟨rfl, rfl⟩) | ((with_reducible refine (C4.out _).mono ?_); rintro e w1 ⟨rfl, rfl⟩) | (go_must ((with_reducible refine (C5.out _).mono ?_); rintro e w1 ⟨rfl, rfl⟩))))
    go_ret2
    exact ⟨by rw [HW3.out]; rfl, HB1.out _⟩

theorem cell_frozen (W : World) (x : Value) (fz : Nat × Nat) (t : TypeId) : (W.alloc (.cells #[x] t fz)).cell? ⟨W.heap.size, 0, none⟩ = some x := by
  simp only [World.cell?, World.alloc, Array.getElem?_push_size]
  rfl

theorem reads_mark (W : World) (fz : Nat × Nat) : Reads (W.alloc (.cells #[.int .u8 70] 5 fz)) (some ⟨W.heap.size, 0, none⟩) (bV [70]) := by
  refine .inr ⟨_, _, rfl, fun j u hu => ?_⟩
  cases j with
  | zero => simp [bV] at hu; rw [← hu]; exact cell_frozen W _ fz 5
  | succ j => simp [bV] at hu

/-- Five numbers behind the mark, by the document. -/
theorem rints (f1 f2 f3 f4 f5 : Int) (hi : In64 [f1, f2, f3, f4, f5]) (W : World) (g g' : Nat) (fz : Nat × Nat) (hg : g = W.heap.size) (hg' : g' = W.heap.size + 1) :
    Calls Tryd.prog 21 #[.slice (some ⟨g, 0, none⟩) 1 1, .slice (some ⟨g', 0, none⟩) 5 5] ((W.alloc (.cells #[.int .u8 70] 5 fz)).alloc (.cells #[.int .i64 f1, .int .i64 f2, .int .i64 f3, .int .i64 f4, .int .i64 f5] 3)) fun e w' =>
      ∃ q cap m, e = .returned (.slice (some ⟨q, 0, none⟩) m cap) ∧ Hid ((70 :: encs [f1, f2, f3, f4, f5]).length = m) ∧ Hid (Reads w' (some ⟨q, 0, none⟩) (bV (70 :: encs [f1, f2, f3, f4, f5]))) ∧ Below W.heap.size W w' := by
  subst hg; subst hg'
  have hb : Below W.heap.size W ((W.alloc (.cells #[.int .u8 70] 5 fz)).alloc (.cells #[.int .i64 f1, .int .i64 f2, .int .i64 f3, .int .i64 f4, .int .i64 f5] 3)) := ((Below.refl _ _).alloc (Nat.le_refl _) _).alloc (by simp) _
  have h1 : Reads ((W.alloc (.cells #[.int .u8 70] 5 fz)).alloc (.cells #[.int .i64 f1, .int .i64 f2, .int .i64 f3, .int .i64 f4, .int .i64 f5] 3)) (some ⟨W.heap.size, 0, none⟩) (bV [70]) :=
    (reads_mark W fz).below ((Below.refl _ _).alloc (Nat.le_refl _) _)
  refine (refInt_any (some ⟨W.heap.size, 0, none⟩) 1 1 [70] _ rfl h1 (fun h => by cases h) (by omega) (some ⟨W.heap.size + 1, 0, none⟩) 5 5 [f1, f2, f3, f4, f5] rfl (by omega) hi (reads_next W _ (iV [f1, f2, f3, f4, f5]) 3)).mono ?_
  rintro e w' ⟨v, rfl, ho, hb2⟩
  have hv : v ≠ .slice none 0 0 := by
    intro hv
    rcases ho.2 with ⟨_, hn⟩ | ⟨g, cap, cur, e, _⟩
    · simp at hn
    · rw [hv] at e; simp at e
  obtain ⟨q, cap, m, rfl, hm, _, _, _, hr⟩ := reads_own' ho hv
  exact ⟨q, cap, m, rfl, hm, hr, hb.trans (hb2.mono (by simp; omega))⟩

/-- A load behind them, by the document. -/
theorem rload (Z ld : List Nat) (q0 m0 c0 : Nat) (a : Option Addr) (l c : Nat) (W : World) (g : Nat) (hg : g = W.heap.size) (hZ : Z.length = m0) (h0 : 0 < m0) (hr : Reads W (some ⟨q0, 0, none⟩) (bV Z)) (hm : m0 ≤ 100000000) (hok : Txt.ok W ⟨a, l, c, ld⟩) (hl : l ≤ 100000000) :
    Calls Tryd.prog 23 #[.slice (some ⟨q0, 0, none⟩) m0 c0, .slice (some ⟨g, 0, none⟩) 1 1] (W.alloc (.cells #[.slice a l c] 22)) fun e w' =>
      ∃ b off cap m, e = .returned (.slice (some ⟨b, off, none⟩) m cap) ∧ Hid ((Z ++ encT ld).length = m) ∧ Hid (Reads w' (some ⟨b, off, none⟩) (bV (Z ++ encT ld))) ∧ Below W.heap.size W w' := by
  subst hg
  have hb : Below W.heap.size W (W.alloc (.cells #[.slice a l c] 22)) := (Below.refl _ _).alloc (Nat.le_refl _) _
  have e1 : encTs [⟨a, l, c, ld⟩] = encT ld := by simp [encTs]
  have hl' : ld.length = l := hok.1
  have h10 := enc_len (foldN (ld.length : Int))
  refine (refBytes_any (some ⟨q0, 0, none⟩) m0 c0 Z _ hZ (hr.below hb) (fun h => by cases h) (some ⟨W.heap.size, 0, none⟩) 1 1 [⟨a, l, c, ld⟩] rfl (by intro y hy; simp at hy; subst hy; exact hok.below hb) (reads_new W (sV [⟨a, l, c, ld⟩]) 22) (by rw [e1]; simp only [encT, List.length_append]; omega) (by omega)).mono ?_
  rintro e w' ⟨a', m', cap', rfl, hm', hr', hb2⟩
  rw [e1] at hm' hr'
  obtain ⟨b, off, rfl⟩ : ∃ b off, a' = some ⟨b, off, none⟩ := by
    rcases hr' with h | ⟨b, off, e, _⟩
    · have := congrArg List.length h
      rw [bV_length, List.length_append, List.length_nil] at this
      omega
    · exact ⟨b, off, e⟩
  exact ⟨b, off, cap', m', rfl, hm', hr', hb.trans (hb2.mono (by simp))⟩

set_option maxRecDepth 100000 in
set_option maxHeartbeats 1000000 in
theorem rpack_yes (f : Fr) (a : Option Addr) (l c : Nat) (w : World) (hok : Txt.ok w ⟨a, l, c, f.load⟩) (hw : wrongL f = 0) :
    Calls Tryd.prog 10 #[f.val a l c] w fun e w' => ∃ v, e = .returned (.tuple #[v, .int .i64 0]) ∧ v ≠ .slice none 0 0 ∧ w'.ownsRow w.heap.size 5 1 v (sealL (bodyL f)).length (bV (sealL (bodyL f))) ∧ Below w.heap.size w w' := by
  have hl : f.load.length = l := hok.1
  obtain ⟨g1, g2, g3, g4, g5, h4096⟩ := wrong_nought hw
  have hi := in64_of hw
  have hBb := body_byt hw hok.2.1
  obtain ⟨f1, f2, f3, f4, f5, ld⟩ := f
  simp only [Fr.nums] at hi hok hl h4096 g1 g2 g3 g4 g5
  simp only [Fr.val]
  have C1 := hide (fun W => node_any f1 W)
  have C2 := hide (fun W => node_any f2 W)
  have C3 := hide (fun W => rnum_any f3 W)
  have C4 := hide (fun W => rnum_any f4 W)
  have C5 := hide (fun W => rnum_any f5 W)
  rw [show okN 15 f1 = true from (okN_iff _ _).2 g1] at C1
  rw [show okN 15 f2 = true from (okN_iff _ _).2 g2] at C2
  rw [show okN 2147483647 f3 = true from (okN_iff _ _).2 g3] at C3
  rw [show okN 2147483647 f4 = true from (okN_iff _ _).2 g4] at C4
  rw [show okN 2147483647 f5 = true from (okN_iff _ _).2 g5] at C5
  clear g1 g2 g3 g4 g5
  have h4 : ¬ 4096 < l := by omega
  have HBd := hide (show bodyL ⟨f1, f2, f3, f4, f5, ld⟩ = (70 :: encs [f1, f2, f3, f4, f5]) ++ encT ld from rfl)
  generalize bodyL ⟨f1, f2, f3, f4, f5, ld⟩ = Bd at HBd hBb ⊢
  have CI := hide (fun W g g' fz => rints f1 f2 f3 f4 f5 hi W g g' fz)
  have hel := encs_length [f1, f2, f3, f4, f5]
  have h10 := enc_len (foldN (ld.length : Int))
  have HZl := hide (show (70 :: encs [f1, f2, f3, f4, f5]).length ≤ 51 ∧ 0 < (70 :: encs [f1, f2, f3, f4, f5]).length by simp at hel ⊢; omega)
  have HBl := hide (show Bd.length ≤ 5000 by rw [HBd.out]; simp only [encT, List.length_append, List.length_cons, List.length_nil] at hel ⊢; omega)
  generalize (70 :: encs [f1, f2, f3, f4, f5]) = Z at CI HBd HZl
  have HOK := hide hok
  have HBX := hide (BoxF.new w f1 f2 f3 f4 f5 a l c)
  have hl1000 : l ≤ 100000000 := by omega
  have kc := Lib.run_convert_bytes_const (P := Tryd.prog) (w.alloc (.cells #[.int .i64 f1, .int .i64 f2, .int .i64 f3, .int .i64 f4, .int .i64 f5, .slice a l c] 24)) 22 5 #[.int .u8 70] 1 1 Tryd.underlying22 Tryd.underlying5
  rw [show (w.alloc (.cells #[.int .i64 f1, .int .i64 f2, .int .i64 f3, .int .i64 f4, .int .i64 f5, .slice a l c] 24)).heap.size = w.heap.size + 1 by simp] at kc
  have HWV := hide (show Below w.heap.size w (w.alloc (.cells #[.int .i64 f1, .int .i64 f2, .int .i64 f3, .int .i64 f4, .int .i64 f5, .slice a l c] 24)) from (Below.refl _ _).alloc (Nat.le_refl _) _)
  have HVs := hide (show (w.alloc (.cells #[.int .i64 f1, .int .i64 f2, .int .i64 f3, .int .i64 f4, .int .i64 f5, .slice a l c] 24)).heap.size = w.heap.size + 1 by simp)
  clear hok hel h10 hi hl
  go_enter Tryd.func10, Tryd.ntmps10
  go_wp2_with (first
    | (go_at_call 19; first | ((with_reducible refine (C1.out _).mono ?_); rintro e w1 ⟨rfl, rfl⟩) | (go_must ((with_reducible refine (C2.out _).mono ?_); rintro e w1 ⟨rfl, rfl⟩)))
    | (go_at_call 20; first | ((with_reducible refine (C3.out _).mono ?_); rintro e w1 ⟨rfl, rfl⟩) | ((with_reducible refine (C4.out _).mono ?_); rintro e w1 ⟨rfl, rfl⟩) | (go_must ((with_reducible refine (C5.out _).mono ?_); rintro e w1 ⟨rfl, rfl⟩)))
    | (go_at_call 21; go_must ((with_reducible refine (CI.out _ _ _ _ (by simp) (by simp)).mono ?_); rintro e w2 ⟨q2, c2, m2, rfl, hm2, hr2, hb2⟩; have hB2 : Below w.heap.size w w2 := HWV.out.trans (hb2.mono HWV.out.size); obtain ⟨-, -, -, -, -, j5⟩ := HBX.out.below hb2; have hm51 : m2 ≤ 51 := Nat.le_trans (Nat.le_of_eq hm2.out.symm) HZl.out.1; have hm0 : 0 < m2 := Nat.lt_of_lt_of_eq HZl.out.2 hm2.out))
    | (go_at_call 23; go_must ((with_reducible refine (rload Z ld _ m2 c2 a l c w2 _ rfl hm2.out hm0 hr2.out (by omega) (HOK.out.below hB2) hl1000).mono ?_); rintro e w3 ⟨b3, o3, c3, m3, rfl, hm3, hr3, hb3⟩; have hB3 := hB2.trans (hb3.mono hB2.size)))
    | (go_at_call 22; go_must ((with_reducible refine (sealed_any _ m3 c3 Bd w3 (by rw [HBd.out]; exact hm3.out) (by have := HBl.out; have h1 := hm3.out; rw [← HBd.out] at h1; omega) (fun h => by cases h) hBb (by rw [HBd.out]; exact hr3.out)).mono ?_); rintro e w4 ⟨v4, rfl, hv4, ho4, hb4⟩; have hB4 := hB3.trans (hb4.mono hB3.size))))
  go_ret2
  exact ⟨_, rfl, hv4, own_mono ho4 hB3.size, hB4⟩
end Go.Proofs.YtpieagcijfkpnaaDoor
