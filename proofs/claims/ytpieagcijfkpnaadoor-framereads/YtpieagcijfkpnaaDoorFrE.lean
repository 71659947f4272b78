/- frame.Pack. -/
import Derived.Test.YtpieagcijfkpnaaDoorFrA
import Derived.Test.YtpieagcijfkpnaaDoorFrC
namespace Go.Proofs.YtpieagcijfkpnaaDoor
open Go.RowKit Go.ChangeShapes Go.WideShapes Go.ChangeAt Go.Deep

theorem own_reads {w : World} {B g n cap : Nat} {xs : List Nat} (h : w.ownsRow B 5 1 (.slice (some ⟨g, 0, none⟩) n cap) n (bV xs)) : Reads w (some ⟨g, 0, none⟩) (bV xs) := by
  obtain ⟨g', cap', e, _, _, _, hr⟩ := reads_own h (by simp)
  simp only [Value.slice.injEq, Option.some.injEq, Addr.mk.injEq] at e
  obtain ⟨⟨rfl, _⟩, _⟩ := e
  exact hr

/-- A frame in a box. -/
def BoxF (w : World) (g : Nat) (f1 f2 f3 f4 f5 : Int) (a : Option Addr) (l c : Nat) : Prop :=
  w.cell? ⟨g, 0, none⟩ = some (.int .i64 f1) ∧ w.cell? ⟨g, 1, none⟩ = some (.int .i64 f2) ∧ w.cell? ⟨g, 2, none⟩ = some (.int .i64 f3) ∧ w.cell? ⟨g, 3, none⟩ = some (.int .i64 f4) ∧ w.cell? ⟨g, 4, none⟩ = some (.int .i64 f5) ∧ w.cell? ⟨g, 5, none⟩ = some (.slice a l c)

theorem BoxF.below {w w' : World} {g : Nat} {f1 f2 f3 f4 f5 : Int} {a : Option Addr} {l c : Nat} (h : BoxF w g f1 f2 f3 f4 f5 a l c) (hb : Below w.heap.size w w') : BoxF w' g f1 f2 f3 f4 f5 a l c :=
  ⟨keep_cell h.1 hb, keep_cell h.2.1 hb, keep_cell h.2.2.1 hb, keep_cell h.2.2.2.1 hb, keep_cell h.2.2.2.2.1 hb, keep_cell h.2.2.2.2.2 hb⟩

theorem BoxF.new (w : World) (f1 f2 f3 f4 f5 : Int) (a : Option Addr) (l c : Nat) : BoxF (w.alloc (.cells #[.int .i64 f1, .int .i64 f2, .int .i64 f3, .int .i64 f4, .int .i64 f5, .slice a l c] 24)) w.heap.size f1 f2 f3 f4 f5 a l c := by
  refine ⟨?_, ?_, ?_, ?_, ?_, ?_⟩ <;> (rw [World.cell?_alloc_at _ _ _ _ rfl]; rfl)

/-- Five numbers behind the mark. -/
theorem pints (f1 f2 f3 f4 f5 : Int) (hi : In64 [f1, f2, f3, f4, f5]) (W : World) (g g' : Nat) (hg : g = W.heap.size) (hg' : g' = W.heap.size + 1) :
    Calls Tryd.prog 16 #[.slice (some ⟨g, 0, none⟩) 1 1, .slice (some ⟨g', 0, none⟩) 5 5] ((W.alloc (.cells #[.int .u8 70] 5)).alloc (.cells #[.int .i64 f1, .int .i64 f2, .int .i64 f3, .int .i64 f4, .int .i64 f5] 3)) fun e w' =>
      ∃ q cap m, e = .returned (.slice (some ⟨q, 0, none⟩) m cap) ∧ Hid ((70 :: encs [f1, f2, f3, f4, f5]).length = m) ∧ Hid (Reads w' (some ⟨q, 0, none⟩) (bV (70 :: encs [f1, f2, f3, f4, f5]))) ∧ Below W.heap.size W w' := by
  subst hg; subst hg'
  have hb : Below W.heap.size W ((W.alloc (.cells #[.int .u8 70] 5)).alloc (.cells #[.int .i64 f1, .int .i64 f2, .int .i64 f3, .int .i64 f4, .int .i64 f5] 3)) := ((Below.refl _ _).alloc (Nat.le_refl _) _).alloc (by simp) _
  have h1 : Reads ((W.alloc (.cells #[.int .u8 70] 5)).alloc (.cells #[.int .i64 f1, .int .i64 f2, .int .i64 f3, .int .i64 f4, .int .i64 f5] 3)) (some ⟨W.heap.size, 0, none⟩) (bV [70]) :=
    (reads_new W (bV [70]) 5).below ((Below.refl _ _).alloc (Nat.le_refl _) _)
  refine (int_any (some ⟨W.heap.size, 0, none⟩) 1 1 [70] _ rfl h1 (by omega) (some ⟨W.heap.size + 1, 0, none⟩) 5 5 [f1, f2, f3, f4, f5] rfl (by omega) hi (reads_next W _ (iV [f1, f2, f3, f4, f5]) 3)).mono ?_
  rintro e w' ⟨v, rfl, hv, ho, hb2⟩
  obtain ⟨q, cap, m, rfl, hm, _, _, _, hr⟩ := reads_own' ho hv
  exact ⟨q, cap, m, rfl, hm, hr, hb.trans (hb2.mono (by simp; omega))⟩

/-- A load behind them. -/
theorem pload (Z ld : List Nat) (a0 : Option Addr) (m0 c0 : Nat) (a : Option Addr) (l c : Nat) (W : World) (g : Nat) (hg : g = W.heap.size) (hZ : Z.length = m0) (hr : Reads W a0 (bV Z)) (hm : m0 ≤ 1000000000) (hok : Txt.ok W ⟨a, l, c, ld⟩) (hl : l ≤ 1000000000) :
    Calls Tryd.prog 17 #[.slice a0 m0 c0, .slice (some ⟨g, 0, none⟩) 1 1] (W.alloc (.cells #[.slice a l c] 22)) fun e w' =>
      ∃ q cap m, e = .returned (.slice (some ⟨q, 0, none⟩) m cap) ∧ Hid ((Z ++ encT ld).length = m) ∧ m ≤ cap ∧ cap ≤ maxLen ∧ Hid (w'.ownsRow W.heap.size 5 1 (.slice (some ⟨q, 0, none⟩) m cap) m (bV (Z ++ encT ld))) ∧ Hid (Reads w' (some ⟨q, 0, none⟩) (bV (Z ++ encT ld))) ∧ Below W.heap.size W w' := by
  subst hg
  have hb : Below W.heap.size W (W.alloc (.cells #[.slice a l c] 22)) := (Below.refl _ _).alloc (Nat.le_refl _) _
  have e1 : encTs [⟨a, l, c, ld⟩] = encT ld := by simp [encTs]
  have hl' : ld.length = l := hok.1
  have h10 := enc_len (foldN (ld.length : Int))
  refine (bytes_any a0 m0 c0 Z _ hZ (hr.below hb) (some ⟨W.heap.size, 0, none⟩) 1 1 [⟨a, l, c, ld⟩] rfl (by intro y hy; simp at hy; subst hy; exact hok.below hb) (reads_new W (sV [⟨a, l, c, ld⟩]) 22) (by rw [e1]; simp only [encT, List.length_append]; omega) (by omega)).mono ?_
  rintro e w' ⟨v, rfl, hv, ho, hb2⟩
  rw [e1] at ho
  have ho' := ho
  obtain ⟨q, cap, m, rfl, hm, hm', _, hmc, hr2⟩ := reads_own' ho hv
  rw [hm'.out] at ho'
  have hcm : cap ≤ maxLen := by
    rcases ho'.2 with ⟨h1, _⟩ | ⟨g', cap', cur, h1, _, _, _, h2, _⟩
    · simp at h1
    · simp at h1; omega
  exact ⟨q, cap, m, rfl, hm, hmc, hcm, own_mono ho' (by simp), hr2, hb.trans (hb2.mono (by simp))⟩

set_option maxRecDepth 100000 in
set_option maxHeartbeats 400000 in
theorem pack_no (f : Fr) (a : Option Addr) (l c : Nat) (w : World) (hl : f.load.length = l) (hlen : l ≤ 9223372036854775807) (hw : wrongL f ≠ 0) :
    Calls Tryd.prog 9 #[f.val a l c] w fun e w' => e = .returned (.tuple #[.slice none 0 0, .int .i64 (wrongL f : Nat)]) ∧ Below w.heap.size w w' := by
  have CW := hide (fun W => wrong_any f a l c W hl hlen)
  obtain ⟨f1, f2, f3, f4, f5, ld⟩ := f
  simp only [Fr.val] at CW ⊢
  generalize wrongL ⟨f1, f2, f3, f4, f5, ld⟩ = e0 at CW hw ⊢
  have he : ((e0 : Int) == 0) = false := by rw [beq_eq_false_iff_ne]; omega
  go_enter Tryd.func9, Tryd.ntmps9
  go_wp2_with (go_at_call 15; go_must (with_reducible refine (CW.out _).mono ?_; rintro e w1 ⟨rfl, hb1⟩))
  go_ret2
  exact ⟨rfl, ((Below.refl _ _).alloc (Nat.le_refl _) _).trans (hb1.mono (by simp))⟩

set_option maxRecDepth 100000 in
set_option maxHeartbeats 1000000 in
theorem pack_yes (f : Fr) (a : Option Addr) (l c : Nat) (w : World) (hok : Txt.ok w ⟨a, l, c, f.load⟩) (hw : wrongL f = 0) (hT : Tab w) :
    Calls Tryd.prog 9 #[f.val a l c] w fun e w' => ∃ v, e = .returned (.tuple #[v, .int .i64 0]) ∧ v ≠ .slice none 0 0 ∧ w'.ownsRow w.heap.size 5 1 v (sealL (bodyL f)).length (bV (sealL (bodyL f))) ∧ Below w.heap.size w w' := by
  have hl : f.load.length = l := hok.1
  have h4096 := (wrong_nought hw).2.2.2.2.2
  have CW := hide (fun W => wrong_any f a l c W hl (by omega))
  have hi := in64_of hw
  have hBb := body_byt hw hok.2.1
  obtain ⟨f1, f2, f3, f4, f5, ld⟩ := f
  simp only [Fr.nums] at hi hok hl h4096
  simp only [Fr.val] at CW ⊢
  rw [hw, show ((0 : Nat) : Int) = 0 from rfl] at CW
  have HBd := hide (show bodyL ⟨f1, f2, f3, f4, f5, ld⟩ = (70 :: encs [f1, f2, f3, f4, f5]) ++ encT ld from rfl)
  generalize bodyL ⟨f1, f2, f3, f4, f5, ld⟩ = Bd at HBd hBb ⊢
  have CI := hide (fun W g g' => pints f1 f2 f3 f4 f5 hi W g g')
  have hel := encs_length [f1, f2, f3, f4, f5]
  have h10 := enc_len (foldN (ld.length : Int))
  have HZl := hide (show (70 :: encs [f1, f2, f3, f4, f5]).length ≤ 51 by simp at hel ⊢; omega)
  have HBl := hide (show Bd.length ≤ 5000 by rw [HBd.out]; simp only [encT, List.length_append, List.length_cons, List.length_nil] at hel ⊢; omega)
  generalize (70 :: encs [f1, f2, f3, f4, f5]) = Z at CI HBd HZl
  have HOK := hide hok
  have HBX := hide (BoxF.new w f1 f2 f3 f4 f5 a l c)
  obtain ⟨V, hV⟩ : ∃ V, V = w.alloc (.cells #[.int .i64 f1, .int .i64 f2, .int .i64 f3, .int .i64 f4, .int .i64 f5, .slice a l c] 24) := ⟨_, rfl⟩
  have HWV := hide (show Below w.heap.size w V by rw [hV]; exact (Below.refl _ _).alloc (Nat.le_refl _) _)
  have HVs := hide (show V.heap.size = w.heap.size + 1 by rw [hV]; simp)
  have hl1000 : l ≤ 1000000000 := by omega
  have HE := hide hV
  have HLT := hide (show w.heap.size < V.heap.size by have := HVs.out; omega)
  rw [← hV] at HBX
  clear hok hel h10 hi hl
  go_enter Tryd.func9, Tryd.ntmps9
  go_wp2_with (first
    | (go_at_call 15; go_must (rw [← HE.out]; (with_reducible refine (CW.out _).mono ?_); rintro e w1 ⟨rfl, hb1⟩; have hB1 : Below w.heap.size w w1 := HWV.out.trans (hb1.mono HWV.out.size); have hlt : w.heap.size < w1.heap.size := Nat.lt_of_lt_of_le (HLT.out) hb1.size; obtain ⟨k0, k1, k2, k3, k4, k5⟩ := HBX.out.below hb1; have HBX1 := hide (HBX.out.below hb1)))
    | (go_at_call 16; go_must ((with_reducible refine (CI.out _ _ _ rfl rfl).mono ?_); rintro e w2 ⟨q2, c2, m2, rfl, hm2, hr2, hb2⟩; have hB2 := hB1.trans (hb2.mono hB1.size); obtain ⟨-, -, -, -, -, j5⟩ := HBX1.out.below hb2; have hm51 : m2 ≤ 51 := Nat.le_trans (Nat.le_of_eq hm2.out.symm) HZl.out))
    | (go_at_call 17; go_must ((with_reducible refine (pload Z ld _ m2 c2 a l c w2 _ rfl hm2.out hr2.out (by omega) (HOK.out.below hB2) hl1000).mono ?_); rintro e w3 ⟨q3, c3, m3, rfl, hm3, hmc3, hcm3, ho3, hr3, hb3⟩; have hB3 := hB2.trans (hb3.mono hB2.size)))
    | (go_at_call 18; go_must ((with_reducible refine (tail_any w3 _ rfl _ m3 c3 Bd (by rw [HBd.out]; exact hm3.out) hmc3 hcm3 (fun h => by cases h) hBb (by rw [HBd.out]; exact hr3.out) (hT.below hB3)).mono ?_); rintro e w4 ⟨q4, rfl, hq4, ho4, hb4⟩; have hB4 := hB3.trans (hb4.mono hB3.size); have HO4 := hide (own_below ho3.out hb4); have hr4 := hide (own_reads ho4)))
    | (at_builtin; go_must (refine append_bytes rfl (.tmp 29) (.tmp 32) rfl w2.heap.size _ m3 (Z ++ encT ld) rfl HO4.out (some ⟨q4, 0, none⟩) 4 4 (tail4 (crcSum Bd)) rfl (fun h => by cases h) rfl hr4.out (by have := HBl.out; have h1 := hm3.out; rw [← HBd.out] at h1; omega) (Nat.le_trans hb3.size hb4.size) ?_; intro v5 w5 ho5 hg5 hn5; have HN5 := hide hn5; clear hn5)))
  have hB5 : Below w.heap.size w w5 := hB4.grown hg5 hB4.size (fun k hk => by have h1 := (HO4.out.lt k hk).1; have := hB2.size; omega)
  go_ret2
  refine ⟨_, rfl, fun h => by have := (HN5.out.1 h).2; omega, ?_, hB5⟩
  have e : (sealL Bd).length = m3 + 4 := by rw [seal_len]; have h1 := hm3.out; rw [← HBd.out] at h1; omega
  rw [e, sealL]
  rw [← HBd.out] at ho5
  exact own_mono ho5 hB2.size
end Go.Proofs.YtpieagcijfkpnaaDoor
