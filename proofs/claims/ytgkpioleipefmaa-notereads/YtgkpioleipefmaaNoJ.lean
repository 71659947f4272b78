/- note.Read. -/
import Derived.Test.YtgkpioleipefmaaNoI
namespace Go.Proofs.Ytgkpioleipefmaa
open Go.RowKit Go.ChangeShapes Go.WideShapes Go.ChangeAt Go.Deep

def ReadPost (bs : List Nat) (w : World) (e : Ending) (w' : World) : Prop :=
  if okC bs = true then ∃ s av mv, e = .returned (.tuple #[Nv (rdC bs).1 s av mv, .int .i64 0]) ∧ NM w.heap.size w' (rdC bs).1 s av mv ∧ Below w.heap.size w w'
  else e = .returned (.tuple #[Nv no0 ⟨#[]⟩ (.slice none 0 0) (.slice none 0 0), .int .i64 4]) ∧ Below w.heap.size w w'

theorem end_no (c : Nat) (a : Option Addr) (len cap : Nat) (b : Bool) (w : World) (h0 : w.cell? ⟨c, 0, none⟩ = some (.slice a len cap)) (h1 : w.cell? ⟨c, 1, none⟩ = some (.bool b)) (h : (!b && len == 0) = false) : Calls Try.prog 31 #[.pointer (some ⟨c, 0, none⟩)] w fun e w' => e = .returned (.bool false) ∧ w' = w := by
  refine (end_any c a len cap b w h0 h1).mono ?_
  rintro e w' ⟨rfl, rfl⟩
  exact ⟨by rw [← h]; rw [show ((len : Int) == 0) = (len == 0) from (by cases len with | zero => rfl | succ n => rw [beq_eq_false_iff_ne.2 (by omega), beq_eq_false_iff_ne.2 (by omega)])], rfl⟩
theorem end_yes (c : Nat) (a : Option Addr) (cap : Nat) (w : World) (h0 : w.cell? ⟨c, 0, none⟩ = some (.slice a (List.length ([] : List Nat)) cap)) (h1 : w.cell? ⟨c, 1, none⟩ = some (.bool false)) : Calls Try.prog 31 #[.pointer (some ⟨c, 0, none⟩)] w fun e w' => e = .returned (.bool true) ∧ w' = w := by
  refine (end_any c a 0 cap false w h0 h1).mono ?_
  rintro e w' ⟨rfl, rfl⟩
  exact ⟨rfl, rfl⟩
set_option maxRecDepth 100000 in
set_option maxHeartbeats 8000000 in
theorem read_noend (a : Option Addr) (len cap : Nat) (bs : List Nat) (w : World) (hl : bs.length = len) (hlen : len ≤ 20000) (hB : Byt bs) (hr : Reads w a (bV bs)) (HCOND : Hid ((rdC bs).2.2 = true ∨ (rdC bs).2.1 ≠ [])) :
    Calls Try.prog 17 #[.slice a len cap] w fun e w' => e = .returned (.tuple #[Nv no0 ⟨#[]⟩ (.slice none 0 0) (.slice none 0 0), .int .i64 4]) ∧ Below w.heap.size w w' := by
  have CN := hide (fun W (hW : Below w.heap.size w W) => new_any a len cap bs W hl hB (hr.below hW) (by omega))
  have CT := hide (fun W B T c (hC : Cur W B T c bs false) => note_any B T c bs W hC (by omega))
  unfold NotePost at CT
  obtain ⟨⟨o, r, bd⟩, e0⟩ : ∃ z, rdC bs = z := ⟨_, rfl⟩
  rw [e0] at CT HCOND
  simp only at CT
  have CM := hide (fun W s1 av mv B (h : NM B W o s1 av mv) => may_any o s1 av mv B W h)
  simp only [Nv] at CT CM
  clear e0
  have HY0 := hide (BoxL.new w [.int .i64 0, .int .i64 0, .int .i64 0, .int .i64 0, .string ⟨#[]⟩, .int .i64 0, .slice none 0 0, .int .i64 0, .int .i64 0, .int .i64 0, .slice none 0 0] 31)
  have HB0 := hide (below_new w (.cells #[.int .i64 0, .int .i64 0, .int .i64 0, .int .i64 0, .string ⟨#[]⟩, .int .i64 0, .slice none 0 0, .int .i64 0, .int .i64 0, .int .i64 0, .slice none 0 0] 31))
  obtain ⟨V, hV⟩ : ∃ V, V = w.alloc (.cells #[.int .i64 0, .int .i64 0, .int .i64 0, .int .i64 0, .string ⟨#[]⟩, .int .i64 0, .slice none 0 0, .int .i64 0, .int .i64 0, .int .i64 0, .slice none 0 0] 31) := ⟨_, rfl⟩
  have HY := hide (show BoxL V w.heap.size [.int .i64 0, .int .i64 0, .int .i64 0, .int .i64 0, .string ⟨#[]⟩, .int .i64 0, .slice none 0 0, .int .i64 0, .int .i64 0, .int .i64 0, .slice none 0 0] by rw [hV]; exact HY0.out)
  have HB := hide (show Below w.heap.size w V by rw [hV]; exact HB0.out)
  have HS := hide (show V.heap.size = w.heap.size + 1 by rw [hV]; simp)
  have HV := hide hV
  clear hV HY0 HB0
  have HQ := hide (show (!bd && r.length == 0) = false by
    rcases HCOND.out with h | h
    · simp only at h; rw [h]; rfl
    · cases r with
      | nil => exact absurd rfl h
      | cons x l => simp)
  simp only [Nv]
  clear HCOND hr hB hl
  go_enter Try.func17, Try.ntmps17
  go_wp2_with (first
    | (go_at_call 29; go_must (rw [← HV.out]; (with_reducible refine (CN.out V HB.out).mono ?_); rintro e w1 ⟨c, rfl, hC1, hb1⟩; have hlo := hC1.lo; have hhi := hC1.hi; have HY1 := hide (HY.out.below hb1); have HB1 := hide (HB.out.trans (hb1.mono HB.out.size)); have HP2 := hide (BoxL.new w1 [.pointer (some ⟨c, 0, none⟩)] 65); have HB2 := hide (HB1.out.alloc HB1.out.size (.cells [Value.pointer (some ⟨c, 0, none⟩)].toArray 65)); have HY2 := hide (HY1.out.below (below_new w1 (.cells [Value.pointer (some ⟨c, 0, none⟩)].toArray 65))); have HC2 := hide (hC1.below (below_new w1 (.cells [Value.pointer (some ⟨c, 0, none⟩)].toArray 65))); have hgc0 : w.heap.size ≠ c := (by have := HS.out; omega); have hgc4 : w1.heap.size ≠ c := (by omega); have hwc : w.heap.size ≤ c := (by have := HS.out; omega); obtain ⟨W2, hW2⟩ : ∃ W2, W2 = w1.alloc (.cells #[.pointer (some ⟨c, 0, none⟩)] 65) := ⟨_, rfl⟩; have HC2' := hide (show Cur W2 V.heap.size w1.heap.size c bs false by rw [hW2]; exact HC2.out); have HP2' := hide (show BoxL W2 w1.heap.size [.pointer (some ⟨c, 0, none⟩)] by rw [hW2]; exact HP2.out); have HB2' := hide (show Below w.heap.size w W2 by rw [hW2]; exact HB2.out); have HY2' := hide (show BoxL W2 w.heap.size [.int .i64 0, .int .i64 0, .int .i64 0, .int .i64 0, .string ⟨#[]⟩, .int .i64 0, .slice none 0 0, .int .i64 0, .int .i64 0, .int .i64 0, .slice none 0 0] by rw [hW2]; exact HY2.out); have HE2 := hide hW2; have HW2s := hide (show w.heap.size + 1 ≤ W2.heap.size by have h1 := hb1.size; have h2 := HS.out; rw [hW2]; simp; omega); clear hW2 HC2 HP2 HB2 HY2))
    | (go_at_call 30; go_must (rw [← HE2.out]; (with_reducible refine (CT.out W2 _ _ _ HC2'.out).mono ?_); rintro e w3 ⟨s3, av3, mv3, rfl, hM3, hC3, hg3⟩; have HM3 := hide hM3; obtain ⟨-, -, -, -, ⟨aa3, al3, ac3, rfl, -⟩, ⟨ma3, ml3, mc3, rfl, -⟩⟩ := hM3; have HP3 := hide (HP2'.out.grown hg3 hgc4); have HY3 := hide (HY2'.out.grown hg3 hgc0); have HB3 := hide (HB2'.out.grown hg3 HB2'.out.size (fun k hk => by cases hk; exact hwc)); have hb4 := below_new w3 (.cells [.int .i64 o.kind, .int .i64 o.node, .int .i64 o.life, .int .i64 o.epoch, .string s3, .int .i64 o.func, (.slice aa3 al3 ac3), .int .i64 o.err, .int .i64 o.val, .int .i64 o.vep, (.slice ma3 ml3 mc3)].toArray 31); have HX4 := hide (BoxL.new w3 [.int .i64 o.kind, .int .i64 o.node, .int .i64 o.life, .int .i64 o.epoch, .string s3, .int .i64 o.func, (.slice aa3 al3 ac3), .int .i64 o.err, .int .i64 o.val, .int .i64 o.vep, (.slice ma3 ml3 mc3)] 31); have HP4 := hide (HP3.out.below hb4); have HY4 := hide (HY3.out.below hb4); have HC4 := hide (hC3.below hb4); have HM4 := hide (HM3.out.below hb4); have HB4 := hide (HB3.out.trans (hb4.mono HB3.out.size)); clear hb4; obtain ⟨W4, hW4⟩ : ∃ W4, W4 = w3.alloc (.cells #[.int .i64 o.kind, .int .i64 o.node, .int .i64 o.life, .int .i64 o.epoch, .string s3, .int .i64 o.func, (.slice aa3 al3 ac3), .int .i64 o.err, .int .i64 o.val, .int .i64 o.vep, (.slice ma3 ml3 mc3)] 31) := ⟨_, rfl⟩; rw [show w3.alloc (.cells [Value.int .i64 o.kind, .int .i64 o.node, .int .i64 o.life, .int .i64 o.epoch, .string s3, .int .i64 o.func, (.slice aa3 al3 ac3), .int .i64 o.err, .int .i64 o.val, .int .i64 o.vep, (.slice ma3 ml3 mc3)].toArray 31) = W4 from hW4.symm] at HX4 HP4 HY4 HC4 HM4 HB4; have HE4 := hide hW4; have hq : w1.heap.size < w3.heap.size := HP3.out.1; have q4 := HP4.out.c1; rw [hW4] at q4; obtain ⟨ca, cc, j0⟩ := HC4.out.left; have j1 := HC4.out.bad; clear hW4))
    | (go_at_call 31; go_must (rw [← HE4.out]; (with_reducible refine (end_no c ca _ cc _ W4 j0 j1 HQ.out).mono ?_); rintro e w4 ⟨rfl, rfl⟩; obtain ⟨e0, e1, e2, e3, e4, e5, e6, e7, e8, e9, e10⟩ := HY4.out.c11; obtain ⟨u0, u1, u2, u3, u4, u5, u6, u7, u8, u9, u10⟩ := HY4.out.f11)))
  have HX8 := hide (put11_box HY4.out (.int .i64 0) (.int .i64 0) (.int .i64 0) (.int .i64 0) (.string ⟨#[]⟩) (.int .i64 0) (.slice none 0 0) (.int .i64 0) (.int .i64 0) (.int .i64 0) (.slice none 0 0))
  have HB8 := hide (put11_below (g := w.heap.size) HB4.out (Nat.le_refl _) (.int .i64 0) (.int .i64 0) (.int .i64 0) (.int .i64 0) (.string ⟨#[]⟩) (.int .i64 0) (.slice none 0 0) (.int .i64 0) (.int .i64 0) (.int .i64 0) (.slice none 0 0))
  obtain ⟨X, hX⟩ : ∃ X, X = put11 w4 w.heap.size (.int .i64 0) (.int .i64 0) (.int .i64 0) (.int .i64 0) (.string ⟨#[]⟩) (.int .i64 0) (.slice none 0 0) (.int .i64 0) (.int .i64 0) (.int .i64 0) (.slice none 0 0) := ⟨_, rfl⟩
  rw [← hX] at HX8 HB8
  unfold put11 at hX
  rw [← hX]
  clear hX
  obtain ⟨x0, x1, x2, x3, x4, x5, x6, x7, x8, x9, x10⟩ := HX8.out.c11
  refine bodyPost_ret (v := .tuple #[.agg #[.int .i64 0, .int .i64 0, .int .i64 0, .int .i64 0, .string ⟨#[]⟩, .int .i64 0, .slice none 0 0, .int .i64 0, .int .i64 0, .int .i64 0, .slice none 0 0], .int .i64 4]) (by simp [results, Try.results17, go_sem, x0, x1, x2, x3, x4, x5, x6, x7, x8, x9, x10]) rfl ?_
  exact ⟨rfl, HB8.out⟩

set_option maxRecDepth 100000 in
set_option maxHeartbeats 8000000 in
theorem read_nomay (a : Option Addr) (len cap : Nat) (bs : List Nat) (w : World) (hl : bs.length = len) (hlen : len ≤ 20000) (hB : Byt bs) (hr : Reads w a (bV bs)) (HCOND : Hid ((rdC bs).2.2 = false ∧ (rdC bs).2.1 = [] ∧ mayN (rdC bs).1 = false)) :
    Calls Try.prog 17 #[.slice a len cap] w fun e w' => e = .returned (.tuple #[Nv no0 ⟨#[]⟩ (.slice none 0 0) (.slice none 0 0), .int .i64 4]) ∧ Below w.heap.size w w' := by
  have CN := hide (fun W (hW : Below w.heap.size w W) => new_any a len cap bs W hl hB (hr.below hW) (by omega))
  have CT := hide (fun W B T c (hC : Cur W B T c bs false) => note_any B T c bs W hC (by omega))
  unfold NotePost at CT
  obtain ⟨⟨o, r, bd⟩, e0⟩ : ∃ z, rdC bs = z := ⟨_, rfl⟩
  rw [e0] at CT HCOND
  simp only at CT
  have CM := hide (fun W s1 av mv B (h : NM B W o s1 av mv) => may_any o s1 av mv B W h)
  simp only [Nv] at CT CM
  clear e0
  have HY0 := hide (BoxL.new w [.int .i64 0, .int .i64 0, .int .i64 0, .int .i64 0, .string ⟨#[]⟩, .int .i64 0, .slice none 0 0, .int .i64 0, .int .i64 0, .int .i64 0, .slice none 0 0] 31)
  have HB0 := hide (below_new w (.cells #[.int .i64 0, .int .i64 0, .int .i64 0, .int .i64 0, .string ⟨#[]⟩, .int .i64 0, .slice none 0 0, .int .i64 0, .int .i64 0, .int .i64 0, .slice none 0 0] 31))
  obtain ⟨V, hV⟩ : ∃ V, V = w.alloc (.cells #[.int .i64 0, .int .i64 0, .int .i64 0, .int .i64 0, .string ⟨#[]⟩, .int .i64 0, .slice none 0 0, .int .i64 0, .int .i64 0, .int .i64 0, .slice none 0 0] 31) := ⟨_, rfl⟩
  have HY := hide (show BoxL V w.heap.size [.int .i64 0, .int .i64 0, .int .i64 0, .int .i64 0, .string ⟨#[]⟩, .int .i64 0, .slice none 0 0, .int .i64 0, .int .i64 0, .int .i64 0, .slice none 0 0] by rw [hV]; exact HY0.out)
  have HB := hide (show Below w.heap.size w V by rw [hV]; exact HB0.out)
  have HS := hide (show V.heap.size = w.heap.size + 1 by rw [hV]; simp)
  have HV := hide hV
  clear hV HY0 HB0
  have hcond := HCOND.out
  simp only at hcond
  obtain ⟨rfl, rfl, hm⟩ := hcond
  rw [hm] at CM
  simp only [Nv]
  clear HCOND hr hB hl hm
  go_enter Try.func17, Try.ntmps17
  go_wp2_with (first
    | (go_at_call 29; go_must (rw [← HV.out]; (with_reducible refine (CN.out V HB.out).mono ?_); rintro e w1 ⟨c, rfl, hC1, hb1⟩; have hlo := hC1.lo; have hhi := hC1.hi; have HY1 := hide (HY.out.below hb1); have HB1 := hide (HB.out.trans (hb1.mono HB.out.size)); have HP2 := hide (BoxL.new w1 [.pointer (some ⟨c, 0, none⟩)] 65); have HB2 := hide (HB1.out.alloc HB1.out.size (.cells [Value.pointer (some ⟨c, 0, none⟩)].toArray 65)); have HY2 := hide (HY1.out.below (below_new w1 (.cells [Value.pointer (some ⟨c, 0, none⟩)].toArray 65))); have HC2 := hide (hC1.below (below_new w1 (.cells [Value.pointer (some ⟨c, 0, none⟩)].toArray 65))); have hgc0 : w.heap.size ≠ c := (by have := HS.out; omega); have hgc4 : w1.heap.size ≠ c := (by omega); have hwc : w.heap.size ≤ c := (by have := HS.out; omega); obtain ⟨W2, hW2⟩ : ∃ W2, W2 = w1.alloc (.cells #[.pointer (some ⟨c, 0, none⟩)] 65) := ⟨_, rfl⟩; have HC2' := hide (show Cur W2 V.heap.size w1.heap.size c bs false by rw [hW2]; exact HC2.out); have HP2' := hide (show BoxL W2 w1.heap.size [.pointer (some ⟨c, 0, none⟩)] by rw [hW2]; exact HP2.out); have HB2' := hide (show Below w.heap.size w W2 by rw [hW2]; exact HB2.out); have HY2' := hide (show BoxL W2 w.heap.size [.int .i64 0, .int .i64 0, .int .i64 0, .int .i64 0, .string ⟨#[]⟩, .int .i64 0, .slice none 0 0, .int .i64 0, .int .i64 0, .int .i64 0, .slice none 0 0] by rw [hW2]; exact HY2.out); have HE2 := hide hW2; have HW2s := hide (show w.heap.size + 1 ≤ W2.heap.size by have h1 := hb1.size; have h2 := HS.out; rw [hW2]; simp; omega); clear hW2 HC2 HP2 HB2 HY2))
    | (go_at_call 30; go_must (rw [← HE2.out]; (with_reducible refine (CT.out W2 _ _ _ HC2'.out).mono ?_); rintro e w3 ⟨s3, av3, mv3, rfl, hM3, hC3, hg3⟩; have HM3 := hide hM3; obtain ⟨-, -, -, -, ⟨aa3, al3, ac3, rfl, -⟩, ⟨ma3, ml3, mc3, rfl, -⟩⟩ := hM3; have HP3 := hide (HP2'.out.grown hg3 hgc4); have HY3 := hide (HY2'.out.grown hg3 hgc0); have HB3 := hide (HB2'.out.grown hg3 HB2'.out.size (fun k hk => by cases hk; exact hwc)); have hb4 := below_new w3 (.cells [.int .i64 o.kind, .int .i64 o.node, .int .i64 o.life, .int .i64 o.epoch, .string s3, .int .i64 o.func, (.slice aa3 al3 ac3), .int .i64 o.err, .int .i64 o.val, .int .i64 o.vep, (.slice ma3 ml3 mc3)].toArray 31); have HX4 := hide (BoxL.new w3 [.int .i64 o.kind, .int .i64 o.node, .int .i64 o.life, .int .i64 o.epoch, .string s3, .int .i64 o.func, (.slice aa3 al3 ac3), .int .i64 o.err, .int .i64 o.val, .int .i64 o.vep, (.slice ma3 ml3 mc3)] 31); have HP4 := hide (HP3.out.below hb4); have HY4 := hide (HY3.out.below hb4); have HC4 := hide (hC3.below hb4); have HM4 := hide (HM3.out.below hb4); have HB4 := hide (HB3.out.trans (hb4.mono HB3.out.size)); clear hb4; obtain ⟨W4, hW4⟩ : ∃ W4, W4 = w3.alloc (.cells #[.int .i64 o.kind, .int .i64 o.node, .int .i64 o.life, .int .i64 o.epoch, .string s3, .int .i64 o.func, (.slice aa3 al3 ac3), .int .i64 o.err, .int .i64 o.val, .int .i64 o.vep, (.slice ma3 ml3 mc3)] 31) := ⟨_, rfl⟩; rw [show w3.alloc (.cells [Value.int .i64 o.kind, .int .i64 o.node, .int .i64 o.life, .int .i64 o.epoch, .string s3, .int .i64 o.func, (.slice aa3 al3 ac3), .int .i64 o.err, .int .i64 o.val, .int .i64 o.vep, (.slice ma3 ml3 mc3)].toArray 31) = W4 from hW4.symm] at HX4 HP4 HY4 HC4 HM4 HB4; have HE4 := hide hW4; have hq : w1.heap.size < w3.heap.size := HP3.out.1; have q4 := HP4.out.c1; rw [hW4] at q4; obtain ⟨ca, cc, j0⟩ := HC4.out.left; have j1 := HC4.out.bad; clear hW4))
    | (go_at_call 31; go_must (rw [← HE4.out]; (with_reducible refine (end_yes c ca cc W4 j0 j1).mono ?_); rintro e w4 ⟨rfl, rfl⟩; obtain ⟨d0, d1, d2, d3, d4, d5, d6, d7, d8, d9, d10⟩ := HX4.out.c11))
    | (go_at_call 20; go_must ((with_reducible refine (CM.out _ _ _ _ _ HM4.out).mono ?_); rintro e w5 ⟨rfl, hb5⟩; have HB5 := hide (HB4.out.trans (hb5.mono HB4.out.size)); have HY5 := hide (HY4.out.below hb5); obtain ⟨e0, e1, e2, e3, e4, e5, e6, e7, e8, e9, e10⟩ := HY5.out.c11; obtain ⟨u0, u1, u2, u3, u4, u5, u6, u7, u8, u9, u10⟩ := HY5.out.f11)))
  have HX8 := hide (put11_box HY5.out (.int .i64 0) (.int .i64 0) (.int .i64 0) (.int .i64 0) (.string ⟨#[]⟩) (.int .i64 0) (.slice none 0 0) (.int .i64 0) (.int .i64 0) (.int .i64 0) (.slice none 0 0))
  have HB8 := hide (put11_below (g := w.heap.size) HB5.out (Nat.le_refl _) (.int .i64 0) (.int .i64 0) (.int .i64 0) (.int .i64 0) (.string ⟨#[]⟩) (.int .i64 0) (.slice none 0 0) (.int .i64 0) (.int .i64 0) (.int .i64 0) (.slice none 0 0))
  obtain ⟨X, hX⟩ : ∃ X, X = put11 w5 w.heap.size (.int .i64 0) (.int .i64 0) (.int .i64 0) (.int .i64 0) (.string ⟨#[]⟩) (.int .i64 0) (.slice none 0 0) (.int .i64 0) (.int .i64 0) (.int .i64 0) (.slice none 0 0) := ⟨_, rfl⟩
  rw [← hX] at HX8 HB8
  unfold put11 at hX
  rw [← hX]
  clear hX
  obtain ⟨x0, x1, x2, x3, x4, x5, x6, x7, x8, x9, x10⟩ := HX8.out.c11
  refine bodyPost_ret (v := .tuple #[.agg #[.int .i64 0, .int .i64 0, .int .i64 0, .int .i64 0, .string ⟨#[]⟩, .int .i64 0, .slice none 0 0, .int .i64 0, .int .i64 0, .int .i64 0, .slice none 0 0], .int .i64 4]) (by simp [results, Try.results17, go_sem, x0, x1, x2, x3, x4, x5, x6, x7, x8, x9, x10]) rfl ?_
  exact ⟨rfl, HB8.out⟩

set_option maxRecDepth 100000 in
set_option maxHeartbeats 8000000 in
theorem read_yes (a : Option Addr) (len cap : Nat) (bs : List Nat) (w : World) (hl : bs.length = len) (hlen : len ≤ 20000) (hB : Byt bs) (hr : Reads w a (bV bs)) (HCOND : Hid ((rdC bs).2.2 = false ∧ (rdC bs).2.1 = [] ∧ mayN (rdC bs).1 = true)) :
    Calls Try.prog 17 #[.slice a len cap] w fun e w' => ∃ s av mv, e = .returned (.tuple #[Nv (rdC bs).1 s av mv, .int .i64 0]) ∧ NM w.heap.size w' (rdC bs).1 s av mv ∧ Below w.heap.size w w' := by
  have CN := hide (fun W (hW : Below w.heap.size w W) => new_any a len cap bs W hl hB (hr.below hW) (by omega))
  have CT := hide (fun W B T c (hC : Cur W B T c bs false) => note_any B T c bs W hC (by omega))
  unfold NotePost at CT
  obtain ⟨⟨o, r, bd⟩, e0⟩ : ∃ z, rdC bs = z := ⟨_, rfl⟩
  rw [e0] at CT HCOND ⊢
  simp only at CT
  have CM := hide (fun W s1 av mv B (h : NM B W o s1 av mv) => may_any o s1 av mv B W h)
  simp only [Nv] at CT CM
  clear e0
  have HY0 := hide (BoxL.new w [.int .i64 0, .int .i64 0, .int .i64 0, .int .i64 0, .string ⟨#[]⟩, .int .i64 0, .slice none 0 0, .int .i64 0, .int .i64 0, .int .i64 0, .slice none 0 0] 31)
  have HB0 := hide (below_new w (.cells #[.int .i64 0, .int .i64 0, .int .i64 0, .int .i64 0, .string ⟨#[]⟩, .int .i64 0, .slice none 0 0, .int .i64 0, .int .i64 0, .int .i64 0, .slice none 0 0] 31))
  obtain ⟨V, hV⟩ : ∃ V, V = w.alloc (.cells #[.int .i64 0, .int .i64 0, .int .i64 0, .int .i64 0, .string ⟨#[]⟩, .int .i64 0, .slice none 0 0, .int .i64 0, .int .i64 0, .int .i64 0, .slice none 0 0] 31) := ⟨_, rfl⟩
  have HY := hide (show BoxL V w.heap.size [.int .i64 0, .int .i64 0, .int .i64 0, .int .i64 0, .string ⟨#[]⟩, .int .i64 0, .slice none 0 0, .int .i64 0, .int .i64 0, .int .i64 0, .slice none 0 0] by rw [hV]; exact HY0.out)
  have HB := hide (show Below w.heap.size w V by rw [hV]; exact HB0.out)
  have HS := hide (show V.heap.size = w.heap.size + 1 by rw [hV]; simp)
  have HV := hide hV
  clear hV HY0 HB0
  have hcond := HCOND.out
  simp only at hcond
  obtain ⟨rfl, rfl, hm⟩ := hcond
  rw [hm] at CM
  simp only [Nv]
  clear HCOND hr hB hl hm
  go_enter Try.func17, Try.ntmps17
  go_wp2_with (first
    | (go_at_call 29; go_must (rw [← HV.out]; (with_reducible refine (CN.out V HB.out).mono ?_); rintro e w1 ⟨c, rfl, hC1, hb1⟩; have hlo := hC1.lo; have hhi := hC1.hi; have HY1 := hide (HY.out.below hb1); have HB1 := hide (HB.out.trans (hb1.mono HB.out.size)); have HP2 := hide (BoxL.new w1 [.pointer (some ⟨c, 0, none⟩)] 65); have HB2 := hide (HB1.out.alloc HB1.out.size (.cells [Value.pointer (some ⟨c, 0, none⟩)].toArray 65)); have HY2 := hide (HY1.out.below (below_new w1 (.cells [Value.pointer (some ⟨c, 0, none⟩)].toArray 65))); have HC2 := hide (hC1.below (below_new w1 (.cells [Value.pointer (some ⟨c, 0, none⟩)].toArray 65))); have hgc0 : w.heap.size ≠ c := (by have := HS.out; omega); have hgc4 : w1.heap.size ≠ c := (by omega); have hwc : w.heap.size ≤ c := (by have := HS.out; omega); obtain ⟨W2, hW2⟩ : ∃ W2, W2 = w1.alloc (.cells #[.pointer (some ⟨c, 0, none⟩)] 65) := ⟨_, rfl⟩; have HC2' := hide (show Cur W2 V.heap.size w1.heap.size c bs false by rw [hW2]; exact HC2.out); have HP2' := hide (show BoxL W2 w1.heap.size [.pointer (some ⟨c, 0, none⟩)] by rw [hW2]; exact HP2.out); have HB2' := hide (show Below w.heap.size w W2 by rw [hW2]; exact HB2.out); have HY2' := hide (show BoxL W2 w.heap.size [.int .i64 0, .int .i64 0, .int .i64 0, .int .i64 0, .string ⟨#[]⟩, .int .i64 0, .slice none 0 0, .int .i64 0, .int .i64 0, .int .i64 0, .slice none 0 0] by rw [hW2]; exact HY2.out); have HE2 := hide hW2; have HW2s := hide (show w.heap.size + 1 ≤ W2.heap.size by have h1 := hb1.size; have h2 := HS.out; rw [hW2]; simp; omega); clear hW2 HC2 HP2 HB2 HY2))
    | (go_at_call 30; go_must (rw [← HE2.out]; (with_reducible refine (CT.out W2 _ _ _ HC2'.out).mono ?_); rintro e w3 ⟨s3, av3, mv3, rfl, hM3, hC3, hg3⟩; have HM3 := hide hM3; obtain ⟨-, -, -, -, ⟨aa3, al3, ac3, rfl, -⟩, ⟨ma3, ml3, mc3, rfl, -⟩⟩ := hM3; have HP3 := hide (HP2'.out.grown hg3 hgc4); have HY3 := hide (HY2'.out.grown hg3 hgc0); have HB3 := hide (HB2'.out.grown hg3 HB2'.out.size (fun k hk => by cases hk; exact hwc)); have hb4 := below_new w3 (.cells [.int .i64 o.kind, .int .i64 o.node, .int .i64 o.life, .int .i64 o.epoch, .string s3, .int .i64 o.func, (.slice aa3 al3 ac3), .int .i64 o.err, .int .i64 o.val, .int .i64 o.vep, (.slice ma3 ml3 mc3)].toArray 31); have HX4 := hide (BoxL.new w3 [.int .i64 o.kind, .int .i64 o.node, .int .i64 o.life, .int .i64 o.epoch, .string s3, .int .i64 o.func, (.slice aa3 al3 ac3), .int .i64 o.err, .int .i64 o.val, .int .i64 o.vep, (.slice ma3 ml3 mc3)] 31); have HP4 := hide (HP3.out.below hb4); have HY4 := hide (HY3.out.below hb4); have HC4 := hide (hC3.below hb4); have HM4 := hide (HM3.out.below hb4); have HB4 := hide (HB3.out.trans (hb4.mono HB3.out.size)); clear hb4; obtain ⟨W4, hW4⟩ : ∃ W4, W4 = w3.alloc (.cells #[.int .i64 o.kind, .int .i64 o.node, .int .i64 o.life, .int .i64 o.epoch, .string s3, .int .i64 o.func, (.slice aa3 al3 ac3), .int .i64 o.err, .int .i64 o.val, .int .i64 o.vep, (.slice ma3 ml3 mc3)] 31) := ⟨_, rfl⟩; rw [show w3.alloc (.cells [Value.int .i64 o.kind, .int .i64 o.node, .int .i64 o.life, .int .i64 o.epoch, .string s3, .int .i64 o.func, (.slice aa3 al3 ac3), .int .i64 o.err, .int .i64 o.val, .int .i64 o.vep, (.slice ma3 ml3 mc3)].toArray 31) = W4 from hW4.symm] at HX4 HP4 HY4 HC4 HM4 HB4; have HE4 := hide hW4; have hq : w1.heap.size < w3.heap.size := HP3.out.1; have q4 := HP4.out.c1; rw [hW4] at q4; obtain ⟨ca, cc, j0⟩ := HC4.out.left; have j1 := HC4.out.bad; clear hW4))
    | (go_at_call 31; go_must (rw [← HE4.out]; (with_reducible refine (end_yes c ca cc W4 j0 j1).mono ?_); rintro e w4 ⟨rfl, rfl⟩; obtain ⟨d0, d1, d2, d3, d4, d5, d6, d7, d8, d9, d10⟩ := HX4.out.c11))
    | (go_at_call 20; go_must ((with_reducible refine (CM.out _ _ _ _ _ HM4.out).mono ?_); rintro e w5 ⟨rfl, hb5⟩; have HB5 := hide (HB4.out.trans (hb5.mono HB4.out.size)); have HY5 := hide (HY4.out.below hb5); have HM5 := hide (HM4.out.below hb5); obtain ⟨d0', d1', d2', d3', d4', d5', d6', d7', d8', d9', d10'⟩ := (HX4.out.below hb5).c11; obtain ⟨e0, e1, e2, e3, e4, e5, e6, e7, e8, e9, e10⟩ := HY5.out.c11; obtain ⟨u0, u1, u2, u3, u4, u5, u6, u7, u8, u9, u10⟩ := HY5.out.f11)))
  have HX8 := hide (put11_box HY5.out (.int .i64 o.kind) (.int .i64 o.node) (.int .i64 o.life) (.int .i64 o.epoch) (.string s3) (.int .i64 o.func) (.slice aa3 al3 ac3) (.int .i64 o.err) (.int .i64 o.val) (.int .i64 o.vep) (.slice ma3 ml3 mc3))
  have HB8 := hide (put11_below (g := w.heap.size) HB5.out (Nat.le_refl _) (.int .i64 o.kind) (.int .i64 o.node) (.int .i64 o.life) (.int .i64 o.epoch) (.string s3) (.int .i64 o.func) (.slice aa3 al3 ac3) (.int .i64 o.err) (.int .i64 o.val) (.int .i64 o.vep) (.slice ma3 ml3 mc3))
  have HN8 := hide (HM5.out.keep (w' := put11 w5 w.heap.size (.int .i64 o.kind) (.int .i64 o.node) (.int .i64 o.life) (.int .i64 o.epoch) (.string s3) (.int .i64 o.func) (.slice aa3 al3 ac3) (.int .i64 o.err) (.int .i64 o.val) (.int .i64 o.vep) (.slice ma3 ml3 mc3)) (fun k h1 h2 => put11_keep (by have := HW2s.out; omega) (.int .i64 o.kind) (.int .i64 o.node) (.int .i64 o.life) (.int .i64 o.epoch) (.string s3) (.int .i64 o.func) (.slice aa3 al3 ac3) (.int .i64 o.err) (.int .i64 o.val) (.int .i64 o.vep) (.slice ma3 ml3 mc3)))
  obtain ⟨X, hX⟩ : ∃ X, X = put11 w5 w.heap.size (.int .i64 o.kind) (.int .i64 o.node) (.int .i64 o.life) (.int .i64 o.epoch) (.string s3) (.int .i64 o.func) (.slice aa3 al3 ac3) (.int .i64 o.err) (.int .i64 o.val) (.int .i64 o.vep) (.slice ma3 ml3 mc3) := ⟨_, rfl⟩
  rw [← hX] at HX8 HB8 HN8
  unfold put11 at hX
  rw [← hX]
  clear hX
  obtain ⟨x0, x1, x2, x3, x4, x5, x6, x7, x8, x9, x10⟩ := HX8.out.c11
  refine bodyPost_ret (v := .tuple #[.agg #[.int .i64 o.kind, .int .i64 o.node, .int .i64 o.life, .int .i64 o.epoch, .string s3, .int .i64 o.func, (.slice aa3 al3 ac3), .int .i64 o.err, .int .i64 o.val, .int .i64 o.vep, (.slice ma3 ml3 mc3)], .int .i64 0]) (by simp [results, Try.results17, go_sem, x0, x1, x2, x3, x4, x5, x6, x7, x8, x9, x10]) rfl ?_
  exact ⟨s3, .slice aa3 al3 ac3, .slice ma3 ml3 mc3, rfl, HN8.out.mono (by have := HW2s.out; omega), HB8.out⟩

/-- note.Read. -/
theorem read_any (a : Option Addr) (len cap : Nat) (bs : List Nat) (w : World) (hl : bs.length = len) (hlen : len ≤ 20000) (hB : Byt bs) (hr : Reads w a (bV bs)) : Calls Try.prog 17 #[.slice a len cap] w (ReadPost bs w) := by
  unfold ReadPost
  by_cases h1 : (rdC bs).2.2 = true ∨ (rdC bs).2.1 ≠ []
  · have hk : okC bs = false := by
      unfold okC
      rcases h1 with h | h
      · rw [h]; rfl
      · simp [h]
    simp only [hk, Bool.false_eq_true, if_false]
    exact read_noend a len cap bs w hl hlen hB hr h1
  · have h2 : (rdC bs).2.2 = false := by
      cases hq : (rdC bs).2.2 with
      | false => rfl
      | true => exact absurd (.inl hq) h1
    have h3 : (rdC bs).2.1 = [] := by
      rcases Classical.em ((rdC bs).2.1 = []) with hq | hq
      · exact hq
      · exact absurd (.inr hq) h1
    have hk : okC bs = mayN (rdC bs).1 := by unfold okC; rw [h2, h3]; simp
    rw [hk]
    by_cases hm : mayN (rdC bs).1 = true
    · simp only [hm, if_true]
      exact read_yes a len cap bs w hl hlen hB hr ⟨h2, h3, hm⟩
    · simp only [hm]
      exact read_nomay a len cap bs w hl hlen hB hr ⟨h2, h3, by simpa using hm⟩

end Go.Proofs.Ytgkpioleipefmaa
