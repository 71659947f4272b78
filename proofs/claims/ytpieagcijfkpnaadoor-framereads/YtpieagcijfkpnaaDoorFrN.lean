/- frame.next: a frame's fields by a cursor. -/
import Derived.Test.YtpieagcijfkpnaaDoorFrE
namespace Go.Proofs.YtpieagcijfkpnaaDoor
open Go.RowKit Go.ChangeShapes Go.WideShapes Go.ChangeAt Go.Deep

/-- A block whose first cells are these, all to be written. -/
def BoxL (w : World) (g : Nat) (xs : List Value) : Prop := g < w.heap.size ∧ ∀ j (h : j < xs.length), w.cell? ⟨g, j, none⟩ = some xs[j] ∧ w.frozen? ⟨g, j, none⟩ = false

theorem BoxL.grown {w w' : World} {g c : Nat} {xs : List Value} (h : BoxL w g xs) (hg : w.grownBy w' (some c)) (hc : g ≠ c) : BoxL w' g xs := by
  have hb := hg.block g h.1 (by simpa using hc)
  refine ⟨Nat.lt_of_lt_of_le h.1 hg.size, fun j hj => ⟨?_, ?_⟩⟩
  · rw [World.cell?_of_block (w := w) (a := ⟨g, j, none⟩) hb]; exact (h.2 j hj).1
  · rw [World.frozen?_of_block (w := w) (a := ⟨g, j, none⟩) hb]; exact (h.2 j hj).2

theorem BoxL.below {w w' : World} {g : Nat} {xs : List Value} (h : BoxL w g xs) (hb : Below w.heap.size w w') : BoxL w' g xs :=
  ⟨Nat.lt_of_lt_of_le h.1 hb.size, fun j hj => ⟨keep_cell (h.2 j hj).1 hb, by rw [keep_frozen (h.2 j hj).1 hb]; exact (h.2 j hj).2⟩⟩

theorem BoxL.put {w : World} {g : Nat} {xs : List Value} (h : BoxL w g xs) (i : Nat) (v : Value) : BoxL (w.setCell ⟨g, i, none⟩ v) g (xs.set i v) := by
  refine ⟨by simpa [World.setCell] using h.1, fun j hj => ⟨?_, ?_⟩⟩
  · rw [List.length_set] at hj
    by_cases e : i = j
    · subst e
      rw [List.getElem_set_self]
      exact World.cell?_setCell_same _ _ _ (h.2 i hj).1
    · rw [List.getElem_set_ne e, World.cell?_setCell_other (h := by simp)]
      exact (h.2 j hj).1
  · rw [List.length_set] at hj
    simpa using (h.2 j hj).2

theorem BoxL.new (w : World) (xs : List Value) (t : TypeId) : BoxL (w.alloc (.cells xs.toArray t)) w.heap.size xs := by
  refine ⟨by simp, fun j hj => ⟨?_, World.frozen?_alloc_at _ _ _ _ rfl⟩⟩
  rw [World.cell?_alloc_at _ _ _ _ rfl]
  simp [hj]

theorem BoxL.six {w : World} {g : Nat} {x0 x1 x2 x3 x4 x5 : Value} (h : BoxL w g [x0, x1, x2, x3, x4, x5]) :
    (w.cell? ⟨g, 0, none⟩ = some x0 ∧ w.frozen? ⟨g, 0, none⟩ = false) ∧ (w.cell? ⟨g, 1, none⟩ = some x1 ∧ w.frozen? ⟨g, 1, none⟩ = false) ∧ (w.cell? ⟨g, 2, none⟩ = some x2 ∧ w.frozen? ⟨g, 2, none⟩ = false) ∧ (w.cell? ⟨g, 3, none⟩ = some x3 ∧ w.frozen? ⟨g, 3, none⟩ = false) ∧ (w.cell? ⟨g, 4, none⟩ = some x4 ∧ w.frozen? ⟨g, 4, none⟩ = false) ∧ (w.cell? ⟨g, 5, none⟩ = some x5 ∧ w.frozen? ⟨g, 5, none⟩ = false) :=
  ⟨h.2 0 (by simp), h.2 1 (by simp), h.2 2 (by simp), h.2 3 (by simp), h.2 4 (by simp), h.2 5 (by simp)⟩

theorem Cur.put {w : World} {B T c g o : Nat} {bs : List Nat} {bad : Bool} {v : Value} (h : Cur w B T c bs bad) (hg : T ≤ g) : Cur (w.setCell ⟨g, o, none⟩ v) B T c bs bad :=
  h.keep (by simp [World.setCell]) (fun k _ hk => Below.heap_setCell _ _ _ _ (by show k ≠ g; omega))

theorem grown_put {w X : World} {r : Option Nat} {g o : Nat} {v : Value} (h : w.grownBy X r) (hg : w.heap.size ≤ g) : w.grownBy (X.setCell ⟨g, o, none⟩ v) r :=
  ⟨h.os, h.tape, h.output, by simpa [World.setCell] using h.size, fun k hk hr => (Below.heap_setCell _ _ _ _ (by show k ≠ g; omega)).trans (h.block k hk hr)⟩

theorem own_put_lo {w : World} {B n g o : Nat} {v u : Value} {xs : List Value} (h : w.ownsRow B 5 1 v n xs) (hg : g < B) : (w.setCell ⟨g, o, none⟩ u).ownsRow B 5 1 v n xs :=
  ownsRow_setCell_below h (by show g < B; exact hg) u

theorem grown_new (w : World) (o : Obj) (r : Option Nat) : w.grownBy (w.alloc o) r :=
  have hb := (Below.refl w.heap.size w).alloc (Nat.le_refl _) o
  ⟨hb.os, hb.tape, hb.output, hb.size, fun k hk _ => hb.block k hk⟩

set_option maxRecDepth 100000 in
set_option maxHeartbeats 2000000 in
theorem next_any (B T c : Nat) (bs : List Nat) (w : World) (h : Cur w B T c bs false) :
    Calls Tryd.prog 26 #[.pointer (some ⟨c, 0, none⟩)] w fun e w' => ∃ a l cp, e = .returned ((rdFrame bs).1.val a l cp) ∧ Hid ((rdFrame bs).1.load.length = l) ∧ Hid (w'.ownsRow w.heap.size 5 1 (.slice a l cp) l (bV (rdFrame bs).1.load)) ∧
      Cur w' B T c (rdFrame bs).2.1 (rdFrame bs).2.2 ∧ w.grownBy w' (some c) := by
  have hT : T ≤ w.heap.size ∧ c < T := by
    obtain ⟨a, cap, _, _, _, _, _, _, _, _, _, h10, h11⟩ := h
    exact ⟨h11, h10⟩
  have K1 := hide (fun W hW => curInt_any B T c bs false W hW)
  obtain ⟨⟨n1, r1, b1⟩, e1⟩ : ∃ z, rdInt bs false = z := ⟨_, rfl⟩
  rw [e1] at K1
  have K2 := hide (fun W hW => curInt_any B T c r1 b1 W hW)
  obtain ⟨⟨n2, r2, b2⟩, e2⟩ : ∃ z, rdInt r1 b1 = z := ⟨_, rfl⟩
  rw [e2] at K2
  have K3 := hide (fun W hW => curInt_any B T c r2 b2 W hW)
  obtain ⟨⟨n3, r3, b3⟩, e3⟩ : ∃ z, rdInt r2 b2 = z := ⟨_, rfl⟩
  rw [e3] at K3
  have K4 := hide (fun W hW => curInt_any B T c r3 b3 W hW)
  obtain ⟨⟨n4, r4, b4⟩, e4⟩ : ∃ z, rdInt r3 b3 = z := ⟨_, rfl⟩
  rw [e4] at K4
  have K5 := hide (fun W hW => curInt_any B T c r4 b4 W hW)
  obtain ⟨⟨n5, r5, b5⟩, e5⟩ : ∃ z, rdInt r4 b4 = z := ⟨_, rfl⟩
  rw [e5] at K5
  have K6 := hide (fun W hW => curBytes_any B T c r5 b5 W hW)
  obtain ⟨⟨x, r6, b6⟩, e6⟩ : ∃ z, rdBytes r5 b5 = z := ⟨_, rfl⟩
  rw [e6] at K6
  have HF := hide (show rdFrame bs = (⟨n1, n2, n3, n4, n5, x⟩, r6, b6) by unfold rdFrame; simp only [e1, e2, e3, e4, e5, e6])
  generalize rdFrame bs = F at HF ⊢
  clear e1 e2 e3 e4 e5 e6
  have hgc : w.heap.size ≠ c := by omega
  have HX0 := hide (BoxL.new w [.int .i64 0, .int .i64 0, .int .i64 0, .int .i64 0, .int .i64 0, .slice none 0 0] 24)
  have HG0 := hide (grown_new w (.cells [.int .i64 0, .int .i64 0, .int .i64 0, .int .i64 0, .int .i64 0, .slice none 0 0].toArray 24) (some c))
  have HC0 := hide (h.below ((Below.refl w.heap.size w).alloc (Nat.le_refl _) (.cells [.int .i64 0, .int .i64 0, .int .i64 0, .int .i64 0, .int .i64 0, .slice none 0 0].toArray 24)))
  have HTs := hide hT.1
  clear hT
  go_enter Tryd.func26, Tryd.ntmps26
  go_wp2_with (first
    | (go_at_call 37; first
        | ((with_reducible refine (K1.out _ HC0.out).mono ?_); rintro e w1 ⟨rfl, hC1, hg1⟩; have HX1 := hide (HX0.out.grown hg1 hgc); have HG1 := hide (grown_trans HG0.out hg1))
        | ((with_reducible refine (K2.out w1 hC1).mono ?_); rintro e w2 ⟨rfl, hC2, hg2⟩; have HX2 := hide (HX1.out.grown hg2 hgc); have HG2 := hide (grown_trans HG1.out hg2); obtain ⟨⟨c0, d0⟩, ⟨c1, d1⟩, -⟩ := HX2.out.six)
        | ((with_reducible refine (K3.out _ ((hC2.put (o := 0) (v := .int .i64 n1) HTs.out).put (o := 1) (v := .int .i64 n2) HTs.out)).mono ?_); rintro e w3 ⟨rfl, hC3, hg3⟩; have HX3 := hide (((HX2.out.put 0 (.int .i64 n1)).put 1 (.int .i64 n2)).grown hg3 hgc); have HG3 := hide (grown_trans (grown_put (o := 1) (v := .int .i64 n2) (grown_put (o := 0) (v := .int .i64 n1) HG2.out (Nat.le_refl _)) (Nat.le_refl _)) hg3))
        | ((with_reducible refine (K4.out w3 hC3).mono ?_); rintro e w4 ⟨rfl, hC4, hg4⟩; have HX4 := hide (HX3.out.grown hg4 hgc); have HG4 := hide (grown_trans HG3.out hg4))
        | ((with_reducible refine (K5.out w4 hC4).mono ?_); rintro e w5 ⟨rfl, hC5, hg5⟩; have HX5 := hide (HX4.out.grown hg5 hgc); have HG5 := hide (grown_trans HG4.out hg5); obtain ⟨-, -, ⟨c2, d2⟩, ⟨c3, d3⟩, ⟨c4, d4⟩, -⟩ := (show BoxL w5 w.heap.size [.int .i64 n1, .int .i64 n2, .int .i64 0, .int .i64 0, .int .i64 0, .slice none 0 0] from HX5.out).six))
    | (go_at_call 38; go_must ((with_reducible refine (K6.out _ (((hC5.put (o := 2) (v := .int .i64 n3) HTs.out).put (o := 3) (v := .int .i64 n4) HTs.out).put (o := 4) (v := .int .i64 n5) HTs.out)).mono ?_); rintro e w6 ⟨v6, rfl, ho6, hC6, hg6⟩; have HX6 := hide ((((HX5.out.put 2 (.int .i64 n3)).put 3 (.int .i64 n4)).put 4 (.int .i64 n5)).grown hg6 hgc); have HG6 := hide (grown_trans (grown_put (o := 4) (v := .int .i64 n5) (grown_put (o := 3) (v := .int .i64 n4) (grown_put (o := 2) (v := .int .i64 n3) HG5.out (Nat.le_refl _)) (Nat.le_refl _)) (Nat.le_refl _)) hg6); have HX5l := hide HX5.out.1; obtain ⟨a6, p6, m6, rfl, hm6, hr6⟩ := reads_own_any ho6; obtain ⟨⟨s0, t0⟩, ⟨s1, t1⟩, ⟨s2, t2⟩, ⟨s3, t3⟩, ⟨s4, t4⟩, ⟨s5, t5⟩⟩ := (show BoxL w6 w.heap.size [.int .i64 n1, .int .i64 n2, .int .i64 n3, .int .i64 n4, .int .i64 n5, .slice none 0 0] from HX6.out).six)))
  have HX5l' := hide (show w.heap.size < ((((w5.setCell ⟨w.heap.size, 2, none⟩ (.int .i64 n3)).setCell ⟨w.heap.size, 3, none⟩ (.int .i64 n4)).setCell ⟨w.heap.size, 4, none⟩ (.int .i64 n5))).heap.size by simpa [World.setCell] using HX5l.out)
  have HX7 := hide (show BoxL (((((((w6.setCell ⟨w.heap.size, 5, none⟩ (.slice a6 m6 p6)).setCell ⟨w.heap.size, 0, none⟩ (.int .i64 n1)).setCell ⟨w.heap.size, 1, none⟩ (.int .i64 n2)).setCell ⟨w.heap.size, 2, none⟩ (.int .i64 n3)).setCell ⟨w.heap.size, 3, none⟩ (.int .i64 n4)).setCell ⟨w.heap.size, 4, none⟩ (.int .i64 n5)).setCell ⟨w.heap.size, 5, none⟩ (.slice a6 m6 p6)) w.heap.size [.int .i64 n1, .int .i64 n2, .int .i64 n3, .int .i64 n4, .int .i64 n5, .slice a6 m6 p6] from ((((((((show BoxL w6 w.heap.size [.int .i64 n1, .int .i64 n2, .int .i64 n3, .int .i64 n4, .int .i64 n5, .slice none 0 0] from HX6.out).put 5 (.slice a6 m6 p6)).put 0 (.int .i64 n1)).put 1 (.int .i64 n2)).put 2 (.int .i64 n3)).put 3 (.int .i64 n4)).put 4 (.int .i64 n5)).put 5 (.slice a6 m6 p6)))
  have HG7 := hide (grown_put (o := 5) (v := .slice a6 m6 p6) (grown_put (o := 4) (v := .int .i64 n5) (grown_put (o := 3) (v := .int .i64 n4) (grown_put (o := 2) (v := .int .i64 n3) (grown_put (o := 1) (v := .int .i64 n2) (grown_put (o := 0) (v := .int .i64 n1) (grown_put (o := 5) (v := .slice a6 m6 p6) HG6.out (Nat.le_refl _)) (Nat.le_refl _)) (Nat.le_refl _)) (Nat.le_refl _)) (Nat.le_refl _)) (Nat.le_refl _)) (Nat.le_refl _))
  have HC7 := hide (Cur.put (o := 5) (v := .slice a6 m6 p6) (Cur.put (o := 4) (v := .int .i64 n5) (Cur.put (o := 3) (v := .int .i64 n4) (Cur.put (o := 2) (v := .int .i64 n3) (Cur.put (o := 1) (v := .int .i64 n2) (Cur.put (o := 0) (v := .int .i64 n1) (Cur.put (o := 5) (v := .slice a6 m6 p6) hC6 HTs.out) HTs.out) HTs.out) HTs.out) HTs.out) HTs.out) HTs.out)
  have HO7 := hide (own_put_lo (g := w.heap.size) (o := 5) (u := .slice a6 m6 p6) (own_put_lo (g := w.heap.size) (o := 4) (u := .int .i64 n5) (own_put_lo (g := w.heap.size) (o := 3) (u := .int .i64 n4) (own_put_lo (g := w.heap.size) (o := 2) (u := .int .i64 n3) (own_put_lo (g := w.heap.size) (o := 1) (u := .int .i64 n2) (own_put_lo (g := w.heap.size) (o := 0) (u := .int .i64 n1) (own_put_lo (g := w.heap.size) (o := 5) (u := .slice a6 m6 p6) ho6 HX5l'.out) HX5l'.out) HX5l'.out) HX5l'.out) HX5l'.out) HX5l'.out) HX5l'.out)
  obtain ⟨X, hX⟩ : ∃ X, X = (((((((w6.setCell ⟨w.heap.size, 5, none⟩ (.slice a6 m6 p6)).setCell ⟨w.heap.size, 0, none⟩ (.int .i64 n1)).setCell ⟨w.heap.size, 1, none⟩ (.int .i64 n2)).setCell ⟨w.heap.size, 2, none⟩ (.int .i64 n3)).setCell ⟨w.heap.size, 3, none⟩ (.int .i64 n4)).setCell ⟨w.heap.size, 4, none⟩ (.int .i64 n5)).setCell ⟨w.heap.size, 5, none⟩ (.slice a6 m6 p6)) := ⟨_, rfl⟩
  rw [← hX] at HX7 HG7 HC7 HO7
  rw [← hX]
  clear hX
  obtain ⟨⟨x0, -⟩, ⟨x1, -⟩, ⟨x2, -⟩, ⟨x3, -⟩, ⟨x4, -⟩, ⟨x5, -⟩⟩ := HX7.out.six
  refine bodyPost_ret (v := .agg #[.int .i64 n1, .int .i64 n2, .int .i64 n3, .int .i64 n4, .int .i64 n5, .slice a6 m6 p6]) (by simp [results, Tryd.results26, go_sem, x0, x1, x2, x3, x4, x5]) rfl ?_
  rw [HF.out]
  refine ⟨a6, m6, p6, rfl, hm6, ?_, HC7.out, HG7.out⟩
  have h6 := HO7.out
  rw [show x.length = m6 from hm6.out] at h6
  exact own_mono h6 (Nat.le_of_lt HX5l'.out)
end Go.Proofs.YtpieagcijfkpnaaDoor
