/- One link in a law; alive. -/
import Derived.Test.YtofigofaiadffaaInW
import Derived.Lib.SlBytesConst
namespace Go.Proofs.Ytofigofaiadffaa
open Go.RowKit Go.ChangeShapes Go.WideShapes Go.ChangeAt Go.Deep

/-- A link that was made behind w0, and nothing of w0 is written. -/
def LB (w0 w : World) (g : Nat) (s : Lk) : Prop := (∃ D, LinkP D w g s ∧ ∀ k, D k → w0.heap.size ≤ k) ∧ Below w0.heap.size w0 w
theorem LB.below {w0 w w' : World} {g : Nat} {s : Lk} (h : LB w0 w g s) (hb : Below w.heap.size w w') : LB w0 w' g s := by
  obtain ⟨⟨D, h1, h2⟩, h3⟩ := h
  exact ⟨⟨D, h1.below hb, h2⟩, h3.trans (hb.mono h3.size)⟩
theorem LB.next {D : Nat → Prop} {w0 w w' : World} {g : Nat} {s : Lk} (hb : Below w0.heap.size w0 w) (hD : ∀ k, D k → w0.heap.size ≤ k) (hg : w0.heap.size ≤ g) (h : LinkP (Ex D w w') w' g s) (hk : Kp (fun k => k = g) w w') : LB w0 w' g s := by
  refine ⟨⟨_, h, fun k hd => hd.elim (hD k) fun h1 => Nat.le_trans hb.size h1.1⟩, hb.trans (hk.to_below hb.size (fun k e => by subst e; exact hg))⟩
theorem newB (w0 w : World) (hb : Below w0.heap.size w0 w) (self peer life theirs last : Int) : Calls Try.prog 11 #[.int .i64 self, .int .i64 peer, .int .i64 life, .int .i64 theirs, .int .i64 last] w fun e w' => ∃ g, e = .returned (.pointer (some ⟨g, 0, none⟩)) ∧ LB w0 w' g (newL self peer life theirs last) ∧ w.heap.size ≤ g := by
  refine (new_any self peer life theirs last w).mono ?_
  rintro e w' ⟨g, rfl, h1, h2, h3⟩
  exact ⟨g, rfl, ⟨⟨_, h1, fun k hk => by subst hk; exact Nat.le_trans hb.size h2⟩, hb.trans (h3.mono hb.size)⟩, h2⟩
theorem sendB (w0 w : World) (g : Nat) (s : Lk) (a : Option Addr) (n c : Nat) (xs : List Nat) (h : LB w0 w g s) (hu : s.used ≤ 1000000) (hl : xs.length = n) (hB : Byt xs) (hr : Reads w a (bV xs)) (hnil : a = none → n = 0 ∧ c = 0) (hne : ∀ ad, a = some ad → 0 < n → ad.block ≠ g) :
    Calls Try.prog 12 #[.pointer (some ⟨g, 0, none⟩), .slice a n c] w fun e w' => e = .returned (.int .i64 (sendE s xs)) ∧ LB w0 w' g (sendL s xs) := by
  obtain ⟨⟨D, h1, h2⟩, h3⟩ := h
  refine (send_any D g s a n c xs w h1 hu hl hB hr hnil hne).mono ?_
  rintro e w' ⟨rfl, hp, hk⟩
  exact ⟨rfl, LB.next h3 h2 (h2 _ h1.dg) hp hk⟩
theorem outB (w0 w : World) (g : Nat) (s : Lk) (now : Int) (h : LB w0 w g s) (hu : s.used ≤ 1000000) (hn : I64 now) :
    Calls Try.prog 15 #[.pointer (some ⟨g, 0, none⟩), .int .i64 now] w fun e w' => ∃ a c, e = .returned (.slice a (outF s now).length c) ∧ (∃ l, RowF w.heap.size w' a (outF s now).length c l ∧ l.map Fm.p = outF s now) ∧ LB w0 w' g (outL s now) ∧ w.heap.size ≤ w'.heap.size := by
  obtain ⟨⟨D, h1, h2⟩, h3⟩ := h
  refine (out_any D g s now w h1 hu hn).mono ?_
  rintro e w' ⟨a, n, c, l, rfl, hR, hl, hp, hk⟩
  have hn : n = (outF s now).length := by rw [← hl, List.length_map, hR.1]
  subst hn
  exact ⟨a, c, rfl, ⟨l, hR, hl⟩, LB.next h3 h2 (h2 _ h1.dg) hp.toEx hk, hk.size⟩
theorem inB (w0 w : World) (g : Nat) (s : Lk) (f : Fr) (a : Option Addr) (n c : Nat) (h : LB w0 w g s) (hu : s.used ≤ 1000000) (hcm : s.came ≤ 1000000) (hl : f.x.length = n) (hB : Byt f.x) (hr : Reads w a (bV f.x)) (hnil : a = none → n = 0 ∧ c = 0) (hne : ∀ ad, a = some ad → 0 < n → ad.block ≠ g) :
    Calls Try.prog 18 #[.pointer (some ⟨g, 0, none⟩), .agg #[.int .i64 f.fr, .int .i64 f.tt, .int .i64 f.lf, .int .i64 f.sq, .int .i64 f.ak, .slice a n c]] w fun e w' => ∃ b d, e = .returned (.tuple #[.slice b (inF s f).length d, .bool (forB s f)]) ∧ (∃ l, RowT (fun k => w0.heap.size ≤ k) w.heap.size w' b (inF s f).length d l ∧ l.map Txt.bs = inF s f) ∧ LB w0 w' g (inL s f) ∧ w.heap.size ≤ w'.heap.size := by
  obtain ⟨⟨D, h1, h2⟩, h3⟩ := h
  refine (in_any D g s f a n c w h1 hu hcm hl hB hr hnil hne).mono ?_
  rintro e w' ⟨b, m, d, l, rfl, hR, hl, hp, hk⟩
  have hm : m = (inF s f).length := by rw [← hl, List.length_map, hR.1]
  subst hm
  exact ⟨b, d, rfl, ⟨l, hR.mono (fun k hk => hk.1.elim (h2 k) fun h => Nat.le_trans h3.size h.1) (Nat.le_refl _), hl⟩, LB.next h3 h2 (h2 _ h1.dg) hp hk, hk.size⟩
theorem openB (w0 w : World) (g : Nat) (s : Lk) (h : LB w0 w g s) (hb : s.used ≤ 1000000) : Calls Try.prog 21 #[.pointer (some ⟨g, 0, none⟩)] w fun e w' => e = .returned (.int .i64 (s.op.length : Int)) ∧ Below w.heap.size w w' := by
  obtain ⟨⟨D, h1, h2⟩, h3⟩ := h
  exact open_any D g s w h1 hb
set_option maxRecDepth 100000 in
set_option maxHeartbeats 400000 in
theorem num_any (x : Int) (w : World) : Calls Try.prog 13 #[.int .i64 x] w fun e w' => e = .returned (.int .i64 x) ∧ w' = w := by
  go_enter Try.func13, Try.ntmps13
  go_wp2
  go_ret
  exact ⟨rfl, rfl⟩
/-- One byte, in a row of its own, as a constant's bytes are laid. -/
theorem one_byte (w : World) (x : Nat) : Reads (w.alloc (.cells #[.int .u8 (x : Int)] 5 (1, 2))) (some ⟨w.heap.size, 0, none⟩) (bV [x]) := by
  refine .inr ⟨_, _, rfl, fun j u hu => ?_⟩
  have hj : j = 0 := by
    have := (List.getElem?_eq_some_iff.1 hu).1
    simp [bV] at this
    omega
  subst hj
  simp [bV] at hu
  subst hu
  have h : (w.alloc (.cells #[.int .u8 (x : Int)] 5 (1, 2))).heap[w.heap.size]? = some (.cells #[.int .u8 (x : Int)] 5 (1, 2)) := by
    show (w.heap.push _)[w.heap.size]? = _
    simp
  unfold World.cell?
  rw [h]
  rfl
theorem kconst (W : World) : (convert 32 32 (.slice (some ⟨W.heap.size, 0, none⟩) 1 1)).run Try.prog (W.alloc (.cells #[.int .u8 120] 5)) = .ok (.slice (some ⟨W.heap.size, 0, none⟩) 1 1) (W.alloc (.cells #[.int .u8 120] 5 (1, 2))) := Go.Lib.run_convert_bytes_const W 32 5 #[.int .u8 120] 1 1 Try.underlying32 Try.underlying5

set_option linter.unusedSimpArgs false in
set_option maxRecDepth 100000 in
set_option maxHeartbeats 4000000 in
theorem alive_any (w : World) : Calls Try.prog 9 #[] w fun e w' => e = .returned (.bool true) ∧ Below w.heap.size w w' := by
  obtain ⟨s0, hs0⟩ : ∃ s, s = newL 0 1 1 1 100 := ⟨_, rfl⟩
  obtain ⟨s1, hs1⟩ : ∃ s, s = sendL s0 [120] := ⟨_, rfl⟩
  obtain ⟨s2, hs2⟩ : ∃ s, s = outL s1 0 := ⟨_, rfl⟩
  obtain ⟨s3, hs3⟩ : ∃ s, s = outL s2 1 := ⟨_, rfl⟩
  obtain ⟨s4, hs4⟩ : ∃ s, s = outL s3 4 := ⟨_, rfl⟩
  obtain ⟨s5, hs5⟩ : ∃ s, s = outL s4 8 := ⟨_, rfl⟩
  have HE := hide (show sendE s0 [120] = 0 from by rw [hs0]; rfl)
  have L1 := hide (show (outF s1 0).length = 1 from by rw [hs1, hs0]; rfl)
  have L2 := hide (show (outF s2 1).length = 0 from by rw [hs2, hs1, hs0]; rfl)
  have L3 := hide (show (outF s3 4).length = 1 from by rw [hs3, hs2, hs1, hs0]; rfl)
  have L4 := hide (show (outF s4 8).length = 0 from by rw [hs4, hs3, hs2, hs1, hs0]; rfl)
  have L5 := hide (show (outF s5 12).length = 1 from by rw [hs5, hs4, hs3, hs2, hs1, hs0]; rfl)
  have U0 := hide (show s0.used ≤ 1000000 from by rw [hs0]; decide)
  have U1 := hide (show s1.used ≤ 1000000 from by rw [hs1, hs0]; decide)
  have U2 := hide (show s2.used ≤ 1000000 from by rw [hs2, hs1, hs0]; decide)
  have U3 := hide (show s3.used ≤ 1000000 from by rw [hs3, hs2, hs1, hs0]; decide)
  have U4 := hide (show s4.used ≤ 1000000 from by rw [hs4, hs3, hs2, hs1, hs0]; decide)
  have U5 := hide (show s5.used ≤ 1000000 from by rw [hs5, hs4, hs3, hs2, hs1, hs0]; decide)
  have C11 := hide (newB w w (Below.refl _ _) 0 1 1 1 100)
  rw [← hs0] at C11
  have H1 := hide hs1
  have H2 := hide hs2
  have H3 := hide hs3
  have H4 := hide hs4
  have H5 := hide hs5
  clear hs0 hs1 hs2 hs3 hs4 hs5
  have kc := kconst
  go_enter Try.func9, Try.ntmps9
  go_wp2_with (first
    | (go_at_call 11; go_must ((with_reducible refine C11.out.mono ?_); rintro e w1 ⟨g, rfl, hL1, hg⟩; have C12 := hide (show Calls Try.prog 12 #[.pointer (some ⟨g, 0, none⟩), .slice (some ⟨w1.heap.size, 0, none⟩) 1 1] (w1.alloc (.cells #[.int .u8 120] 5 (1, 2))) _ from sendB w _ g s0 (some ⟨w1.heap.size, 0, none⟩) 1 1 [120] (hL1.below (below_new _ _)) U0.out rfl (by intro x hx; simp at hx; omega) (one_byte w1 120) (fun e => by cases e) (fun ad e _ => by cases e; obtain ⟨⟨D, h1, _⟩, _⟩ := hL1; have := h1.lt g h1.dg; show w1.heap.size ≠ g; omega)); rw [HE.out, ← H1.out] at C12; clear hL1))
    | (go_at_call 12; go_must ((with_reducible refine C12.out.mono ?_); rintro e w2 ⟨rfl, hL2⟩; have C15a := hide (outB w w2 g s1 0 hL2 U1.out (by unfold I64; omega)); rw [L1.out, ← H2.out] at C15a; clear hL2))
    | (go_at_call 15; (with_reducible refine C15a.out.mono ?_); rintro e w3 ⟨a3, c3, rfl, -, hL3, -⟩; have C15b := hide (outB w w3 g s2 1 hL3 U2.out (by unfold I64; omega)); rw [L2.out, ← H3.out] at C15b; clear hL3)
    | (go_at_call 15; (with_reducible refine C15b.out.mono ?_); rintro e w4 ⟨a4, c4, rfl, -, hL4, -⟩; have C15c := hide (outB w w4 g s3 4 hL4 U3.out (by unfold I64; omega)); rw [L3.out, ← H4.out] at C15c; clear hL4)
    | (go_at_call 15; (with_reducible refine C15c.out.mono ?_); rintro e w5 ⟨a5, c5, rfl, -, hL5, -⟩; have C15d := hide (outB w w5 g s4 8 hL5 U4.out (by unfold I64; omega)); rw [L4.out, ← H5.out] at C15d; clear hL5)
    | (go_at_call 15; (with_reducible refine C15d.out.mono ?_); rintro e w6 ⟨a6, c6, rfl, -, hL6, -⟩; have C15e := hide (outB w w6 g s5 12 hL6 U5.out (by unfold I64; omega)); rw [L5.out] at C15e; clear hL6)
    | (go_at_call 15; go_must ((with_reducible refine C15e.out.mono ?_); rintro e w7 ⟨a7, c7, rfl, -, hL7, -⟩; have HB7 := hide hL7.2; clear hL7))
    | (go_at_call 13; go_must ((with_reducible refine (num_any 0 w7).mono ?_); rintro e w8 ⟨rfl, hw8⟩; have hw9 : w7 = w8 := hw8.symm; subst hw9)))
  go_ret
  exact ⟨rfl, HB7.out⟩
end Go.Proofs.Ytofigofaiadffaa
