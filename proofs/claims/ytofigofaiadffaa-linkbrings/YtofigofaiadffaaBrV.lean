/- LinkBrings: the states of its loops. -/
import Derived.Test.YtofigofaiadffaaBrA
namespace Go.Proofs.Ytofigofaiadffaa
namespace linkBrings
open Go.RowKit Go.ChangeShapes Go.WideShapes Go.ChangeAt Go.Deep

def rw0 : Rw := ⟨none, 0, 0, []⟩
/-- The pair at its beginning. -/
theorem pair0 {w w2 w3 : World} {ga gb : Nat} (h2 : LinkP (fun k => k = ga) w2 ga (newL 0 1 1 1 100000)) (h3 : LinkP (fun k => k = gb) w3 gb (newL 1 0 1 1 100000)) (hb2 : Below w.heap.size w w2) (hb3 : Below w2.heap.size w2 w3) (hga : w.heap.size ≤ ga) (hgb : w2.heap.size ≤ gb) :
    PairM w (w3.alloc (.cells #[.pointer (some ⟨ga, 0, none⟩), .pointer (some ⟨gb, 0, none⟩), .slice none 0 0, .int .i64 0, .slice none 0 0, .slice none 0 0, .slice none 0 0, .slice none 0 0] 66)) w3.heap.size ga gb pr0 := by
  have hbn := below_new w3 (.cells #[.pointer (some ⟨ga, 0, none⟩), .pointer (some ⟨gb, 0, none⟩), .slice none 0 0, .int .i64 0, .slice none 0 0, .slice none 0 0, .slice none 0 0, .slice none 0 0] 66)
  have hl2 := h2.lt ga rfl
  have hl3 := h3.lt gb rfl
  have hs3 := hb3.size
  have hz : RowZ w (w3.alloc (.cells #[.pointer (some ⟨ga, 0, none⟩), .pointer (some ⟨gb, 0, none⟩), .slice none 0 0, .int .i64 0, .slice none 0 0, .slice none 0 0, .slice none 0 0, .slice none 0 0] 66)) (fun k => k = ga) (fun k => k = gb) w3.heap.size rw0 := ⟨rfl, World.ownsRow_nil _ _ _ _, fun ad e => by cases e⟩
  refine ⟨fun k => k = ga, fun k => k = gb, none, 0, [], rw0, rw0, rw0, rw0, ?_⟩
  exact ⟨by have := hb2.size; omega, BoxL.new w3 [.pointer (some ⟨ga, 0, none⟩), .pointer (some ⟨gb, 0, none⟩), .slice none 0 0, .int .i64 0, .slice none 0 0, .slice none 0 0, .slice none 0 0, .slice none 0 0] 66, (h2.below hb3).below hbn, h3.below hbn, fun k e1 e2 => by omega, fun k e => ⟨by omega, by omega⟩, fun k e => ⟨by have := hb2.size; omega, by omega⟩, (hb2.trans (hb3.mono hb2.size)).trans (hbn.mono (by have := hb2.size; omega)), rfl, World.ownsRow_nil _ _ _ _, (fun ad e => by cases e), (fun x hx => by cases hx), hz, hz, hz, hz, ⟨rfl, fun t ht => by cases ht⟩, ⟨rfl, fun t ht => by cases ht⟩, ⟨rfl, fun t ht => by cases ht⟩, ⟨rfl, fun t ht => by cases ht⟩, (fun ad ad' e => by cases e), (fun ad ad' e => by cases e), (fun ad ad' e => by cases e), (fun ad ad' e => by cases e), (fun ad ad' e => by cases e), fun ad ad' e => by cases e⟩
/-- The state in the loop over the turns. -/
def S1 (w wr : World) (pb ga gb i nw : Nat) : Prop := ∃ p, Inv p ∧ Sz i (2009 + i * 9) p ∧ p.way.length = nw ∧ PairM w wr pb ga gb p
theorem PairM.bel {w0 w : World} {pb ga gb : Nat} {p : Pr} (h : PairM w0 w pb ga gb p) : Below w0.heap.size w0 w := by
  obtain ⟨D1, D2, aw, cw, l, t0, t1, u0, u1, h⟩ := h
  exact h.bel
theorem PairM.way {w0 w : World} {pb ga gb : Nat} {p : Pr} (h : PairM w0 w pb ga gb p) : ∃ aw cw, w.cell? ⟨pb, 2, none⟩ = some (.slice aw p.way.length cw) := by
  obtain ⟨D1, D2, aw, cw, l, t0, t1, u0, u1, h⟩ := h
  exact ⟨aw, cw, h.cells.2.2.1⟩
/-- The four rows, as the law looks at them. -/
theorem PairM.four {w0 w : World} {pb ga gb : Nat} {p : Pr} (h : PairM w0 w pb ga gb p) : ∃ t0 t1 u0 u1 : Rw, w.cell? ⟨pb, 4, none⟩ = some (.slice t0.a t0.n t0.c) ∧ w.cell? ⟨pb, 5, none⟩ = some (.slice t1.a t1.n t1.c) ∧ w.cell? ⟨pb, 6, none⟩ = some (.slice u0.a u0.n u0.c) ∧ w.cell? ⟨pb, 7, none⟩ = some (.slice u1.a u1.n u1.c) ∧ (RowL w t0.a t0.n t0.ts ∧ RowL w t1.a t1.n t1.ts ∧ RowL w u0.a u0.n u0.ts ∧ RowL w u1.a u1.n u1.ts) ∧ (t0.ts.map Txt.bs = p.to0 ∧ t1.ts.map Txt.bs = p.to1 ∧ u0.ts.map Txt.bs = p.s0 ∧ u1.ts.map Txt.bs = p.s1) ∧ u0.n ≤ u0.c ∧ u1.n ≤ u1.c := by
  obtain ⟨D1, D2, aw, cw, l, t0, t1, u0, u1, h⟩ := h
  obtain ⟨-, -, -, -, c4, c5, c6, c7, -⟩ := h.cells
  exact ⟨t0, t1, u0, u1, c4, c5, c6, c7, h.rows, ⟨h.m0.1, h.m1.1, h.n0.1, h.n1.1⟩, own_cap h.q0.2.1, own_cap h.q1.2.1⟩
theorem rowl_len {w : World} {a : Option Addr} {n : Nat} {l : List Txt} (h : RowL w a n l) : (l.map Txt.bs).length = n := by rw [List.length_map]; exact h.1
/-- What was got is a beginning of what was sent: the law's two tests. -/
theorem four_begins {w0 w : World} {pb ga gb : Nat} {p : Pr} (h : PairM w0 w pb ga gb p) (hi : Inv p) (hs : p.s0.length ≤ 1000000 ∧ p.s1.length ≤ 1000000) : ∃ t0 t1 u0 u1 : Rw, w.cell? ⟨pb, 4, none⟩ = some (.slice t0.a t0.n t0.c) ∧ w.cell? ⟨pb, 5, none⟩ = some (.slice t1.a t1.n t1.c) ∧ w.cell? ⟨pb, 6, none⟩ = some (.slice u0.a u0.n u0.c) ∧ w.cell? ⟨pb, 7, none⟩ = some (.slice u1.a u1.n u1.c) ∧ (∀ W, Below w.heap.size w W → Calls Try.prog 25 #[.slice t0.a t0.n t0.c, .slice u0.a u0.n u0.c] W fun e w' => e = .returned (.bool true) ∧ Below W.heap.size W w') ∧ ∀ W, Below w.heap.size w W → Calls Try.prog 25 #[.slice t1.a t1.n t1.c, .slice u1.a u1.n u1.c] W fun e w' => e = .returned (.bool true) ∧ Below W.heap.size W w' := by
  obtain ⟨t0, t1, u0, u1, c4, c5, c6, c7, ⟨r1, r2, r3, r4⟩, ⟨m0, m1, m2, m3⟩, k0, k1⟩ := h.four
  obtain ⟨q1, q2, q3, q4⟩ := hi.size
  have l0 := rowl_len r1
  have l1 := rowl_len r2
  have l2 := rowl_len r3
  have l3 := rowl_len r4
  rw [m0] at l0
  rw [m1] at l1
  rw [m2] at l2
  rw [m3] at l3
  refine ⟨t0, t1, u0, u1, c4, c5, c6, c7, fun W hb => ?_, fun W hb => ?_⟩
  · exact begins_yes W t0.a u0.a t0.n t0.c u0.n u0.c t0.ts u0.ts (r1.below hb) (r3.below hb) (by omega) k0 (by rw [m0, m2, ← l0]; exact q3) (by omega)
  · exact begins_yes W t1.a u1.a t1.n t1.c u1.n u1.c t1.ts u1.ts (r2.below hb) (r4.below hb) (by omega) k1 (by rw [m1, m3, ← l1]; exact q4) (by omega)
theorem four_same {w0 w : World} {pb ga gb : Nat} {p : Pr} (h : PairM w0 w pb ga gb p) (he : p.to0 = p.s0 ∧ p.to1 = p.s1) (hs : p.s0.length ≤ 1000000 ∧ p.s1.length ≤ 1000000) : ∃ t0 t1 u0 u1 : Rw, w.cell? ⟨pb, 4, none⟩ = some (.slice t0.a t0.n t0.c) ∧ w.cell? ⟨pb, 5, none⟩ = some (.slice t1.a t1.n t1.c) ∧ w.cell? ⟨pb, 6, none⟩ = some (.slice u0.a u0.n u0.c) ∧ w.cell? ⟨pb, 7, none⟩ = some (.slice u1.a u1.n u1.c) ∧ (∀ W, Below w.heap.size w W → Calls Try.prog 20 #[.slice t0.a t0.n t0.c, .slice u0.a u0.n u0.c] W fun e w' => e = .returned (.bool true) ∧ Below W.heap.size W w') ∧ ∀ W, Below w.heap.size w W → Calls Try.prog 20 #[.slice t1.a t1.n t1.c, .slice u1.a u1.n u1.c] W fun e w' => e = .returned (.bool true) ∧ Below W.heap.size W w' := by
  obtain ⟨t0, t1, u0, u1, c4, c5, c6, c7, ⟨r1, r2, r3, r4⟩, ⟨m0, m1, m2, m3⟩, k0, k1⟩ := h.four
  have l0 := rowl_len r1
  have l1 := rowl_len r2
  rw [m0, he.1] at l0
  rw [m1, he.2] at l1
  refine ⟨t0, t1, u0, u1, c4, c5, c6, c7, fun W hb => ?_, fun W hb => ?_⟩
  · exact loads_yes W t0.a u0.a t0.n t0.c u0.n u0.c t0.ts u0.ts (r1.below hb) (r3.below hb) (by rw [m0, m2, he.1]) (by omega)
  · exact loads_yes W t1.a u1.a t1.n t1.c u1.n u1.c t1.ts u1.ts (r2.below hb) (r4.below hb) (by rw [m1, m3, he.2]) (by omega)
theorem nil_arg (w0 w : World) : ArgT w0 w ⟨none, 0, 0, []⟩ := ⟨⟨rfl, (fun x hx => by cases hx), ⟨Nat.le_refl _, Nat.zero_le _⟩, fun _ => ⟨rfl, rfl⟩, .inl rfl⟩, fun ad e => by cases e⟩
/-- The state ahead of a round of the end, and in it. -/
def S2 (w wr : World) (pb ga gb n0 r : Nat) : Prop := ∃ p, SP n0 r p ∧ Sz (300 + 2 * r) (2009 + 300 * 9) p ∧ (0 < r → p.way = []) ∧ PairM w wr pb ga gb p
def S3 (w wr : World) (pb ga gb n0 r nw : Nat) : Prop := ∃ p, MP n0 r p ∧ Sz (300 + 2 * (r + 1)) (2009 + 301 * 9 + 9) p ∧ p.way.length = nw ∧ PairM w wr pb ga gb p
theorem Sz.mono {i j m n : Nat} {p : Pr} (h : Sz i m p) (hi : i ≤ j) (hm : m ≤ n) : Sz j n p := ⟨Nat.le_trans h.s0 hi, Nat.le_trans h.s1 hi, Nat.le_trans h.now hi, Nat.le_trans h.way hm⟩
def slN : Option Value → Nat
  | some (.slice _ n _) => n
  | _ => 0
theorem turn2 (p : Pr) : turnP p 2 0 [] = outA p := by
  unfold turnP
  rw [if_neg (by omega), if_neg (by omega), if_pos rfl]
theorem turn3 (p : Pr) : turnP p 3 0 [] = outB p := by
  unfold turnP
  rw [if_neg (by omega), if_neg (by omega), if_neg (by omega), if_pos rfl]
theorem turn4 {p : Pr} {f : Fr} {W : List Fr} (hw : p.way = f :: W) : turnP p 4 0 [] = inP { p with way := W } f := by
  have hk : kOf 0 p.way.length = 0 := by unfold kOf; simp
  have h0 : 0 < p.way.length := by rw [hw]; simp
  unfold turnP
  rw [if_neg (by omega), if_neg (by omega), if_neg (by omega), if_neg (by omega), dif_pos h0, if_pos rfl]
  have e1 : p.way[kOf 0 p.way.length]'(Nat.mod_lt _ h0) = f := by
    have hz : p.way[kOf 0 p.way.length]? = some f := by rw [hk, hw]; rfl
    rw [List.getElem?_eq_getElem (show kOf 0 p.way.length < p.way.length from Nat.mod_lt _ h0)] at hz
    exact Option.some.inj hz
  rw [e1, hk, hw]
  rfl
theorem way_inP (p : Pr) (f : Fr) : (inP p f).way = p.way ∧ (inP p f).s0 = p.s0 ∧ (inP p f).s1 = p.s1 ∧ (inP p f).now = p.now := by
  unfold inP; split <;> exact ⟨rfl, rfl, rfl, rfl⟩
/-- The first round of the end begins. -/
theorem s2_zero {w wr : World} {pb ga gb m nw : Nat} (hm : m ≤ 300) (h : S1 w wr pb ga gb m nw) : ∃ n0, S2 w wr pb ga gb n0 0 := by
  obtain ⟨p, h1, h2, h3, h4⟩ := h
  exact ⟨p.now, p, SP.zero h1, h2.mono (by omega) (by omega), fun h => by omega, h4⟩
/-- The two turns at a round's beginning. -/
theorem s2_two {w wr : World} {pb ga gb n0 r : Nat} (hr : r < 400) (h : S2 w wr pb ga gb n0 r) : ∃ p2, Calls Try.prog 24 #[.pointer (some ⟨pb, 0, none⟩), .agg #[.int .i64 2, .int .i64 0, .slice none 0 0]] wr (fun e w' => e = .returned (.bool true) ∧ PairM w w' pb ga gb p2) ∧ ∀ W, PairM w W pb ga gb p2 → Calls Try.prog 24 #[.pointer (some ⟨pb, 0, none⟩), .agg #[.int .i64 3, .int .i64 0, .slice none 0 0]] W fun e w' => e = .returned (.bool true) ∧ ∃ nw, S3 w w' pb ga gb n0 r nw := by
  obtain ⟨p, h1, h2, h3, h4⟩ := h
  have z2 := h2.turn h1.1 2 0 []
  rw [turn2] at z2
  have z3 := z2.turn h1.1.outA 3 0 []
  rw [turn3] at z3
  refine ⟨outA p, turn_any w wr pb ga gb p 2 0 none 0 0 [] h4 (bd_of h1.1 h2 (by omega) (by omega)) (nil_arg _ _) (by unfold I64; omega) h1.1 _ (turn2 p).symm, fun W hW => ?_⟩
  refine (turn_any w W pb ga gb (outA p) 3 0 none 0 0 [] hW (bd_of h1.1.outA z2 (by omega) (by omega)) (nil_arg _ _) (by unfold I64; omega) h1.1.outA _ (turn3 _).symm).mono ?_
  rintro e w' ⟨rfl, hP⟩
  exact ⟨rfl, _, outB (outA p), h1.out, z3.mono (by omega) (by omega), rfl, hP⟩
/-- One delivery. -/
theorem s3_in {w wr : World} {pb ga gb n0 r nw : Nat} (hr : r < 400) (h : S3 w wr pb ga gb n0 r (nw + 1)) : Calls Try.prog 24 #[.pointer (some ⟨pb, 0, none⟩), .agg #[.int .i64 4, .int .i64 0, .slice none 0 0]] wr fun e w' => e = .returned (.bool true) ∧ S3 w w' pb ga gb n0 r nw := by
  obtain ⟨p, h1, h2, h3, h4⟩ := h
  obtain ⟨f, W, hw⟩ : ∃ f W, p.way = f :: W := by
    cases hp : p.way with
    | nil => rw [hp] at h3; simp at h3
    | cons f W => exact ⟨f, W, rfl⟩
  have hn := way_inP { p with way := W } f
  rw [hw, List.length_cons] at h3
  have h9 := h2.way
  rw [hw, List.length_cons] at h9
  refine (turn_any w wr pb ga gb p 4 0 none 0 0 [] h4 (bd_of h1.1 h2 (by omega) (by omega)) (nil_arg _ _) (by unfold I64; omega) h1.1 _ (turn4 hw).symm).mono ?_
  rintro e w' ⟨rfl, hP⟩
  refine ⟨rfl, _, (h1.inn hw).2, ⟨?_, ?_, ?_, ?_⟩, ?_, hP⟩
  · rw [hn.2.1]; exact h2.s0
  · rw [hn.2.2.1]; exact h2.s1
  · rw [hn.2.2.2]; exact h2.now
  · rw [hn.1]; show W.length ≤ _; omega
  · rw [hn.1]; show W.length = _; omega
theorem S3.way {w wr : World} {pb ga gb n0 r nw : Nat} (h : S3 w wr pb ga gb n0 r nw) : ∃ aw cw, wr.cell? ⟨pb, 2, none⟩ = some (.slice aw nw cw) := by
  obtain ⟨p, h1, h2, h3, h4⟩ := h
  subst h3
  exact h4.way
theorem S3.fin {w wr : World} {pb ga gb n0 r : Nat} (h : S3 w wr pb ga gb n0 r 0) : S2 w wr pb ga gb n0 (r + 1) := by
  obtain ⟨p, h1, h2, h3, h4⟩ := h
  have hw : p.way = [] := List.eq_nil_of_length_eq_zero h3
  exact ⟨p, h1.end hw, ⟨h2.s0, h2.s1, h2.now, by omega⟩, fun _ => hw, h4⟩
/-- The end: all that was sent was got, and nothing is open. -/
theorem s2_end {w w1 : World} {pb ga gb n0 r : Nat} (hr : 68 ≤ r) (hr2 : r ≤ 400) (h : S2 w w1 pb ga gb n0 r) : ∃ t0 t1 u0 u1 : Rw, w1.cell? ⟨pb, 4, none⟩ = some (.slice t0.a t0.n t0.c) ∧ w1.cell? ⟨pb, 5, none⟩ = some (.slice t1.a t1.n t1.c) ∧ w1.cell? ⟨pb, 6, none⟩ = some (.slice u0.a u0.n u0.c) ∧ w1.cell? ⟨pb, 7, none⟩ = some (.slice u1.a u1.n u1.c) ∧ w1.cell? ⟨pb, 0, none⟩ = some (.pointer (some ⟨ga, 0, none⟩)) ∧ w1.cell? ⟨pb, 1, none⟩ = some (.pointer (some ⟨gb, 0, none⟩)) ∧ Below w.heap.size w w1 ∧ ga < w1.heap.size ∧ gb < w1.heap.size ∧
    (∀ W, Below w1.heap.size w1 W → Calls Try.prog 20 #[.slice t0.a t0.n t0.c, .slice u0.a u0.n u0.c] W fun e w' => e = .returned (.bool true) ∧ Below W.heap.size W w') ∧ (∀ W, Below w1.heap.size w1 W → Calls Try.prog 20 #[.slice t1.a t1.n t1.c, .slice u1.a u1.n u1.c] W fun e w' => e = .returned (.bool true) ∧ Below W.heap.size W w') ∧
    (∀ W, Below w1.heap.size w1 W → Calls Try.prog 21 #[.pointer (some ⟨ga, 0, none⟩)] W fun e w' => e = .returned (.int .i64 0) ∧ Below W.heap.size W w') ∧ ∀ W, Below w1.heap.size w1 W → Calls Try.prog 21 #[.pointer (some ⟨gb, 0, none⟩)] W fun e w' => e = .returned (.int .i64 0) ∧ Below W.heap.size W w' := by
  obtain ⟨p, h1, h2, h3, h4⟩ := h
  obtain ⟨g1, g2, g3, g4⟩ := h1.end hr (h3 (by omega))
  obtain ⟨t0, t1, u0, u1, k4, k5, k6, k7, c0, c1⟩ := four_same h4 ⟨g1, g2⟩ ⟨by have := h2.s0; omega, by have := h2.s1; omega⟩
  have hbd := bd_of h1.1 h2 (by omega) (by omega)
  have hbel := h4.bel
  obtain ⟨D1, D2, aw, cw, l, r0, r1, q0, q1, h⟩ := h4
  refine ⟨t0, t1, u0, u1, k4, k5, k6, k7, h.cells.1, h.cells.2.1, hbel, h.la.lt _ h.la.dg, h.lb.lt _ h.lb.dg, c0, c1, fun W hb => ?_, fun W hb => ?_⟩
  · have := open_any D1 ga p.a W (h.la.below hb) (by have := hbd.ua; omega)
    rw [g3] at this
    exact this
  · have := open_any D2 gb p.b W (h.lb.below hb) (by have := hbd.ub; omega)
    rw [g4] at this
    exact this
end linkBrings
end Go.Proofs.Ytofigofaiadffaa
