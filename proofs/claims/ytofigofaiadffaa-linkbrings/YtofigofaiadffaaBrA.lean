/- LinkBrings: its argument; any turn; how great all gets. -/
import Derived.Test.YtofigofaiadffaaBrO
import Derived.Test.YtofigofaiadffaaBrF
import Derived.Test.YtofigofaiadffaaBrG
import Derived.Test.YtofigofaiadffaaBrH
import Derived.Test.YtofigofaiadffaaBrD
import Derived.Test.YtofigofaiadffaaLds
import Derived.WalkKit
import Derived.ProofKit
import Derived.OpenShut
import Derived.ChangeOld
import Derived.Below
import Derived.Deep.Fields
import Derived.Deep.Grids
import Derived.Deep.Strs
namespace Go.Proofs.Ytofigofaiadffaa
namespace linkBrings
open Go.ChangeShapes Go.WideShapes Go.ChangeAt Go.RowKit Go.Deep

/-- A turn in memory. -/
structure Tu where
  wy : Int
  K : Int
  t : Txt
def Tu.cs (x : Tu) : List Value := [.int .i64 x.wy, .int .i64 x.K, .slice x.t.a x.t.len x.t.cap]
instance : Inhabited Tu := ⟨⟨0, 0, ⟨none, 0, 0, []⟩⟩⟩
theorem reads_lt {W : World} {a : Option Addr} {xs : List Value} (h : Reads W a xs) : ∀ ad, a = some ad → 0 < xs.length → ad.block < W.heap.size := by
  intro ad e h0
  rcases h with h | ⟨b, off, e1, h⟩
  · rw [h] at h0; simp at h0
  · rw [e] at e1
    simp only [Option.some.injEq] at e1
    subst e1
    exact cell_some_lt (h 0 _ (List.getElem?_eq_getElem h0))
theorem cell_spot {W : World} {x : Addr} {k n : Nat} {cs : List Value} (h : W.cells? 0 (x.add k) n = some cs) (hk : k = 0) (hn : 0 < n) : ∃ b off, x = ⟨b, off, none⟩ := by
  obtain ⟨_, hl, hc⟩ := World.cells?_some h
  have h0 := hc 0 hn
  rw [List.getElem?_eq_getElem (by omega)] at h0
  obtain ⟨b, off, sp⟩ := x
  subst hk
  have : sp = none := by simpa [Addr.add] using World.cell?_spot h0
  subst this
  exact ⟨b, off, rfl⟩
def RowTu (W : World) (a : Option Addr) (l : List Tu) : Prop := (∀ i (h : i < l.length), ∃ b off, a = some ⟨b, off, none⟩ ∧ W.cell? ⟨b, off + i * 3, none⟩ = some (.int .i64 l[i].wy) ∧ W.cell? ⟨b, off + i * 3 + 1, none⟩ = some (.int .i64 l[i].K) ∧ W.cell? ⟨b, off + i * 3 + 2, none⟩ = some (.slice l[i].t.a l[i].t.len l[i].t.cap)) ∧ ∀ y ∈ l, ArgT W W y.t ∧ I64 y.K
theorem arg_turns {H : Type} {enc : TypeId × Value → H} {W : World} {fuel : Nat} {a : Option Addr} {len cap : Nat} {x : DataW H × List MemPlace} (h : DataW.trod enc Try.prog W 0 (fun _ => true) true fuel 62 [.slice a len cap] = some x) :
    ∃ l : List Tu, l.length = len ∧ RowTu W a l := by
  have c3 : Try.prog.cellsOf 3 = 1 := by kernel_rfl
  have c32 : Try.prog.cellsOf 32 = 1 := by kernel_rfl
  have c68 : Try.prog.cellsOf 68 = 3 := by kernel_rfl
  rcases open_slice Try.underlying62 h with ⟨hcs, _⟩ | ⟨x, l, c, m, n, D, Pl, hcs, _, hl, hm, hmm, _, hx⟩
  · simp at hcs
    obtain ⟨rfl, rfl, rfl⟩ := hcs
    exact ⟨[], rfl, fun i h => by simp at h, fun x hx => by cases hx⟩
  · simp at hcs
    obtain ⟨rfl, rfl, rfl⟩ := hcs
    simp only [if_true] at hmm
    subst hmm
    rw [c68] at hx
    have key : ∀ i, i < len → ∃ z : Tu, (ArgT W W z.t ∧ I64 z.K) ∧ W.cells? 0 (x.add (i * 3)) 3 = some z.cs := fun i hi => by
      obtain ⟨cs', hc, ht⟩ := hx i (by omega)
      obtain ⟨y0, y1, y2, k, _, hlen, e0, e1, e2⟩ := trod_struct3 Try.underlying68 ht
      simp only [c3, c32, c68] at e0 e1 e2 hlen
      obtain ⟨p, i0, _, w0⟩ := DataW.trod_int Try.underlying3 e0
      obtain ⟨q, i1, _, w1⟩ := DataW.trod_int Try.underlying3 e1
      match cs', hlen with
      | [u, v, b], _ =>
        simp at i0 i1
        simp only [List.drop_succ_cons, List.drop_zero, List.take_succ_cons, List.take_zero] at e2
        have hs : ∃ a l c, b = Value.slice a l c := by
          rcases open_slice Try.underlying32 e2 with ⟨hcs, _⟩ | ⟨x, l, c, m, n, D, Pl, hcs, _⟩
          · exact ⟨none, 0, 0, by simpa using hcs⟩
          · exact ⟨some x, l, c, by simpa using hcs⟩
        obtain ⟨a2, l2, k2, rfl⟩ := hs
        obtain ⟨bs, b1, b2, b3, b4, b5⟩ := arg_bytes (d := y2.1) (p := y2.2) Try.underlying32 Try.underlying5 (by kernel_rfl) ⟨k, e2⟩
        refine ⟨⟨p, q, ⟨a2, l2, k2, bs⟩⟩, ⟨⟨⟨b1, b2, ⟨b3, b4.1⟩, b4.2, b5⟩, fun ad e h0 => reads_lt b5 ad e (by rw [bV_length]; simp only at h0 ⊢; omega)⟩, bounds_i64 w1⟩, ?_⟩
        rw [hc, i0, i1]; rfl
    obtain ⟨F, hF⟩ := choose_lt (α := Tu) (n := len) (p := fun i z => (ArgT W W z.t ∧ I64 z.K) ∧ W.cells? 0 (x.add (i * 3)) 3 = some z.cs) key
    refine ⟨(List.range len).map F, by simp, fun i hi => ?_, fun z hz => ?_⟩
    · simp only [List.length_map, List.length_range] at hi
      obtain ⟨b, off, rfl⟩ := cell_spot (hF 0 (by omega)).2 (by omega) (by omega)
      have hcl := (World.cells?_some (hF i hi).2).2.2
      have q0 := hcl 0 (by omega)
      have q1 := hcl 1 (by omega)
      have q2 := hcl 2 (by omega)
      rw [add_none, add_none] at q0 q1 q2
      simp only [List.getElem_map, List.getElem_range]
      exact ⟨b, off, rfl, by simpa [Tu.cs] using q0, by simpa [Tu.cs] using q1, by simpa [Tu.cs] using q2⟩
    · obtain ⟨i, hi, rfl⟩ := List.mem_map.1 hz
      exact (hF i (by simpa using hi)).1
/-- Any turn of the net. -/
theorem turn_any (w0 w : World) (pb ga gb : Nat) (p : Pr) (wy K : Int) (a : Option Addr) (n c : Nat) (x : List Nat) (h : PairM w0 w pb ga gb p) (hbd : Bd p) (hA : ArgT w0 w ⟨a, n, c, x⟩) (hK : I64 K) (hinv : Inv p) (p2 : Pr) (hp2 : p2 = turnP p wy K x) :
    Calls Try.prog 24 #[.pointer (some ⟨pb, 0, none⟩), .agg #[.int .i64 wy, .int .i64 K, .slice a n c]] w fun e w' => e = .returned (.bool true) ∧ PairM w0 w' pb ga gb p2 := by
  unfold turnP at hp2
  by_cases h0 : wy = 0
  · rw [if_pos h0] at hp2
    subst hp2
    by_cases he : sendE p.a x = 0
    · exact turn_sendA_ok w0 w pb ga gb p wy K a n c x h hbd hA hK h0 he
    · exact turn_sendA_no w0 w pb ga gb p wy K a n c x h hbd hA hK h0 he
  rw [if_neg h0] at hp2
  by_cases h1 : wy = 1
  · rw [if_pos h1] at hp2
    subst hp2
    by_cases he : sendE p.b x = 0
    · exact turn_sendB_ok w0 w pb ga gb p wy K a n c x h hbd hA hK h1 he
    · exact turn_sendB_no w0 w pb ga gb p wy K a n c x h hbd hA hK h1 he
  rw [if_neg h1] at hp2
  by_cases h2 : wy = 2
  · rw [if_pos h2] at hp2
    subst hp2
    exact turn_outA w0 w pb ga gb p wy K a n c x h hbd hA hK h2
  rw [if_neg h2] at hp2
  by_cases h3 : wy = 3
  · rw [if_pos h3] at hp2
    subst hp2
    exact turn_outB w0 w pb ga gb p wy K a n c x h hbd hA hK h3
  rw [if_neg h3] at hp2
  by_cases hw : 0 < p.way.length
  · rw [dif_pos hw] at hp2
    by_cases h4 : wy = 4
    · rw [if_pos h4] at hp2
      exact turn_in w0 w pb ga gb p wy K a n c x h hbd hA hK h4 hw hinv p2 hp2
    rw [if_neg h4] at hp2
    by_cases h5 : wy = 5
    · rw [if_pos h5] at hp2
      subst hp2
      exact turn_drop w0 w pb ga gb p wy K a n c x h hbd hA hK h5 hw
    · rw [if_neg h5] at hp2
      exact turn_dbl w0 w pb ga gb p wy K a n c x h hbd hA hK ⟨h0, h1, h2, h3, h4, h5⟩ hw p2 hp2
  · rw [dif_neg hw] at hp2
    rw [hp2]
    exact turn_none w0 w pb ga gb p wy K a n c x h hbd hA hK ⟨h0, h1, h2, h3⟩ (by omega)
/-- How great all is behind i turns. -/
structure Sz (i m : Nat) (p : Pr) : Prop where
  s0 : p.s0.length ≤ i
  s1 : p.s1.length ≤ i
  now : p.now ≤ i
  way : p.way.length ≤ m
theorem bd_of {p : Pr} {i m : Nat} (h : Inv p) (hs : Sz i m p) (hi : i ≤ 100000) (hm : m ≤ 400000) : Bd p := by
  have h1 := h.ab.used
  have h2 := h.ba.used
  have h3 := h.ab.came
  have h4 := h.ba.came
  have h5 := hs.s0
  have h6 := hs.s1
  have h7 := hs.now
  have h8 := hs.way
  have h9 := h.size
  exact ⟨by unfold Lk.used; omega, by unfold Lk.used; omega, by omega, by omega, by omega, by omega, by omega, by omega, by omega, by omega⟩
theorem outF_len {x y : Lk} {S T : List (List Nat)} (h : Dir x y S T) (now : Int) : (outF x now).length ≤ 9 := by
  have := outP_len x now
  have := h.len
  unfold outF
  rw [List.length_map]
  omega
theorem Sz.turn {p : Pr} {i m : Nat} (h : Inv p) (hs : Sz i m p) (wy K : Int) (x : List Nat) : Sz (i + 1) (m + 9) (turnP p wy K x) := by
  obtain ⟨h1, h2, h3, h4⟩ := hs
  unfold turnP
  split
  · unfold sndA; split
    · exact ⟨by show p.s0.length ≤ _; omega, by show (p.s1 ++ [x]).length ≤ _; rw [List.length_append, List.length_singleton]; omega, by show p.now ≤ _; omega, by show p.way.length ≤ _; omega⟩
    · exact ⟨by show p.s0.length ≤ _; omega, by show p.s1.length ≤ _; omega, by show p.now ≤ _; omega, by show p.way.length ≤ _; omega⟩
  split
  · unfold sndB; split
    · exact ⟨by show (p.s0 ++ [x]).length ≤ _; rw [List.length_append, List.length_singleton]; omega, by show p.s1.length ≤ _; omega, by show p.now ≤ _; omega, by show p.way.length ≤ _; omega⟩
    · exact ⟨by show p.s0.length ≤ _; omega, by show p.s1.length ≤ _; omega, by show p.now ≤ _; omega, by show p.way.length ≤ _; omega⟩
  split
  · have := outF_len h.ab p.now
    exact ⟨by show p.s0.length ≤ _; omega, by show p.s1.length ≤ _; omega, by show p.now + 1 ≤ _; omega, by show (p.way ++ outF p.a p.now).length ≤ _; rw [List.length_append]; omega⟩
  split
  · have := outF_len h.ba p.now
    exact ⟨by show p.s0.length ≤ _; omega, by show p.s1.length ≤ _; omega, by show p.now + 1 ≤ _; omega, by show (p.way ++ outF p.b p.now).length ≤ _; rw [List.length_append]; omega⟩
  split
  · have he := List.length_eraseIdx_le p.way (kOf K p.way.length)
    split
    · unfold inP; split
      · exact ⟨by show p.s0.length ≤ _; omega, by show p.s1.length ≤ _; omega, by show p.now ≤ _; omega, by show (p.way.eraseIdx _).length ≤ _; omega⟩
      · exact ⟨by show p.s0.length ≤ _; omega, by show p.s1.length ≤ _; omega, by show p.now ≤ _; omega, by show (p.way.eraseIdx _).length ≤ _; omega⟩
    split
    · exact ⟨by show p.s0.length ≤ _; omega, by show p.s1.length ≤ _; omega, by show p.now ≤ _; omega, by show (p.way.eraseIdx _).length ≤ _; omega⟩
    · exact ⟨by show p.s0.length ≤ _; omega, by show p.s1.length ≤ _; omega, by show p.now ≤ _; omega, by show (p.way ++ [_]).length ≤ _; rw [List.length_append, List.length_singleton]; omega⟩
  · exact ⟨by omega, by omega, by omega, by omega⟩
theorem PairS.rows {w0 w : World} {pb ga gb : Nat} {D1 D2 : Nat → Prop} {p : Pr} {aw : Option Addr} {cw : Nat} {l : List Fm} {t0 t1 u0 u1 : Rw} (h : PairS w0 w pb ga gb D1 D2 p aw cw l t0 t1 u0 u1) : RowL w t0.a t0.n t0.ts ∧ RowL w t1.a t1.n t1.ts ∧ RowL w u0.a u0.n u0.ts ∧ RowL w u1.a u1.n u1.ts :=
  ⟨⟨h.r0.1, (own_reads h.r0.2.1).1, fun t ht => (h.m0.2 t ht).ok⟩, ⟨h.r1.1, (own_reads h.r1.2.1).1, fun t ht => (h.m1.2 t ht).ok⟩, ⟨h.q0.1, (own_reads h.q0.2.1).1, fun t ht => (h.n0.2 t ht).1⟩, ⟨h.q1.1, (own_reads h.q1.2.1).1, fun t ht => (h.n1.2 t ht).1⟩⟩
theorem own_cap {w : World} {B T z n c : Nat} {a : Option Addr} {xs : List Value} (h : w.ownsRow B T z (.slice a n c) n xs) : n ≤ c := by
  rcases h.2 with ⟨_, h1⟩ | ⟨g, cap, cur, e, _, _, h3, _⟩
  · omega
  · simp only [Value.slice.injEq] at e
    omega
end linkBrings
end Go.Proofs.Ytofigofaiadffaa
