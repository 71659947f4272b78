/- LinkPlays: the acts, an argument; which are too great. -/
import Derived.Test.YtofigofaiadffaaRsf
import Derived.WalkKit
import Derived.ProofKit
import Derived.OpenShut
import Derived.ChangeOld
import Derived.Deep.Grids
namespace Go.Proofs.Ytofigofaiadffaa
open Go.RowKit Go.ChangeShapes Go.WideShapes Go.ChangeAt Go.Deep
namespace linkPlays

/-- An act: which way, when, a load, a frame. -/
structure La where
  wy : Int
  now : Int
  t : Txt
  f : Fm
instance : Inhabited La := ⟨⟨0, 0, ⟨none, 0, 0, []⟩, ⟨0, 0, 0, 0, 0, ⟨none, 0, 0, []⟩⟩⟩⟩
def La.cs (y : La) : List Value := [.int .i64 y.wy, .int .i64 y.now, .slice y.t.a y.t.len y.t.cap, .int .i64 y.f.fr, .int .i64 y.f.tt, .int .i64 y.f.lf, .int .i64 y.f.sq, .int .i64 y.f.ak, .slice y.f.t.a y.f.t.len y.f.t.cap]
def okLa (w0 w : World) (y : La) : Prop := ArgT w0 w y.t ∧ ArgT w0 w y.f.t ∧ I64 y.now ∧ I64 y.f.sq ∧ I64 y.f.ak
/-- Acts that are read. -/
def ActsM (w : World) (a : Option Addr) (l : List La) : Prop := (∀ i (h : i < l.length), ∃ b off, a = some ⟨b, off, none⟩ ∧ w.cell? ⟨b, off + i * 9, none⟩ = some (.int .i64 l[i].wy) ∧ w.cell? ⟨b, off + i * 9 + 1, none⟩ = some (.int .i64 l[i].now) ∧ w.cell? ⟨b, off + i * 9 + 2, none⟩ = some (.slice l[i].t.a l[i].t.len l[i].t.cap) ∧
    w.cell? ⟨b, off + i * 9 + 3, none⟩ = some (.int .i64 l[i].f.fr) ∧ w.cell? ⟨b, off + i * 9 + 4, none⟩ = some (.int .i64 l[i].f.tt) ∧ w.cell? ⟨b, off + i * 9 + 5, none⟩ = some (.int .i64 l[i].f.lf) ∧ w.cell? ⟨b, off + i * 9 + 6, none⟩ = some (.int .i64 l[i].f.sq) ∧ w.cell? ⟨b, off + i * 9 + 7, none⟩ = some (.int .i64 l[i].f.ak) ∧ w.cell? ⟨b, off + i * 9 + 8, none⟩ = some (.slice l[i].f.t.a l[i].f.t.len l[i].f.t.cap)) ∧ ∀ y ∈ l, okLa w w y
theorem reads_lt {W : World} {a : Option Addr} {xs : List Value} (h : Reads W a xs) : ∀ ad, a = some ad → 0 < xs.length → ad.block < W.heap.size := by
  intro ad e h0
  rcases h with h | ⟨b, off, e1, h⟩
  · rw [h] at h0; simp at h0
  · rw [e] at e1
    simp only [Option.some.injEq] at e1
    subst e1
    exact cell_some_lt (h 0 _ (List.getElem?_eq_getElem h0))
theorem cell_spot {W : World} {x : Addr} {k n : Nat} {cs : List Value} (h : W.cells? 0 (x.add k) n = some cs) (hk : k = 0) (hn : 0 < n) : ∃ b off, x = ⟨b, off, none⟩ := by
  obtain ⟨_, hl, hc⟩ := World.cells?_some h
  have h0 := hc 0 hn
  rw [List.getElem?_eq_getElem (by omega)] at h0
  obtain ⟨b, off, sp⟩ := x
  subst hk
  have : sp = none := by simpa [Addr.add] using World.cell?_spot h0
  subst this
  exact ⟨b, off, rfl⟩
theorem trod_st4 {H : Type} {enc : TypeId × Value → H} {P : Program} {w : World} {base : Nat} {spare : Nat → Bool} {held : Bool} {t : TypeId} {f0 f1 f2 f3 : Field} {fuel : Nat} {cs : List Value} {x : DataW H × List MemPlace} (ht : P.underlying t = some (.struct #[f0, f1, f2, f3])) (h : DataW.trod enc P w base spare held fuel t cs = some x) :
    ∃ y0 y1 y2 y3 n, cs.length = P.cellsOf t ∧ DataW.trod enc P w base spare held n f0.type ((cs.drop f0.offset).take (P.cellsOf f0.type)) = some y0 ∧ DataW.trod enc P w base spare held n f1.type ((cs.drop f1.offset).take (P.cellsOf f1.type)) = some y1 ∧ DataW.trod enc P w base spare held n f2.type ((cs.drop f2.offset).take (P.cellsOf f2.type)) = some y2 ∧ DataW.trod enc P w base spare held n f3.type ((cs.drop f3.offset).take (P.cellsOf f3.type)) = some y3 := by
  obtain ⟨xs, n, _, rfl, hl, hlen, hf⟩ := DataW.trod_struct ht h
  match xs, hlen with
  | [y0, y1, y2, y3], _ => exact ⟨y0, y1, y2, y3, n, hl, by simpa using hf 0 f0 rfl, by simpa using hf 1 f1 rfl, by simpa using hf 2 f2 rfl, by simpa using hf 3 f3 rfl⟩
theorem arg_fm {H : Type} {enc : TypeId × Value → H} {W : World} {cs : List Value} {fuel : Nat} {x : DataW H × List MemPlace} (hf : DataW.trod enc Try.prog W 0 (fun _ => true) true fuel 34 cs = some x) :
    ∃ f : Fm, cs = f.cs ∧ ArgT W W f.t ∧ I64 f.sq ∧ I64 f.ak := by
  have c3 : Try.prog.cellsOf 3 = 1 := by kernel_rfl
  have c32 : Try.prog.cellsOf 32 = 1 := by kernel_rfl
  have c34 : Try.prog.cellsOf 34 = 6 := by kernel_rfl
  obtain ⟨y0, y1, y2, y3, y4, y5, n, hl, e0, e1, e2, e3, e4, e5⟩ := trod_struct6 Try.underlying34 hf
  simp only [c3, c32, c34] at e0 e1 e2 e3 e4 e5 hl
  obtain ⟨x0, i0, _, w0⟩ := DataW.trod_int Try.underlying3 e0
  obtain ⟨x1, i1, _, w1⟩ := DataW.trod_int Try.underlying3 e1
  obtain ⟨x2, i2, _, w2⟩ := DataW.trod_int Try.underlying3 e2
  obtain ⟨x3, i3, _, w3⟩ := DataW.trod_int Try.underlying3 e3
  obtain ⟨x4, i4, _, w4⟩ := DataW.trod_int Try.underlying3 e4
  match cs, hl with
  | [b0, b1, b2, b3, b4, b5], _ =>
    simp at i0 i1 i2 i3 i4
    simp only [List.drop_succ_cons, List.drop_zero, List.take_succ_cons, List.take_zero] at e5
    have hs : ∃ a l c, b5 = Value.slice a l c := by
      rcases open_slice Try.underlying32 e5 with ⟨hcs, _⟩ | ⟨x, l, c, m, n, D, Pl, hcs, _⟩
      · exact ⟨none, 0, 0, by simpa using hcs⟩
      · exact ⟨some x, l, c, by simpa using hcs⟩
    obtain ⟨a, l, c, rfl⟩ := hs
    obtain ⟨ld, h1, h2, h3, h4, h5⟩ := arg_bytes (d := y5.1) (p := y5.2) Try.underlying32 Try.underlying5 (by kernel_rfl) ⟨n, e5⟩
    exact ⟨⟨x0, x1, x2, x3, x4, ⟨a, l, c, ld⟩⟩, by rw [i0, i1, i2, i3, i4]; rfl, ⟨⟨h1, h2, ⟨h3, h4.1⟩, h4.2, h5⟩, fun ad e h0 => reads_lt h5 ad e (by rw [bV_length]; simp only at h0 ⊢; omega)⟩, bounds_i64 w3, bounds_i64 w4⟩
theorem arg_acts {H : Type} {enc : TypeId × Value → H} {W : World} {fuel : Nat} {a : Option Addr} {len cap : Nat} {x : DataW H × List MemPlace} (h : DataW.trod enc Try.prog W 0 (fun _ => true) true fuel 22 [.slice a len cap] = some x) :
    ∃ l : List La, l.length = len ∧ ActsM W a l := by
  have c3 : Try.prog.cellsOf 3 = 1 := by kernel_rfl
  have c32 : Try.prog.cellsOf 32 = 1 := by kernel_rfl
  have c34 : Try.prog.cellsOf 34 = 6 := by kernel_rfl
  have c36 : Try.prog.cellsOf 36 = 9 := by kernel_rfl
  rcases open_slice Try.underlying22 h with ⟨hcs, _⟩ | ⟨x, l, c, m, n, D, Pl, hcs, _, hl, hm, hmm, _, hx⟩
  · simp at hcs
    obtain ⟨rfl, rfl, rfl⟩ := hcs
    exact ⟨[], rfl, fun i h => by simp at h, fun x hx => by cases hx⟩
  · simp at hcs
    obtain ⟨rfl, rfl, rfl⟩ := hcs
    simp only [if_true] at hmm
    subst hmm
    rw [c36] at hx
    have key : ∀ i, i < len → ∃ z : La, okLa W W z ∧ W.cells? 0 (x.add (i * 9)) 9 = some z.cs := fun i hi => by
      obtain ⟨cs', hc, ht⟩ := hx i (by omega)
      obtain ⟨y0, y1, y2, y3, k, hlen, e0, e1, e2, e3⟩ := trod_st4 Try.underlying36 ht
      simp only [c3, c32, c34, c36] at e0 e1 e2 e3 hlen
      obtain ⟨p, i0, _, w0⟩ := DataW.trod_int Try.underlying3 e0
      obtain ⟨q, i1, _, w1⟩ := DataW.trod_int Try.underlying3 e1
      match cs', hlen with
      | [u, v, b, d0, d1, d2, d3, d4, d5], _ =>
        simp at i0 i1
        simp only [List.drop_succ_cons, List.drop_zero, List.take_succ_cons, List.take_zero] at e2 e3
        have hs : ∃ a l c, b = Value.slice a l c := by
          rcases open_slice Try.underlying32 e2 with ⟨hcs, _⟩ | ⟨x, l, c, m, n, D, Pl, hcs, _⟩
          · exact ⟨none, 0, 0, by simpa using hcs⟩
          · exact ⟨some x, l, c, by simpa using hcs⟩
        obtain ⟨a2, l2, k2, rfl⟩ := hs
        obtain ⟨bs, b1, b2, b3, b4, b5⟩ := arg_bytes (d := y2.1) (p := y2.2) Try.underlying32 Try.underlying5 (by kernel_rfl) ⟨k, e2⟩
        obtain ⟨f, f1, f2, f3, f4⟩ := arg_fm e3
        refine ⟨⟨p, q, ⟨a2, l2, k2, bs⟩, f⟩, ⟨⟨⟨b1, b2, ⟨b3, b4.1⟩, b4.2, b5⟩, fun ad e h0 => reads_lt b5 ad e (by rw [bV_length]; simp only at h0 ⊢; omega)⟩, f2, bounds_i64 w1, f3, f4⟩, ?_⟩
        rw [hc, i0, i1, f1]; rfl
    obtain ⟨F, hF⟩ := choose_lt (α := La) (n := len) (p := fun i z => okLa W W z ∧ W.cells? 0 (x.add (i * 9)) 9 = some z.cs) key
    refine ⟨(List.range len).map F, by simp, fun i hi => ?_, fun z hz => ?_⟩
    · simp only [List.length_map, List.length_range] at hi
      obtain ⟨b, off, rfl⟩ := cell_spot (hF 0 (by omega)).2 (by omega) (by omega)
      have hcl := (World.cells?_some (hF i hi).2).2.2
      have q := fun j hj => hcl j hj
      have q0 := hcl 0 (by omega)
      have q1 := hcl 1 (by omega)
      have q2 := hcl 2 (by omega)
      have q3 := hcl 3 (by omega)
      have q4 := hcl 4 (by omega)
      have q5 := hcl 5 (by omega)
      have q6 := hcl 6 (by omega)
      have q7 := hcl 7 (by omega)
      have q8 := hcl 8 (by omega)
      rw [add_none, add_none] at q0 q1 q2 q3 q4 q5 q6 q7 q8
      simp only [List.getElem_map, List.getElem_range]
      exact ⟨b, off, rfl, by simpa [La.cs] using q0, by simpa [La.cs] using q1, by simpa [La.cs] using q2, by simpa [La.cs] using q3, by simpa [La.cs] using q4, by simpa [La.cs] using q5, by simpa [La.cs] using q6, by simpa [La.cs] using q7, by simpa [La.cs] using q8⟩
    · obtain ⟨i, hi, rfl⟩ := List.mem_map.1 hz
      exact (hF i (by simpa using hi)).1

/-- An act that is not too great. -/
def notBig (y : La) : Prop := y.t.len ≤ 5000 ∧ y.f.t.len ≤ 5000 ∧ y.now ≤ 1152921504606846976 ∧ -1152921504606846976 ≤ y.now
def BigP (w : World) (l : List La) (e : Ending) (w' : World) : Prop := ∃ q, e = .returned (.bool q) ∧ (q = false → l.length ≤ 200 ∧ ∀ y ∈ l, notBig y) ∧ w' = w
set_option linter.unusedSimpArgs false in
set_option maxRecDepth 100000 in
set_option maxHeartbeats 4000000 in
theorem big_any (w : World) (a : Option Addr) (n c : Nat) (l : List La) (hl : l.length = n) (h : ActsM w a l) : Calls Try.prog 10 #[.slice a n c] w (BigP w l) := by
  have HL := hide hl
  have HA := hide h
  have HQ := hide (fun q (h : q = false → l.length ≤ 200 ∧ ∀ y ∈ l, notBig y) => show BigP w l (.returned (.bool q)) w from ⟨q, rfl, h, rfl⟩)
  generalize BigP w l = Z at *
  clear hl h
  by_cases h2 : 200 < n
  · have h2' : (200 : Int) < (n : Int) := by omega
    go_enter Try.func10, Try.ntmps10
    go_wp2
    try go_ret2
    exact HQ.out true (fun e => by cases e)
  · have h2' : ¬ (200 : Int) < (n : Int) := by omega
    go_enter Try.func10, Try.ntmps10
    go_wp2
    go_loopw [3] (fun i wr => wr = w ∧ ∃ k : Nat, k ≤ n ∧ i = .int .i64 (k : Nat) ∧ Hid (∀ j (hj : j < l.length), j < k → notBig l[j])) (fun i _ => n - (intOf i).toNat)
    case atStart => exact ⟨rfl, 0, Nat.zero_le _, rfl, hide (fun j _ h => by omega)⟩
    case round =>
      obtain ⟨rfl, k, hk, rfl, HB⟩ := hrel
      by_cases hlt : k < n
      · have hkl : k < l.length := by have := HL.out; omega
        have hlt' : (k : Int) < (n : Int) := by omega
        obtain ⟨b, off, rfl, c0, c1, c2, c3, c4, c5, c6, c7, c8⟩ := HA.out.1 k hkl
        have HN := hide (fun (h : notBig l[k]) j (hj : j < l.length) (h1 : j < k + 1) => show notBig l[j] by
          rcases Nat.lt_or_eq_of_le (Nat.le_of_lt_succ h1) with h3 | rfl
          · exact HB.out j hj h3
          · exact h)
        unfold notBig at HN
        clear c0 c3 c4 c5 c6 c7
        generalize l[k] = y at *
        obtain ⟨wy, now, ⟨ta, tl, tc, tb⟩, ⟨f0, f1, f2, f3, f4, ⟨ua, ul, uc, ub⟩⟩⟩ := y
        simp only at c1 c2 c8 HN
        clear hkl
        by_cases e1 : 5000 < tl
        · have e1' : decide ((5000 : Int) < (tl : Int)) = true := by simp; omega
          go_wp2_with fail
          try go_ret2
          exact HQ.out true (fun e => by cases e)
        · have e1' : decide ((5000 : Int) < (tl : Int)) = false := by simp; omega
          by_cases e2 : 5000 < ul
          · have e2' : decide ((5000 : Int) < (ul : Int)) = true := by simp; omega
            go_wp2_with fail
            try go_ret2
            exact HQ.out true (fun e => by cases e)
          · have e2' : decide ((5000 : Int) < (ul : Int)) = false := by simp; omega
            by_cases e3 : 1152921504606846976 < now
            · have e3' : decide ((1152921504606846976 : Int) < now) = true := by simp; omega
              go_wp2_with fail
              try go_ret2
              exact HQ.out true (fun e => by cases e)
            · have e3' : decide ((1152921504606846976 : Int) < now) = false := by simp; omega
              by_cases e4 : now < -1152921504606846976
              · have e4' : decide (now < (-1152921504606846976 : Int)) = true := by simp; omega
                go_wp2_with fail
                try go_ret2
                exact HQ.out true (fun e => by cases e)
              · have e4' : decide (now < (-1152921504606846976 : Int)) = false := by simp; omega
                have HN2 := hide (HN.out ⟨by omega, by omega, by omega, by omega⟩)
                clear HN
                go_wp2_with fail
                go_roundw
                case rel => exact ⟨trivial, k + 1, by omega, by go_num, hide (fun j hj h => HN2.out j hj h)⟩
                case measure => simp [intOf]; omega
      · obtain rfl : k = n := by omega
        have hlt' : ¬ (k : Int) < (k : Int) := by omega
        have HB2 := hide (show l.length ≤ 200 ∧ ∀ y ∈ l, notBig y from by
          refine ⟨by have := HL.out; omega, fun y hy => ?_⟩
          obtain ⟨j, hj, rfl⟩ := List.mem_iff_getElem.1 hy
          exact HB.out j hj (by have := HL.out; omega))
        go_wp2
        try go_ret2
        exact HQ.out false (fun _ => HB2.out)
end linkPlays
end Go.Proofs.Ytofigofaiadffaa
