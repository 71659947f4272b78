/- AsmReads: its walk. -/
import Derived.Test.YtfnloomcianbiaaDoorOutL
import Derived.Test.YtfnloomcianbiaaDoorSame
namespace Go.Proofs.YtfnloomcianbiaaDoor
open Go.RowKit Go.ChangeShapes Go.WideShapes Go.ChangeAt Go.Deep

def zeroF : List Value := [.string ⟨#[]⟩, .int .i64 0, .int .i64 0, .slice none 0 0]

theorem cell_some {w : World} {b i : Nat} {cs : List Value} {t : TypeId} (h : w.heap[b]? = some (.cells cs.toArray t (0, 0))) (hi : i < cs.length) : w.cell? ⟨b, i, none⟩ = some cs[i] :=
  cell_row h (List.getElem?_eq_getElem hi)

theorem fresh_below {B : Nat} {w w' : World} {fa : Option Addr} {n : Nat} (h : Fresh B w fa n) (hb : Below w.heap.size w w') : Fresh B w' fa n := by
  rcases h with h | ⟨g, cs, h1, h2, h3, h4⟩
  · exact .inl h
  · exact .inr ⟨g, cs, h1, h2, (hb.block _ (lt_row h3)).trans h3, h4⟩

set_option maxRecDepth 100000 in
set_option maxHeartbeats 2000000 in
theorem reads_any (s o : ByteArray) (w : World) (hE : Env w) :
    Calls Tryd.prog 4 #[.string s, .string o] w fun e w' => e = .returned (.bool true) ∧ Below w.heap.size w w' := by
  have AL := alive_any w hE
  by_cases hs : 20000 < s.size
  · have hs' : (20000 : Int) < (s.size : Int) := by omega
    clear hs
    go_enter Tryd.func4, Tryd.ntmps4
    go_wp2_with (go_at_call 8; go_must (refine AL.mono ?_; rintro e w1 ⟨rfl, hb1⟩))
    go_ret
    exact ⟨rfl, hb1⟩
  by_cases ho : 20000 < o.size
  · have hs' : ¬ (20000 : Int) < (s.size : Int) := by omega
    have ho' : (20000 : Int) < (o.size : Int) := by omega
    clear hs ho
    go_enter Tryd.func4, Tryd.ntmps4
    go_wp2_with (go_at_call 8; go_must (refine AL.mono ?_; rintro e w1 ⟨rfl, hb1⟩))
    go_ret
    exact ⟨rfl, hb1⟩
  have hs' : ¬ (20000 : Int) < (s.size : Int) := by omega
  have ho' : ¬ (20000 : Int) < (o.size : Int) := by omega
  have R1 := fun (W : World) (h : Env W) => readOut_any s (by omega) W h
  have RF := fun (W : World) (h : 9 ≤ W.heap.size) => refOut_any s (by omega) W h
  have SM := out_small s
  have SM2 := (out_small o).1
  have R2 := fun (W : World) (h : Env W) => readOut_any o (by omega) W h
  generalize outL (refReadL s) = O at R1 RF SM
  generalize outL (refReadL o) = O2 at R2 SM2
  obtain ⟨fs, mn, ar, fu, ta, ln, er⟩ := O
  obtain ⟨fs2, mn2, ar2, fu2, ta2, ln2, er2⟩ := O2
  simp only at R1 RF SM R2 SM2
  have HN2 := hide SM2
  have HSM := hide SM
  clear hs ho SM SM2
  go_enter Tryd.func4, Tryd.ntmps4
  go_wp2_with (go_at_call 8; go_must (refine AL.mono ?_; rintro e w1 ⟨rfl, hb1⟩; refine Hid.out ?_))
  refine Lib.hid ?_
  clear AL
  have hE1 := hE.below hb1
  have R11 := R1 w1 hE1
  clear R1
  go_wp2_with (go_at_call 14; go_must (refine R11.mono ?_; rintro e w2 ⟨fa, fc, aa, ac, cs, rfl, hj2, hb2, hf2⟩; refine Hid.out ?_))
  refine Lib.hid ?_
  clear R11 hf2
  have hbA := alloc_below w2 (.cells #[.slice fa fs.length fc, .int .i64 mn, .slice aa ar.length ac, .int .i64 fu, .int .i64 ta] 25)
  have hjA : (w2.alloc (.cells #[.slice fa fs.length fc, .int .i64 mn, .slice aa ar.length ac, .int .i64 fu, .int .i64 ta] 25)).heap[w2.heap.size]? = some (.cells [.slice fa fs.length fc, .int .i64 mn, .slice aa ar.length ac, .int .i64 fu, .int .i64 ta].toArray 25 (0, 0)) := heap_alloc_new w2 _
  have hE3 := (hE1.below hb2).below hbA
  have R23 := R2 _ hE3
  have hJ3 := hj2.below hbA
  have HB3 := hide ((hb1.trans (hb2.mono hb1.size)).trans (hbA.mono (Nat.le_trans hb1.size hb2.size)))
  have hjl := lt_row hjA
  clear R2 hj2
  go_wp2_with (go_at_call 14; go_must (refine R23.mono ?_; rintro e w4 ⟨fa2, fc2, aa2, ac2, cs2, rfl, hj4, hb4, hf4⟩; refine Hid.out ?_))
  refine Lib.hid ?_
  clear R23 hj4
  generalize w2.alloc (.cells #[.slice fa fs.length fc, .int .i64 mn, .slice aa ar.length ac, .int .i64 fu, .int .i64 ta] 25) = w3 at *
  generalize fs2.length = n2 at *
  generalize ar2.length = na2 at *
  have hkA : (w4.alloc (.cells #[.slice fa2 n2 fc2, .int .i64 mn2, .slice aa2 na2 ac2, .int .i64 fu2, .int .i64 ta2] 25)).heap[w4.heap.size]? = some (.cells [.slice fa2 n2 fc2, .int .i64 mn2, .slice aa2 na2 ac2, .int .i64 fu2, .int .i64 ta2].toArray 25 (0, 0)) := heap_alloc_new w4 _
  have hbK := alloc_below w4 (.cells #[.slice fa2 n2 fc2, .int .i64 mn2, .slice aa2 na2 ac2, .int .i64 fu2, .int .i64 ta2] 25)
  have HB5 := hide (hb4.trans (hbK.mono hb4.size))
  have HF5 := hide (fresh_below hf4 hbK)
  have hkb := hb4.size
  clear hb4 hf4 hbK
  go_wp2
  go_loopw [12] (fun i wr => ∃ q : Nat, q ≤ n2 ∧ i = .int .i64 (q : Nat) ∧ wr.heap[w4.heap.size]? = some (.cells [.slice fa2 n2 fc2, .int .i64 mn2, .slice aa2 na2 ac2, .int .i64 fu2, .int .i64 ta2].toArray 25 (0, 0)) ∧ Hid (Below w3.heap.size w3 wr) ∧ Hid (Fresh w3.heap.size wr fa2 n2)) (fun i _ => n2 - (intOf i).toNat)
  case atStart => exact ⟨0, Nat.zero_le _, rfl, hkA, HB5, HF5⟩
  case round =>
    obtain ⟨q, hq, rfl, hk, HB, HF⟩ := hrel
    have hn2 := HN2.out
    have y0 := cell_row (i := 0) hk rfl
    have hkl := lt_row hk
    by_cases hlt : q < n2
    · rcases HF.out with ⟨_, h0⟩ | ⟨g, cs3, rfl, hg, hgc, hn4⟩
      · omega
      have hlt' : (q : Int) < (n2 : Int) := by omega
      have c0 := cell_some (i := q * 4) hgc (by omega)
      have c1 := cell_some (i := q * 4 + 1) hgc (by omega)
      have c2 := cell_some (i := q * 4 + 2) hgc (by omega)
      have c3 := cell_some (i := q * 4 + 3) hgc (by omega)
      generalize cs3[q * 4] = x0 at c0
      generalize cs3[q * 4 + 1] = x1 at c1
      generalize cs3[q * 4 + 2] = x2 at c2
      generalize cs3[q * 4 + 3] = x3 at c3
      have z0 := frozen_row (i := q * 4) hgc
      have z1 := frozen_row (i := q * 4 + 1) hgc
      have z2 := frozen_row (i := q * 4 + 2) hgc
      have z3 := frozen_row (i := q * 4 + 3) hgc
      have hgl := lt_row hgc
      have nk : w4.heap.size ≠ g := fun e => by
        rw [e] at hk
        exact tag_ne hk (by decide) hgc
      have hgr : wr.grownBy ((((wr.setCell ⟨g, q * 4, none⟩ (.string ⟨#[]⟩)).setCell ⟨g, q * 4 + 1, none⟩ (.int .i64 0)).setCell ⟨g, q * 4 + 2, none⟩ (.int .i64 0)).setCell ⟨g, q * 4 + 3, none⟩ (.slice none 0 0)) (some g) := grown_trans (grown_setCell _ _ _ _) (grown_trans (grown_setCell _ _ _ _) (grown_trans (grown_setCell _ _ _ _) (grown_setCell _ _ _ _)))
      have HK' := hide ((hgr.block w4.heap.size hkl (fun e => by first | exact nk (Option.some.inj e) | exact nk (Option.some.inj e).symm)).trans hk)
      have HB' := hide (show Below w3.heap.size w3 ((((wr.setCell ⟨g, q * 4, none⟩ (.string ⟨#[]⟩)).setCell ⟨g, q * 4 + 1, none⟩ (.int .i64 0)).setCell ⟨g, q * 4 + 2, none⟩ (.int .i64 0)).setCell ⟨g, q * 4 + 3, none⟩ (.slice none 0 0)) from (((HB.out.setCell (p := ⟨g, q * 4, none⟩) hg _).setCell (p := ⟨g, q * 4 + 1, none⟩) hg _).setCell (p := ⟨g, q * 4 + 2, none⟩) hg _).setCell (p := ⟨g, q * 4 + 3, none⟩) hg _)
      have HF' := hide (show Fresh w3.heap.size ((((wr.setCell ⟨g, q * 4, none⟩ (.string ⟨#[]⟩)).setCell ⟨g, q * 4 + 1, none⟩ (.int .i64 0)).setCell ⟨g, q * 4 + 2, none⟩ (.int .i64 0)).setCell ⟨g, q * 4 + 3, none⟩ (.slice none 0 0)) (some ⟨g, 0, none⟩) n2 from .inr ⟨g, _, rfl, hg, set_row (i := q * 4 + 3) (set_row (i := q * 4 + 2) (set_row (i := q * 4 + 1) (set_row (i := q * 4) hgc _) _) _) _, by simpa using hn4⟩)
      clear HF hkA HB5 HF5 hgr
      go_wp2
      go_roundw
      case rel => exact ⟨q + 1, by omega, by go_num, HK'.out, HB', HF'⟩
      case measure => simp [intOf]; omega
    · have hqn : q = n2 := by omega
      subst hqn
      have hlt' : ¬ (q : Int) < (q : Int) := by omega
      have h9 := hE3.size
      have RF4 := RF wr (Nat.le_trans h9 HB.out.size)
      have hJr := hJ3.below HB.out
      have hjr := (HB.out.block _ hjl).trans hjA
      have u0 := cell_row (i := 0) hjr rfl
      have u1 := cell_row (i := 1) hjr rfl
      have u2 := cell_row (i := 2) hjr rfl
      have u3 := cell_row (i := 3) hjr rfl
      have u4 := cell_row (i := 4) hjr rfl
      have hul := lt_row hjr
      clear hkA HB5 HF5 HF RF hJ3 hjA
      go_wp2_with (go_at_call 17; go_must (refine RF4.mono ?_; rintro e w6 ⟨fa', fc', aa', ac', cs', rfl, hj6, hb6⟩; refine Hid.out ?_))
      refine Lib.hid ?_
      have hjr6 := (hb6.block _ (lt_row hjr)).trans hjr
      have hJ6 := hJr.below hb6
      have HB6 := hide (HB3.out.trans ((HB.out.trans (hb6.mono HB.out.size)).mono HB3.out.size))
      have o0 := cell_row (i := 0) hjr6 rfl
      have o1 := cell_row (i := 1) hjr6 rfl
      have o2 := cell_row (i := 2) hjr6 rfl
      have o3 := cell_row (i := 3) hjr6 rfl
      have o4 := cell_row (i := 4) hjr6 rfl
      have hol := lt_row hjr6
      obtain ⟨sm1, sm2, sm3⟩ := HSM.out
      have SJ := fun (W : World) (hb : Below w6.heap.size w6 W) => sameJob_any ⟨fa, fs.length, fc, mn, aa, ar.length, ac, fu, ta⟩ ⟨fa', fs.length, fc', mn, aa', ar.length, ac', fu, ta⟩ cs cs' fs ar W (hJ6.below hb) (hj6.below hb) rfl rfl rfl (by omega) (by omega) (fun f hf => by have := sm3 f hf; omega)
      simp only [JV.cells] at SJ
      have hbz := alloc_below w6 (.cells #[.slice fa' fs.length fc', .int .i64 mn, .slice aa' ar.length ac', .int .i64 fu, .int .i64 ta] 25)
      clear RF4 u0 u1 u2 u3 u4 hul hjr hJr y0 hkl
      go_wp2_with (first
        | (go_at_call 15; go_must (refine (num_any _ _).mono ?_; rintro e wz ⟨rfl, hwz⟩; replace hwz := hwz.symm; subst hwz))
        | (go_at_call 16; go_must (refine (SJ _ hbz).mono ?_; rintro e w8 ⟨rfl, hb8⟩)))
      go_ret
      exact ⟨rfl, (HB6.out.trans (hbz.mono HB6.out.size)).trans (hb8.mono (Nat.le_trans HB6.out.size hbz.size))⟩
end Go.Proofs.YtfnloomcianbiaaDoor
