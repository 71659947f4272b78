/- CodeTells: the walk. -/
import Derived.Test.YthimbiigjdmhnaaDoorOps
import Derived.Deep.CutRange
import Derived.Deep.RegionHeld3
namespace Go.Proofs.YthimbiigjdmhnaaDoor
open Go.RowKit Go.ChangeShapes Go.WideShapes Go.ChangeAt Go.Deep
namespace codeTells

theorem chain {a b c : World} (h : Below a.heap.size a b) (k : Below b.heap.size b c) : Below a.heap.size a c := h.trans (k.mono h.size)
theorem alloc_below (w : World) (o : Obj) : Below w.heap.size w (w.alloc o) := (Below.refl _ _).alloc (Nat.le_refl _) _
theorem own_reads_n {w w' : World} {v : Value} {l : List Int} {n : Nat} (h : Own w w' v l) (hn : n = l.length) : ∃ a cap, v = .slice a n cap ∧ Reads w' a (iV l) := by subst hn; exact own_reads h
theorem own_n {w w' : World} {v : Value} {l : List Int} {n : Nat} (h : Own w w' v l) (hn : n = l.length) : w'.ownsRow w.heap.size 3 1 v n (iV l) := by subst hn; exact h.1
/-- A cell of a row of one's own: it is there, it may be written, and the row stays one's own. -/
theorem own_cell {w : World} {B n cap j : Nat} {a : Option Addr} {xs : List Value} (h : w.ownsRow B 3 1 (.slice a n cap) n xs) (hj : j < n) :
    ∃ g, a = some ⟨g, 0, none⟩ ∧ B ≤ g ∧ ∃ u, w.cell? ⟨g, j, none⟩ = some u ∧ w.frozen? ⟨g, j, none⟩ = false ∧ ∀ v : Value, (w.setCell ⟨g, j, none⟩ v).ownsRow B 3 1 (.slice a n cap) n (xs.set j v) := by
  have h' := h
  rcases h.2 with ⟨e, e2⟩ | ⟨g, cap', cur, e, hB, _⟩
  · omega
  · simp at e
    obtain ⟨rfl, rfl⟩ := e
    have hx : j < xs.length := by have := h.1; omega
    exact ⟨g, rfl, hB, xs[j], by rw [h'.cellAt j (by omega)]; exact List.getElem?_eq_getElem hx, h'.frozenAt j, fun v => (h'.stored j v).1⟩
theorem nextL_len (op n s : Int) : (nextL op n s).length ≤ 2 := by
  unfold nextL
  split
  · simp
  · split
    · simp
    · split <;> simp

set_option maxRecDepth 100000 in
set_option maxHeartbeats 2000000 in
theorem walk0 (op n : Int) (a : Option Addr) (len cap : Nat) (ns : List Int) (p : Int) (s : ByteArray) (w : World) (hT : Tab w) (hl : ns.length = len) (hr : FReads w a ns)
    (h1 : len ≤ 100) (h2 : p ≤ 1099511627776) (h3 : s.size ≤ 1000) :
    Calls Tryd.prog 3 #[.agg #[.int .i64 op, .int .i64 n], .slice a len cap, .int .i64 p, .string s] w fun e w' => e = .returned (.bool true) ∧ Below w.heap.size w w' := by
  have hbA := alloc_below w (.cells #[.int .i64 op, .int .i64 n] 23)
  have A := alive_any _ (hT.below hbA)
  have NX := fun w hT => next_any op n p w hT
  have NY := fun w => refNext_any op n p w
  have hL2 := nextL_len op n (wrap64 (p + 1))
  generalize nextL op n (wrap64 (p + 1)) = L at NX NY hL2
  obtain ⟨ll, hl0⟩ : ∃ ll, ll = L.length := ⟨_, rfl⟩
  rw [← hl0] at hL2
  have hll := hide hl0
  clear hl0
  replace NX := hide NX
  replace NY := hide NY
  have hh2 : (len : Int) ≤ 100 := by omega
  have hh3 : (s.size : Int) ≤ 1000 := by omega
  go_enter Tryd.func3, Tryd.ntmps3
  go_upto_region 8 with (first
    | (go_at_call 6; go_must (refine A.mono ?_; rintro e w1 ⟨rfl, hb1⟩; have hT1 := (hT.below hbA).below hb1; obtain ⟨i10, i11⟩ : w1.cell? ⟨w.heap.size, 0, none⟩ = some (.int .i64 op) ∧ w1.cell? ⟨w.heap.size, 1, none⟩ = some (.int .i64 n) := ⟨box0 hb1, box1 hb1⟩; have O1 := op_any s w1 hT1))
    | (go_at_call 7; go_must (refine O1.mono ?_; rintro e wz ⟨k, ok, rfl, hk, hw⟩; subst wz; have O2 := refOp_any s w1))
    | (go_at_call 8; go_must (refine O2.mono ?_; rintro e w2 ⟨k', ok', rfl, hk', hb2⟩; obtain ⟨e1, e2⟩ := hk.one hk'; subst k'; subst ok'; have hT2 := hT1.below hb2; have i20 := keep_cell i10 hb2; have i21 := keep_cell i11 hb2))
    | (go_at_call 9; go_must (refine (NX.out w2 hT2).mono ?_; rintro e w3 ⟨v, rfl, ho⟩; obtain ⟨la, lc, rfl, rl⟩ := own_reads_n ho hll.out; have hb3 := ho.2; have i30 := keep_cell i20 hb3; have i31 := keep_cell i21 hb3))
    | (go_at_call 11; go_must (refine (NY.out w3).mono ?_; rintro e w4 ⟨v, rfl, ho4⟩; obtain ⟨lb, ld, rfl, rl4⟩ := own_reads_n ho4 hll.out; have hb4 := ho4.2; have S5 := same_any la lb lc ld ll ll L L w4 hll.out.symm hll.out.symm (rl.below hb4) rl4 (by omega) (by omega); rw [decide_eq_true (rfl : L = L)] at S5))
    | (go_at_call 10; go_must (refine S5.mono ?_; rintro e w5 ⟨rfl, hb5⟩; clear S5)))
  have hB5 := chain hb3 (chain hb4 hb5)
  have ho5 := own_below (own_n ho hll.out) (chain hb4 hb5)
  have hbw2 := chain (chain hbA hb1) hb2
  clear A hb1 hb2 hb3 hb4 hb5 ho ho4 rl rl4 i10 i11 i30 i31 hk hk' hbA hT1
  go_wp2
  go_loopw [16] (fun i wr => ∃ k : Nat, k ≤ ll ∧ i = .int .i64 (k : Nat) ∧ Hid (Below w2.heap.size w2 wr) ∧ Hid (∃ xs, wr.ownsRow w2.heap.size 3 1 (.slice la ll lc) ll xs)) (fun i _ => ll - (intOf i).toNat)
  case atStart => exact ⟨0, Nat.zero_le _, rfl, hB5, _, ho5⟩
  case round =>
    obtain ⟨j, hj, rfl, hBr, hox⟩ := hrel
    by_cases hlt : j < ll
    · obtain ⟨xs, ho⟩ := hox.out
      obtain ⟨g, rfl, hg1, u, hc, hf, hst⟩ := own_cell ho hlt
      have HS := hide (hst (.int .i64 (-5)))
      have HB := hide (hBr.out.setCell (p := ⟨g, j, none⟩) hg1 (.int .i64 (-5)))
      have hji : (j : Int) < (ll : Int) := by omega
      clear ho hst hBr hox ho5
      go_wp2
      go_roundw
      case rel => exact ⟨j + 1, by omega, by go_num, HB, _, HS.out⟩
      case measure => simp [intOf]; omega
    · have hBr := hBr.out
      have hTr := hT2.below hBr
      have i0 := keep_cell i20 hBr
      have i1 := keep_cell i21 hBr
      have hrr := hr.below (chain hbw2 hBr)
      have hbw := chain hbw2 hBr
      have hN : Below wr.heap.size wr wr.drew := (Below.refl _ _).drew
      clear hox ho5 hB5 hBr i20 i21 hT2 hbw2 hT hr
      have C12 := hide (fun w hT => name_any op w hT)
      have C13 := hide (fun w => refName_any op w)
      have C14 := hide (fun w hT => hasN_any op w hT)
      have C15 := hide (fun w => refHasN_any op w)
      have C16 := hide (fun w hT hr => pops_any op n a len cap ns w hT hl hr)
      have C17 := hide (fun w hr => refPops_any op n a len cap ns w hl hr)
      have C18 := hide (fun w hT => pushes_any op n w hT)
      have C19 := hide (fun w => refPushes_any op n w)
      generalize popsOf op n ns = kp at C16 C17
      generalize kindOf op = kd at C12 C13 C14 C15 C18 C19
      go_upto_region 12 with fail
      go_region_held3 (fun w' => w'.cell? ⟨w.heap.size, 0, none⟩ = some (.int .i64 op) ∧ w'.cell? ⟨w.heap.size, 1, none⟩ = some (.int .i64 n)) (exact ⟨keep_cell i0 hN, keep_cell i1 hN⟩) (first
        | (go_at_call 9; refine (NX.out _ (hTr.below hN)).mono ?_; rintro e w6 ⟨v, rfl, ho6⟩; obtain ⟨xa, xc, rfl, r6⟩ := own_reads_n ho6 hll.out; have hN := chain hN ho6.2)
        | (go_at_call 11; refine (NY.out _).mono ?_; rintro e w7 ⟨v, rfl, ho7⟩; obtain ⟨ya, yc, rfl, r7⟩ := own_reads_n ho7 hll.out; have r6 := r6.below ho7.2; have hN := chain hN ho7.2; have S8 := same_any xa ya xc yc ll ll L L w7 hll.out.symm hll.out.symm r6 r7 (by omega) (by omega); rw [decide_eq_true (rfl : L = L)] at S8)
        | (go_at_call 10; refine S8.mono ?_; rintro e w8 ⟨rfl, hb⟩; have hN := chain hN hb)
        | (go_at_call 12; refine (C12.out _ (hTr.below hN)).mono ?_; rintro e w9 ⟨rfl, hb⟩; have hN := chain hN hb)
        | (go_at_call 13; refine (C13.out _).mono ?_; rintro e w10 ⟨rfl, hb⟩; have hN := chain hN hb)
        | (go_at_call 14; refine (C14.out _ (hTr.below hN)).mono ?_; rintro e w11 ⟨rfl, hb⟩; have hN := chain hN hb)
        | (go_at_call 15; refine (C15.out _).mono ?_; rintro e wz ⟨rfl, hb⟩; subst wz)
        | (go_at_call 16; refine (C16.out _ (hTr.below hN) (hrr.below hN)).mono ?_; rintro e w12 ⟨rfl, hb⟩; have hN := chain hN hb)
        | (go_at_call 17; refine (C17.out _ (hrr.below hN)).mono ?_; rintro e w13 ⟨rfl, hb⟩; have hN := chain hN hb)
        | (go_at_call 18; refine (C18.out _ (hTr.below hN)).mono ?_; rintro e w14 ⟨rfl, hb⟩; have hN := chain hN hb)
        | (go_at_call 19; refine (C19.out _).mono ?_; rintro e w15 ⟨rfl, hb⟩; have hN := chain hN hb))
      go_wp2
      go_ret
      exact ⟨rfl, chain hbw hN⟩
end codeTells
end Go.Proofs.YthimbiigjdmhnaaDoor
