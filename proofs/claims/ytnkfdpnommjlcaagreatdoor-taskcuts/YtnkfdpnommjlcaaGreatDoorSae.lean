/- The document's look: two events are one. -/
import Derived.Test.YtnkfdpnommjlcaaGreatDoorPlyQ
namespace Go.Proofs.YtnkfdpnommjlcaaGreatDoor
open Go.RowKit Go.ChangeShapes Go.WideShapes Go.ChangeAt Go.Deep

set_option linter.unusedSimpArgs false in
set_option maxRecDepth 100000 in
set_option maxHeartbeats 2000000 in
theorem same_ints (a b : Option Addr) (ac bc n : Nat) (xs : List Int) (w : World) (hl : xs.length = n) (hn : n ≤ 9223372036854775807) (hra : Reads w a (iV xs)) (hrb : Reads w b (iV xs)) : Calls Tryz.prog 34 #[.slice a n ac, .slice b n bc] w fun e w' => e = .returned (.bool true) ∧ Below w.heap.size w w' := by
  go_enter Tryz.func34, Tryz.ntmps34
  go_wp2_with fail
  go_loopw [5] (fun i wr => Hid (Below w.heap.size w wr) ∧ ∃ k : Nat, k ≤ n ∧ i = .int .i64 (k : Nat)) (fun i _ => n - (intOf i).toNat)
  case atStart => exact ⟨Below.refl _ _, 0, Nat.zero_le _, rfl⟩
  case round =>
    obtain ⟨hbw, k, hk, rfl⟩ := hrel
    by_cases hlt : k < n
    · have hlt' : (k : Int) < (n : Int) := by omega
      have hx : xs[k]? = some (xs[k]'(by omega)) := List.getElem?_eq_getElem (by omega)
      generalize xs[k]'(by omega) = x at hx
      obtain ⟨b1, o1, e1, c1⟩ := reads_iV (hra.below hbw.out) hx
      obtain ⟨b2, o2, e2, c2⟩ := reads_iV (hrb.below hbw.out) hx
      subst e1
      subst e2
      have hxx : (x != x) = false := by simp
      go_wp2_with fail
      go_big_quiet (fail)
      have HB := hide (below_drewN' hbw.out nq)
      go_wp2_with fail
      go_roundw
      case rel => exact ⟨HB, k + 1, by omega, by go_num⟩
      case measure => simp [intOf]; omega
    · have hlt' : ¬ (k : Int) < (n : Int) := by omega
      go_wp2_with fail
      go_ret
      exact ⟨rfl, hbw.out⟩

set_option linter.unusedSimpArgs false in
set_option maxRecDepth 100000 in
set_option maxHeartbeats 2000000 in
theorem same_result (x y : Int) (w : World) : Calls Tryz.prog 35 #[.agg #[.int .i64 x, .int .i64 y], .agg #[.int .i64 x, .int .i64 y]] w fun e w' => e = .returned (.bool true) ∧ Below w.heap.size w w' := by
  have hb : Below w.heap.size w ((w.alloc (.cells #[.int .i64 x, .int .i64 y] 35)).alloc (.cells #[.int .i64 x, .int .i64 y] 35)) := ((Below.refl _ _).alloc (Nat.le_refl _) _).alloc (by simp) _
  have h1 : (x == x) = true := by simp
  have h2 : (y == y) = true := by simp
  go_enter Tryz.func35, Tryz.ntmps35
  go_wp2_with fail
  go_ret
  exact ⟨rfl, hb⟩

set_option linter.unusedSimpArgs false in
set_option maxRecDepth 100000 in
set_option maxHeartbeats 4000000 in
theorem same_state (fn pc fu kd : Int) (wt : Bool) (sa ta la ma : Option Addr) (sc tc lc mc n k : Nat) (st lo : List Int) (w : World) (hn : st.length = n) (hk : lo.length = k) (hn1 : n ≤ 9223372036854775807) (hk1 : k ≤ 9223372036854775807) (h1 : Reads w sa (iV st)) (h2 : Reads w ta (iV st)) (h3 : Reads w la (iV lo)) (h4 : Reads w ma (iV lo)) :
    Calls Tryz.prog 13 #[.agg #[.int .i64 fn, .int .i64 pc, .int .i64 fu, .slice sa n sc, .slice la k lc, .int .i64 kd, .bool wt], .agg #[.int .i64 fn, .int .i64 pc, .int .i64 fu, .slice ta n tc, .slice ma k mc, .int .i64 kd, .bool wt]] w fun e w' => e = .returned (.bool true) ∧ Below w.heap.size w w' := by
  have hb : Below w.heap.size w ((w.alloc (.cells #[.int .i64 fn, .int .i64 pc, .int .i64 fu, .slice sa n sc, .slice la k lc, .int .i64 kd, .bool wt] 29)).alloc (.cells #[.int .i64 fn, .int .i64 pc, .int .i64 fu, .slice ta n tc, .slice ma k mc, .int .i64 kd, .bool wt] 29)) := ((Below.refl _ _).alloc (Nat.le_refl _) _).alloc (by simp) _
  have p1 : ((w.alloc (.cells #[.int .i64 fn, .int .i64 pc, .int .i64 fu, .slice sa n sc, .slice la k lc, .int .i64 kd, .bool wt] 29)).alloc (.cells #[.int .i64 fn, .int .i64 pc, .int .i64 fu, .slice ta n tc, .slice ma k mc, .int .i64 kd, .bool wt] 29)).heap[w.heap.size]? = some (.cells [.int .i64 fn, .int .i64 pc, .int .i64 fu, .slice sa n sc, .slice la k lc, .int .i64 kd, .bool wt].toArray 29 (0, 0)) := by
    rw [heap_alloc_old _ _ (by simp), heap_alloc_new]
  have p2 : ((w.alloc (.cells #[.int .i64 fn, .int .i64 pc, .int .i64 fu, .slice sa n sc, .slice la k lc, .int .i64 kd, .bool wt] 29)).alloc (.cells #[.int .i64 fn, .int .i64 pc, .int .i64 fu, .slice ta n tc, .slice ma k mc, .int .i64 kd, .bool wt] 29)).heap[w.heap.size + 1]? = some (.cells [.int .i64 fn, .int .i64 pc, .int .i64 fu, .slice ta n tc, .slice ma k mc, .int .i64 kd, .bool wt].toArray 29 (0, 0)) := by
    have := heap_alloc_new (w.alloc (.cells #[.int .i64 fn, .int .i64 pc, .int .i64 fu, .slice sa n sc, .slice la k lc, .int .i64 kd, .bool wt] 29)) (.cells #[.int .i64 fn, .int .i64 pc, .int .i64 fu, .slice ta n tc, .slice ma k mc, .int .i64 kd, .bool wt] 29)
    simpa using this
  have C1 := same_ints sa ta sc tc n st _ hn hn1 (h1.below hb) (h2.below hb)
  go_enter Tryz.func13, Tryz.ntmps13
  go_upto_region 1 with fail
  have HL := hide (fun (W : World) (hW : Below w.heap.size w W) => same_ints la ma lc mc k lo W hk hk1 (h3.below hW) (h4.below hW))
  clear h1 h2 h3 h4
  generalize ((w.alloc (.cells #[.int .i64 fn, .int .i64 pc, .int .i64 fu, .slice sa n sc, .slice la k lc, .int .i64 kd, .bool wt] 29)).alloc (.cells #[.int .i64 fn, .int .i64 pc, .int .i64 fu, .slice ta n tc, .slice ma k mc, .int .i64 kd, .bool wt] 29)) = w1 at *
  have x0 := cell_row (i := 0) p1 rfl
  have x1 := cell_row (i := 1) p1 rfl
  have x2 := cell_row (i := 2) p1 rfl
  have x3 := cell_row (i := 3) p1 rfl
  have x5 := cell_row (i := 5) p1 rfl
  have x6 := cell_row (i := 6) p1 rfl
  have y0 := cell_row (i := 0) p2 rfl
  have y1 := cell_row (i := 1) p2 rfl
  have y2 := cell_row (i := 2) p2 rfl
  have y3 := cell_row (i := 3) p2 rfl
  have y5 := cell_row (i := 5) p2 rfl
  have y6 := cell_row (i := 6) p2 rfl
  have g0 : (fn == fn) = true := by simp
  have g1 : (pc == pc) = true := by simp
  have g2 : (fu == fu) = true := by simp
  have g5 : (kd == kd) = true := by simp
  have g6 : (wt == wt) = true := by simp
  go_wp2_with (go_at_call 34; go_must (with_reducible refine C1.mono ?_; (rintro e w2 ⟨rfl, hb2⟩); refine Hid.out ?_))
  refine Lib.hid ?_
  have hb02 := chain hb hb2
  have C2 := HL.out w2 hb02
  have x4 := keep_cell (cell_row (i := 4) p1 rfl) hb2
  have y4 := keep_cell (cell_row (i := 4) p2 rfl) hb2
  clear x0 x1 x2 x3 x5 x6 y0 y1 y2 y3 y5 y6 g0 g1 g2 g5 g6 C1 hb2 hb p1 p2
  go_wp2_with (go_at_call 34; go_must (with_reducible refine C2.mono ?_; (rintro e w3 ⟨rfl, hb3⟩)))
  go_ret
  exact ⟨rfl, chain hb02 hb3⟩
end Go.Proofs.YtnkfdpnommjlcaaGreatDoor
namespace Go.Proofs.YtnkfdpnommjlcaaGreatDoor
open Go.RowKit Go.ChangeShapes Go.WideShapes Go.ChangeAt Go.Deep

set_option linter.unusedSimpArgs false in
set_option maxRecDepth 100000 in
set_option maxHeartbeats 4000000 in
theorem same_event (ek ef ei es er ev : Int) (aa ba : Option Addr) (ac bc n : Nat) (xs : List Int) (w : World) (hn : xs.length = n) (hn1 : n ≤ 9223372036854775807) (h1 : Reads w aa (iV xs)) (h2 : Reads w ba (iV xs)) :
    Calls Tryz.prog 12 #[.agg #[.int .i64 ek, .int .i64 ef, .int .i64 ei, .int .i64 es, .slice aa n ac, .int .i64 er, .int .i64 ev], .agg #[.int .i64 ek, .int .i64 ef, .int .i64 ei, .int .i64 es, .slice ba n bc, .int .i64 er, .int .i64 ev]] w fun e w' => e = .returned (.bool true) ∧ Below w.heap.size w w' := by
  have hb : Below w.heap.size w ((w.alloc (.cells #[.int .i64 ek, .int .i64 ef, .int .i64 ei, .int .i64 es, .slice aa n ac, .int .i64 er, .int .i64 ev] 37)).alloc (.cells #[.int .i64 ek, .int .i64 ef, .int .i64 ei, .int .i64 es, .slice ba n bc, .int .i64 er, .int .i64 ev] 37)) := ((Below.refl _ _).alloc (Nat.le_refl _) _).alloc (by simp) _
  have p1 : ((w.alloc (.cells #[.int .i64 ek, .int .i64 ef, .int .i64 ei, .int .i64 es, .slice aa n ac, .int .i64 er, .int .i64 ev] 37)).alloc (.cells #[.int .i64 ek, .int .i64 ef, .int .i64 ei, .int .i64 es, .slice ba n bc, .int .i64 er, .int .i64 ev] 37)).heap[w.heap.size]? = some (.cells [.int .i64 ek, .int .i64 ef, .int .i64 ei, .int .i64 es, .slice aa n ac, .int .i64 er, .int .i64 ev].toArray 37 (0, 0)) := by
    rw [heap_alloc_old _ _ (by simp), heap_alloc_new]
  have p2 : ((w.alloc (.cells #[.int .i64 ek, .int .i64 ef, .int .i64 ei, .int .i64 es, .slice aa n ac, .int .i64 er, .int .i64 ev] 37)).alloc (.cells #[.int .i64 ek, .int .i64 ef, .int .i64 ei, .int .i64 es, .slice ba n bc, .int .i64 er, .int .i64 ev] 37)).heap[w.heap.size + 1]? = some (.cells [.int .i64 ek, .int .i64 ef, .int .i64 ei, .int .i64 es, .slice ba n bc, .int .i64 er, .int .i64 ev].toArray 37 (0, 0)) := by
    have := heap_alloc_new (w.alloc (.cells #[.int .i64 ek, .int .i64 ef, .int .i64 ei, .int .i64 es, .slice aa n ac, .int .i64 er, .int .i64 ev] 37)) (.cells #[.int .i64 ek, .int .i64 ef, .int .i64 ei, .int .i64 es, .slice ba n bc, .int .i64 er, .int .i64 ev] 37)
    simpa using this
  have C1 := same_ints aa ba ac bc n xs _ hn hn1 (h1.below hb) (h2.below hb)
  have C2 := fun w => same_result er ev w
  go_enter Tryz.func12, Tryz.ntmps12
  go_upto_region 1 with fail
  clear h1 h2
  generalize ((w.alloc (.cells #[.int .i64 ek, .int .i64 ef, .int .i64 ei, .int .i64 es, .slice aa n ac, .int .i64 er, .int .i64 ev] 37)).alloc (.cells #[.int .i64 ek, .int .i64 ef, .int .i64 ei, .int .i64 es, .slice ba n bc, .int .i64 er, .int .i64 ev] 37)) = w1 at *
  have x0 := cell_row (i := 0) p1 rfl
  have x1 := cell_row (i := 1) p1 rfl
  have x2 := cell_row (i := 2) p1 rfl
  have x3 := cell_row (i := 3) p1 rfl
  have x4 := cell_row (i := 4) p1 rfl
  have y0 := cell_row (i := 0) p2 rfl
  have y1 := cell_row (i := 1) p2 rfl
  have y2 := cell_row (i := 2) p2 rfl
  have y3 := cell_row (i := 3) p2 rfl
  have y4 := cell_row (i := 4) p2 rfl
  have g0 : (ek == ek) = true := by simp
  have g1 : (ef == ef) = true := by simp
  have g2 : (ei == ei) = true := by simp
  have g3 : (es == es) = true := by simp
  go_wp2_with (go_at_call 34; go_must (with_reducible refine C1.mono ?_; (rintro e w2 ⟨rfl, hb2⟩); refine Hid.out ?_))
  refine Lib.hid ?_
  have hb02 := chain hb hb2
  have x5 := keep_cell (cell_row (i := 5) p1 rfl) hb2
  have x6 := keep_cell (cell_row (i := 6) p1 rfl) hb2
  have y5 := keep_cell (cell_row (i := 5) p2 rfl) hb2
  have y6 := keep_cell (cell_row (i := 6) p2 rfl) hb2
  clear x0 x1 x2 x3 x4 y0 y1 y2 y3 y4 g0 g1 g2 g3 C1 hb2 hb p1 p2
  go_wp2_with (go_at_call 35; go_must (with_reducible refine (C2 _).mono ?_; (rintro e w3 ⟨rfl, hb3⟩)))
  go_ret
  exact ⟨rfl, chain hb02 hb3⟩
end Go.Proofs.YtnkfdpnommjlcaaGreatDoor
