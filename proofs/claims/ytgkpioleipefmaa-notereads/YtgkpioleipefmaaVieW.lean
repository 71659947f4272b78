/- NoteViews' walk. -/
import Derived.Test.YtgkpioleipefmaaNoH
namespace Go.Proofs.Ytgkpioleipefmaa
namespace noteViews
open Go.RowKit Go.ChangeShapes Go.WideShapes Go.ChangeAt Go.Deep

theorem rises_snoc : ∀ (l : List (Int × Int)) (x : Int × Int), rises (l ++ [x]) = (rises l && (match l.getLast? with | none => true | some y => decide (y.1 < x.1)))
  | [], x => rfl
  | [a], x => by simp [rises]
  | a :: b :: r, x => by
    have h := rises_snoc (b :: r) x
    simp only [List.cons_append, rises] at h ⊢
    rw [h]
    simp [List.getLast?_cons_cons, Bool.and_assoc]
/-- What the law has found behind k members. -/
def vOk (ep : Int) (mem : List (Int × Int)) (k : Nat) : Bool := okNum ep && decide (mem.length ≤ 16) && ((mem.take k).all fun m => okN 15 m.1 && okNum m.2) && rises (mem.take k)
theorem vOk_zero (ep : Int) (mem : List (Int × Int)) : vOk ep mem 0 = (okNum ep && decide (mem.length ≤ 16)) := by simp [vOk, rises]
theorem vOk_all (ep : Int) (mem : List (Int × Int)) {k : Nat} (h : mem.length ≤ k) : vOk ep mem k = okView ep mem := by
  unfold vOk okView
  rw [List.take_of_length_le h]
theorem vOk_step (ep : Int) (mem : List (Int × Int)) (k : Nat) (hk : k < mem.length) : vOk ep mem (k + 1) = (vOk ep mem k && (okN 15 mem[k].1 && okNum mem[k].2 && (match (mem.take k).getLast? with | none => true | some y => decide (y.1 < mem[k].1)))) := by
  unfold vOk
  rw [List.take_succ_eq_append_getElem hk, rises_snoc, List.all_append]
  generalize okNum ep = p1
  generalize decide (mem.length ≤ 16) = p2
  generalize ((mem.take k).all fun m => okN 15 m.1 && okNum m.2) = p3
  generalize rises (mem.take k) = p4
  simp only [List.all_cons, List.all_nil]
  generalize okN 15 mem[k].1 = p5
  generalize okNum mem[k].2 = p6
  generalize (match (mem.take k).getLast? with | none => true | some y => decide (y.1 < mem[k].1)) = p7
  cases p1 <;> cases p2 <;> cases p3 <;> cases p4 <;> cases p5 <;> cases p6 <;> cases p7 <;> rfl
theorem last_zero (mem : List (Int × Int)) (x : Int) : (match (mem.take 0).getLast? with | none => true | some y => decide (y.1 < x)) = true := by simp
theorem last_some (mem : List (Int × Int)) (k : Nat) (hk : k < mem.length) (x : Int) : (match (mem.take (k + 1)).getLast? with | none => true | some y => decide (y.1 < x)) = decide (mem[k].1 < x) := by
  rw [List.take_succ_eq_append_getElem hk, List.getLast?_concat]
theorem vOk_down (ep : Int) (mem : List (Int × Int)) (h : okView ep mem = true) : ∀ (d k : Nat), k + d = mem.length → vOk ep mem k = true
  | 0, k, e => by rw [vOk_all ep mem (by omega)]; exact h
  | d + 1, k, e => by
    have h1 := vOk_down ep mem h d (k + 1) (by omega)
    rw [vOk_step ep mem k (by omega)] at h1
    simp only [Bool.and_eq_true] at h1
    exact h1.1
theorem vOk_true {ep : Int} {mem : List (Int × Int)} (h : okView ep mem = true) {k : Nat} (hk : k ≤ mem.length) : vOk ep mem k = true := vOk_down ep mem h (mem.length - k) k (by omega)
def vN (ep : Int) (mem : List (Int × Int)) : No := ⟨2, 99, -1, 0, [], 0, [], 0, 0, ep, mem⟩
def vC (ep : Int) (mem : List (Int × Int)) : No := ⟨2, 0, 0, 0, [], 0, [], 0, 0, ep, mem⟩
theorem vN_clear (ep : Int) (mem : List (Int × Int)) : clearN (vN ep mem) = vC ep mem := by
  simp [clearN, vN, vC, isKind, hasNode, hasLife, hasEpoch, hasId, hasFunc, hasRes, hasView]
theorem vC_clear (ep : Int) (mem : List (Int × Int)) : clearN (vC ep mem) = vC ep mem := by
  simp [clearN, vC, isKind, hasNode, hasLife, hasEpoch, hasId, hasFunc, hasRes, hasView]
theorem vC_may (ep : Int) (mem : List (Int × Int)) : mayN (vC ep mem) = okView ep mem := by
  unfold mayN vC
  simp [isKind, okN, okNum, okId, okRes]
theorem vN_in {ep : Int} {mem : List (Int × Int)} (h1 : In1 ep) (h2 : ∀ m ∈ mem, In1 m.1 ∧ In1 m.2) : NIn (vN ep mem) := by
  refine ⟨⟨?_, ?_, ?_, ?_⟩, ⟨?_, ?_⟩, ⟨?_, ?_⟩, h1, h2⟩ <;> simp [vN, In1, In64]
theorem vC_in {ep : Int} {mem : List (Int × Int)} (h1 : In1 ep) (h2 : ∀ m ∈ mem, In1 m.1 ∧ In1 m.2) : NIn (vC ep mem) := by
  refine ⟨⟨?_, ?_, ?_, ?_⟩, ⟨?_, ?_⟩, ⟨?_, ?_⟩, h1, h2⟩ <;> simp [vC, In1, In64]
theorem vN_mem {w : World} {ep : Int} {mem : List (Int × Int)} {a : Option Addr} {l c : Nat} (hl : mem.length = l) (hln : l ≤ 100) (hc : l ≤ c ∧ c ≤ maxLen) (hn : a = none → l = 0 ∧ c = 0) (hr : Reads w a (mV mem)) : NM 0 w (vN ep mem) ⟨#[]⟩ (.slice none 0 0) (.slice a l c) :=
  ⟨rfl, (by show (0 : Nat) ≤ 20000; omega), (by show (0 : Nat) ≤ 20000; omega), (by show mem.length ≤ 20000; omega), RowV.nil _ _, ⟨a, l, c, rfl, hl, hc, hn, hr, fun _ _ => Nat.zero_le _⟩⟩

set_option maxRecDepth 100000 in
set_option maxHeartbeats 16000000 in
theorem long (ep : Int) (a : Option Addr) (l c : Nat) (w : World) (h : 100 < l) : Calls Try.prog 8 #[.agg #[.int .i64 ep, .slice a l c]] w fun e w' => e = .returned (.bool true) ∧ Below w.heap.size w w' := by
  have HX0 := hide (BoxL.new w [.int .i64 ep, .slice a l c] 29)
  have HB0 := hide (below_new w (.cells #[.int .i64 ep, .slice a l c] 29))
  obtain ⟨V, hV⟩ : ∃ V, V = w.alloc (.cells #[.int .i64 ep, .slice a l c] 29) := ⟨_, rfl⟩
  have HX := hide (show BoxL V w.heap.size [.int .i64 ep, .slice a l c] by rw [hV]; exact HX0.out)
  have HB := hide (show Below w.heap.size w V by rw [hV]; exact HB0.out)
  have HV := hide hV
  clear hV HX0 HB0
  go_enter Try.func8, Try.ntmps8
  go_wp2_with (go_at_call 9; go_must (rw [← HV.out]; (with_reducible refine (alive_any V).mono ?_); rintro e w1 ⟨rfl, hb1⟩; obtain ⟨-, ⟨c1, -⟩⟩ := (HX.out.below hb1).c2))
  go_ret
  exact ⟨rfl, HB.out.trans (hb1.mono HB.out.size)⟩

set_option maxRecDepth 100000 in
set_option maxHeartbeats 16000000 in
theorem no (ep : Int) (mem : List (Int × Int)) (a : Option Addr) (l c : Nat) (w : World) (hl : mem.length = l) (hln : l ≤ 100) (hc : l ≤ c ∧ c ≤ maxLen) (hn : a = none → l = 0 ∧ c = 0) (hr : Reads w a (mV mem)) (h1 : In1 ep) (h2 : ∀ m ∈ mem, In1 m.1 ∧ In1 m.2) (hok : okView ep mem = false) : Calls Try.prog 8 #[.agg #[.int .i64 ep, .slice a l c]] w fun e w' => e = .returned (.bool true) ∧ Below w.heap.size w w' := by
  have CP := hide (fun W (hb : Below w.heap.size w W) => packN (vN ep mem) ⟨#[]⟩ (.slice none 0 0) (.slice a l c) 0 W (vN_mem hl hln hc hn (hr.below hb)) (vN_in h1 h2) (by rw [vN_clear, vC_may]; exact hok))
  simp only [Nv, vN] at CP
  have HX0 := hide (BoxL.new w [.int .i64 ep, .slice a l c] 29)
  have HB0 := hide (below_new w (.cells #[.int .i64 ep, .slice a l c] 29))
  obtain ⟨V, hV⟩ : ∃ V, V = w.alloc (.cells #[.int .i64 ep, .slice a l c] 29) := ⟨_, rfl⟩
  have HX := hide (show BoxL V w.heap.size [.int .i64 ep, .slice a l c] by rw [hV]; exact HX0.out)
  have HB := hide (show Below w.heap.size w V by rw [hV]; exact HB0.out)
  have HV := hide hV
  have HOK := hide hok
  have h100 : ¬ 100 < l := by omega
  clear hV HX0 HB0
  have HSZ := hide (show ∀ b : Bool, b = (okNum ep && decide (mem.length ≤ 16)) → b = vOk ep mem 0 from fun b h => by rw [vOk_zero]; exact h)
  by_cases s0 : 0 ≤ ep
  · by_cases s1 : ep ≤ 2147483647
    · have HS0 := hide (HSZ.out (decide ((l : Int) ≤ 16)) (by have e : decide ((l : Int) ≤ 16) = decide (mem.length ≤ 16) := (by rw [hl]; by_cases h : l ≤ 16 <;> simp [h] <;> omega); rw [e]; simp [okNum, okN, s0, s1]))
      clear HSZ
      go_enter Try.func8, Try.ntmps8
      go_wp2_with (first
        | (go_at_call 9; go_must (rw [← HV.out]; (with_reducible refine (alive_any V).mono ?_); rintro e w1 ⟨rfl, hb1⟩; have HX1 := hide (HX.out.below hb1); have HB1 := hide (HB.out.trans (hb1.mono HB.out.size)); obtain ⟨⟨j0, -⟩, ⟨j1, -⟩⟩ := HX1.out.c2))
        | (go_at_call 11; go_must ((with_reducible refine (CP.out w1 HB1.out).mono ?_); rintro e w2 ⟨rfl, hb2⟩; have HX2 := hide (HX1.out.below hb2); have HB2 := hide (HB1.out.trans (hb2.mono HB1.out.size)); obtain ⟨⟨i0, -⟩, ⟨i1, -⟩⟩ := HX2.out.c2)))
      go_loopw [6, 7] (fun ok i wr => Hid (Below w2.heap.size w2 wr) ∧ ∃ (k : Nat) (b : Bool), k ≤ l ∧ i = .int .i64 (k : Nat) ∧ ok = .bool b ∧ Hid (b = vOk ep mem k)) (fun _ i _ => l - (intOf i).toNat)
      case atStart => exact ⟨hide (Below.refl _ _), 0, _, Nat.zero_le _, rfl, rfl, HS0⟩
      case round =>
        obtain ⟨hbw, k, b, hk, rfl, rfl, hb⟩ := hrel
        have HBW := hide (HB2.out.trans (hbw.out.mono HB2.out.size))
        obtain ⟨⟨c0, -⟩, ⟨c1, -⟩⟩ := (HX2.out.below hbw.out).c2
        by_cases hlt : k < l
        · have hka : k < mem.length := by omega
          obtain ⟨cb, off, har, y0, y1⟩ := mem_at (hr.below HBW.out) hka
          have hlt' : (k : Int) < (l : Int) := by omega
          have HST := hide (vOk_step ep mem k hka)
          have hwl : w.heap.size < wr.heap.size := cell_some_lt c0
          have hyl := cell_some_lt y0
          have hyl' : cb < wr.heap.size := hyl
          cases b with
          | false =>
            have HN := hide (show false = vOk ep mem (k + 1) by rw [HST.out, ← hb.out]; rfl)
            clear HST hb
            generalize mem[k] = x at y0 y1
            obtain ⟨x0, x1⟩ := x
            simp only at y0 y1
            subst har
            go_wp2_with fail
            go_big_quiet (fail)
            go_wp2_with fail
            go_roundw
            case rel => exact ⟨hide (below_drewN (hbw.out.alloc hbw.out.size _) _), k + 1, false, by omega, by go_num, rfl, HN⟩
            case measure => simp [intOf]; omega
          | true =>
            have HST2 := hide (show vOk ep mem (k + 1) = (okN 15 mem[k].1 && okNum mem[k].2 && (match (mem.take k).getLast? with | none => true | some y => decide (y.1 < mem[k].1))) by rw [HST.out, ← hb.out]; rfl)
            clear HST hb
            by_cases hk0 : k = 0
            · subst hk0
              rw [last_zero] at HST2
              generalize mem[0] = x at y0 y1 HST2
              obtain ⟨x0, x1⟩ := x
              simp only [Nat.zero_mul, Nat.add_zero] at y0 y1 HST2
              subst har
              by_cases a0 : 0 ≤ x0
              · by_cases a1 : x0 < 16
                · by_cases a2 : 0 ≤ x1
                  · by_cases a3 : x1 ≤ 2147483647
                    · have HN := hide (show true = vOk ep mem (0 + 1) by rw [HST2.out]; simp [okNum, okN]; omega)
                      clear HST2
                      go_wp2_with fail
                      go_big_quiet (fail)
                      go_wp2_with fail
                      go_roundw
                      case rel => exact ⟨hide (below_drewN (hbw.out.alloc hbw.out.size _) _), 0 + 1, true, by omega, by go_num, rfl, HN⟩
                      case measure => simp [intOf]; omega
                    · have HN := hide (show false = vOk ep mem (0 + 1) by rw [HST2.out]; simp [okNum, okN]; omega)
                      clear HST2
                      have dd : decide (x1 ≤ 2147483647) = false := decide_eq_false a3
                      go_wp2_with fail
                      go_big_quiet (fail)
                      go_wp2_with fail
                      go_roundw
                      case rel => exact ⟨hide (below_drewN (hbw.out.alloc hbw.out.size _) _), 0 + 1, false, by omega, by go_num, rfl, HN⟩
                      case measure => simp [intOf]; omega
                  · have HN := hide (show false = vOk ep mem (0 + 1) by rw [HST2.out]; simp [okNum, okN]; omega)
                    clear HST2
                    have dd : decide (0 ≤ x1) = false := decide_eq_false a2
                    go_wp2_with fail
                    go_big_quiet (fail)
                    go_wp2_with fail
                    go_roundw
                    case rel => exact ⟨hide (below_drewN (hbw.out.alloc hbw.out.size _) _), 0 + 1, false, by omega, by go_num, rfl, HN⟩
                    case measure => simp [intOf]; omega
                · have HN := hide (show false = vOk ep mem (0 + 1) by rw [HST2.out]; simp [okNum, okN]; omega)
                  clear HST2
                  have dd : decide (x0 < 16) = false := decide_eq_false a1
                  go_wp2_with fail
                  go_big_quiet (fail)
                  go_wp2_with fail
                  go_roundw
                  case rel => exact ⟨hide (below_drewN (hbw.out.alloc hbw.out.size _) _), 0 + 1, false, by omega, by go_num, rfl, HN⟩
                  case measure => simp [intOf]; omega
              · have HN := hide (show false = vOk ep mem (0 + 1) by rw [HST2.out]; simp [okNum, okN]; omega)
                clear HST2
                have dd : decide (0 ≤ x0) = false := decide_eq_false a0
                go_wp2_with fail
                go_big_quiet (fail)
                go_wp2_with fail
                go_roundw
                case rel => exact ⟨hide (below_drewN (hbw.out.alloc hbw.out.size _) _), 0 + 1, false, by omega, by go_num, rfl, HN⟩
                case measure => simp [intOf]; omega
            · obtain ⟨j, hj⟩ : ∃ j, k = j + 1 := ⟨k - 1, by omega⟩
              have hkp : j < mem.length := by omega
              obtain ⟨cb', off', har', p0, p1⟩ := mem_at (hr.below HBW.out) hkp
              have HLS := hide (fun x => (show (match (mem.take k).getLast? with | none => true | some y => decide (y.1 < x)) = decide (mem[j].1 < x) by rw [hj]; exact last_some mem j hkp x))
              rw [HLS.out] at HST2
              clear HLS
              generalize mem[k] = x at y0 y1 HST2
              generalize mem[j] = y at p0 p1 HST2
              obtain ⟨x0, x1⟩ := x
              obtain ⟨z0, z1⟩ := y
              simp only at y0 y1 p0 p1 HST2
              subst har
              simp only [Option.some.injEq, Addr.mk.injEq, and_true] at har'
              obtain ⟨rfl, rfl⟩ := har'
              have hi1 : (k : Int) - 1 = (j : Int) := by omega
              have hkz : ((k : Int) == 0) = false := by rw [beq_eq_false_iff_ne]; omega
              have hjl : (j : Int) < (l : Int) := by omega
              have HJ := hide hj
              clear hj
              by_cases a0 : 0 ≤ x0
              · by_cases a1 : x0 < 16
                · by_cases a2 : 0 ≤ x1
                  · by_cases a3 : x1 ≤ 2147483647
                    · by_cases a4 : z0 < x0
                      · have HN := hide (show true = vOk ep mem (k + 1) by rw [HST2.out]; simp [okNum, okN]; omega)
                        clear HST2
                        go_wp2_with fail
                        go_big_quiet (fail)
                        go_wp2_with fail
                        go_roundw
                        case rel => exact ⟨hide (below_drewN (hbw.out.alloc hbw.out.size _) _), k + 1, true, by omega, by go_num, rfl, HN⟩
                        case measure => simp [intOf]; omega
                      · have HN := hide (show false = vOk ep mem (k + 1) by rw [HST2.out]; simp [okNum, okN]; omega)
                        clear HST2
                        have dd : decide (z0 < x0) = false := decide_eq_false a4
                        go_wp2_with fail
                        go_big_quiet (fail)
                        go_wp2_with fail
                        go_roundw
                        case rel => exact ⟨hide (below_drewN (hbw.out.alloc hbw.out.size _) _), k + 1, false, by omega, by go_num, rfl, HN⟩
                        case measure => simp [intOf]; omega
                    · have HN := hide (show false = vOk ep mem (k + 1) by rw [HST2.out]; simp [okNum, okN]; omega)
                      clear HST2
                      have dd : decide (x1 ≤ 2147483647) = false := decide_eq_false a3
                      go_wp2_with fail
                      go_big_quiet (fail)
                      go_wp2_with fail
                      go_roundw
                      case rel => exact ⟨hide (below_drewN (hbw.out.alloc hbw.out.size _) _), k + 1, false, by omega, by go_num, rfl, HN⟩
                      case measure => simp [intOf]; omega
                  · have HN := hide (show false = vOk ep mem (k + 1) by rw [HST2.out]; simp [okNum, okN]; omega)
                    clear HST2
                    have dd : decide (0 ≤ x1) = false := decide_eq_false a2
                    go_wp2_with fail
                    go_big_quiet (fail)
                    go_wp2_with fail
                    go_roundw
                    case rel => exact ⟨hide (below_drewN (hbw.out.alloc hbw.out.size _) _), k + 1, false, by omega, by go_num, rfl, HN⟩
                    case measure => simp [intOf]; omega
                · have HN := hide (show false = vOk ep mem (k + 1) by rw [HST2.out]; simp [okNum, okN]; omega)
                  clear HST2
                  have dd : decide (x0 < 16) = false := decide_eq_false a1
                  go_wp2_with fail
                  go_big_quiet (fail)
                  go_wp2_with fail
                  go_roundw
                  case rel => exact ⟨hide (below_drewN (hbw.out.alloc hbw.out.size _) _), k + 1, false, by omega, by go_num, rfl, HN⟩
                  case measure => simp [intOf]; omega
              · have HN := hide (show false = vOk ep mem (k + 1) by rw [HST2.out]; simp [okNum, okN]; omega)
                clear HST2
                have dd : decide (0 ≤ x0) = false := decide_eq_false a0
                go_wp2_with fail
                go_big_quiet (fail)
                go_wp2_with fail
                go_roundw
                case rel => exact ⟨hide (below_drewN (hbw.out.alloc hbw.out.size _) _), k + 1, false, by omega, by go_num, rfl, HN⟩
                case measure => simp [intOf]; omega
        · have HE := hide (show b = okView ep mem by rw [hb.out]; exact vOk_all ep mem (by omega))
          have hlt' : ¬ (k : Int) < (l : Int) := by omega
          rw [HOK.out] at HE
          have hbe := HE.out
          subst hbe
          clear hb HE
          go_wp2_with (go_at_call 13; go_must ((with_reducible refine (lnum_any _ _).mono ?_); rintro e w3 ⟨rfl, rfl⟩))
          go_ret
          exact ⟨rfl, HBW.out⟩
    · have HS0 := hide (HSZ.out (false) (by simp [okNum, okN]; omega))
      clear HSZ
      go_enter Try.func8, Try.ntmps8
      go_wp2_with (first
        | (go_at_call 9; go_must (rw [← HV.out]; (with_reducible refine (alive_any V).mono ?_); rintro e w1 ⟨rfl, hb1⟩; have HX1 := hide (HX.out.below hb1); have HB1 := hide (HB.out.trans (hb1.mono HB.out.size)); obtain ⟨⟨j0, -⟩, ⟨j1, -⟩⟩ := HX1.out.c2))
        | (go_at_call 11; go_must ((with_reducible refine (CP.out w1 HB1.out).mono ?_); rintro e w2 ⟨rfl, hb2⟩; have HX2 := hide (HX1.out.below hb2); have HB2 := hide (HB1.out.trans (hb2.mono HB1.out.size)); obtain ⟨⟨i0, -⟩, ⟨i1, -⟩⟩ := HX2.out.c2)))
      go_loopw [6, 7] (fun ok i wr => Hid (Below w2.heap.size w2 wr) ∧ ∃ (k : Nat) (b : Bool), k ≤ l ∧ i = .int .i64 (k : Nat) ∧ ok = .bool b ∧ Hid (b = vOk ep mem k)) (fun _ i _ => l - (intOf i).toNat)
      case atStart => exact ⟨hide (Below.refl _ _), 0, _, Nat.zero_le _, rfl, rfl, HS0⟩
      case round =>
        obtain ⟨hbw, k, b, hk, rfl, rfl, hb⟩ := hrel
        have HBW := hide (HB2.out.trans (hbw.out.mono HB2.out.size))
        obtain ⟨⟨c0, -⟩, ⟨c1, -⟩⟩ := (HX2.out.below hbw.out).c2
        by_cases hlt : k < l
        · have hka : k < mem.length := by omega
          obtain ⟨cb, off, har, y0, y1⟩ := mem_at (hr.below HBW.out) hka
          have hlt' : (k : Int) < (l : Int) := by omega
          have HST := hide (vOk_step ep mem k hka)
          have hwl : w.heap.size < wr.heap.size := cell_some_lt c0
          have hyl := cell_some_lt y0
          have hyl' : cb < wr.heap.size := hyl
          cases b with
          | false =>
            have HN := hide (show false = vOk ep mem (k + 1) by rw [HST.out, ← hb.out]; rfl)
            clear HST hb
            generalize mem[k] = x at y0 y1
            obtain ⟨x0, x1⟩ := x
            simp only at y0 y1
            subst har
            go_wp2_with fail
            go_big_quiet (fail)
            go_wp2_with fail
            go_roundw
            case rel => exact ⟨hide (below_drewN (hbw.out.alloc hbw.out.size _) _), k + 1, false, by omega, by go_num, rfl, HN⟩
            case measure => simp [intOf]; omega
          | true =>
            have HST2 := hide (show vOk ep mem (k + 1) = (okN 15 mem[k].1 && okNum mem[k].2 && (match (mem.take k).getLast? with | none => true | some y => decide (y.1 < mem[k].1))) by rw [HST.out, ← hb.out]; rfl)
            clear HST hb
            by_cases hk0 : k = 0
            · subst hk0
              rw [last_zero] at HST2
              generalize mem[0] = x at y0 y1 HST2
              obtain ⟨x0, x1⟩ := x
              simp only [Nat.zero_mul, Nat.add_zero] at y0 y1 HST2
              subst har
              by_cases a0 : 0 ≤ x0
              · by_cases a1 : x0 < 16
                · by_cases a2 : 0 ≤ x1
                  · by_cases a3 : x1 ≤ 2147483647
                    · have HN := hide (show true = vOk ep mem (0 + 1) by rw [HST2.out]; simp [okNum, okN]; omega)
                      clear HST2
                      go_wp2_with fail
                      go_big_quiet (fail)
                      go_wp2_with fail
                      go_roundw
                      case rel => exact ⟨hide (below_drewN (hbw.out.alloc hbw.out.size _) _), 0 + 1, true, by omega, by go_num, rfl, HN⟩
                      case measure => simp [intOf]; omega
                    · have HN := hide (show false = vOk ep mem (0 + 1) by rw [HST2.out]; simp [okNum, okN]; omega)
                      clear HST2
                      have dd : decide (x1 ≤ 2147483647) = false := decide_eq_false a3
                      go_wp2_with fail
                      go_big_quiet (fail)
                      go_wp2_with fail
                      go_roundw
                      case rel => exact ⟨hide (below_drewN (hbw.out.alloc hbw.out.size _) _), 0 + 1, false, by omega, by go_num, rfl, HN⟩
                      case measure => simp [intOf]; omega
                  · have HN := hide (show false = vOk ep mem (0 + 1) by rw [HST2.out]; simp [okNum, okN]; omega)
                    clear HST2
                    have dd : decide (0 ≤ x1) = false := decide_eq_false a2
                    go_wp2_with fail
                    go_big_quiet (fail)
                    go_wp2_with fail
                    go_roundw
                    case rel => exact ⟨hide (below_drewN (hbw.out.alloc hbw.out.size _) _), 0 + 1, false, by omega, by go_num, rfl, HN⟩
                    case measure => simp [intOf]; omega
                · have HN := hide (show false = vOk ep mem (0 + 1) by rw [HST2.out]; simp [okNum, okN]; omega)
                  clear HST2
                  have dd : decide (x0 < 16) = false := decide_eq_false a1
                  go_wp2_with fail
                  go_big_quiet (fail)
                  go_wp2_with fail
                  go_roundw
                  case rel => exact ⟨hide (below_drewN (hbw.out.alloc hbw.out.size _) _), 0 + 1, false, by omega, by go_num, rfl, HN⟩
                  case measure => simp [intOf]; omega
              · have HN := hide (show false = vOk ep mem (0 + 1) by rw [HST2.out]; simp [okNum, okN]; omega)
                clear HST2
                have dd : decide (0 ≤ x0) = false := decide_eq_false a0
                go_wp2_with fail
                go_big_quiet (fail)
                go_wp2_with fail
                go_roundw
                case rel => exact ⟨hide (below_drewN (hbw.out.alloc hbw.out.size _) _), 0 + 1, false, by omega, by go_num, rfl, HN⟩
                case measure => simp [intOf]; omega
            · obtain ⟨j, hj⟩ : ∃ j, k = j + 1 := ⟨k - 1, by omega⟩
              have hkp : j < mem.length := by omega
              obtain ⟨cb', off', har', p0, p1⟩ := mem_at (hr.below HBW.out) hkp
              have HLS := hide (fun x => (show (match (mem.take k).getLast? with | none => true | some y => decide (y.1 < x)) = decide (mem[j].1 < x) by rw [hj]; exact last_some mem j hkp x))
              rw [HLS.out] at HST2
              clear HLS
              generalize mem[k] = x at y0 y1 HST2
              generalize mem[j] = y at p0 p1 HST2
              obtain ⟨x0, x1⟩ := x
              obtain ⟨z0, z1⟩ := y
              simp only at y0 y1 p0 p1 HST2
              subst har
              simp only [Option.some.injEq, Addr.mk.injEq, and_true] at har'
              obtain ⟨rfl, rfl⟩ := har'
              have hi1 : (k : Int) - 1 = (j : Int) := by omega
              have hkz : ((k : Int) == 0) = false := by rw [beq_eq_false_iff_ne]; omega
              have hjl : (j : Int) < (l : Int) := by omega
              have HJ := hide hj
              clear hj
              by_cases a0 : 0 ≤ x0
              · by_cases a1 : x0 < 16
                · by_cases a2 : 0 ≤ x1
                  · by_cases a3 : x1 ≤ 2147483647
                    · by_cases a4 : z0 < x0
                      · have HN := hide (show true = vOk ep mem (k + 1) by rw [HST2.out]; simp [okNum, okN]; omega)
                        clear HST2
                        go_wp2_with fail
                        go_big_quiet (fail)
                        go_wp2_with fail
                        go_roundw
                        case rel => exact ⟨hide (below_drewN (hbw.out.alloc hbw.out.size _) _), k + 1, true, by omega, by go_num, rfl, HN⟩
                        case measure => simp [intOf]; omega
                      · have HN := hide (show false = vOk ep mem (k + 1) by rw [HST2.out]; simp [okNum, okN]; omega)
                        clear HST2
                        have dd : decide (z0 < x0) = false := decide_eq_false a4
                        go_wp2_with fail
                        go_big_quiet (fail)
                        go_wp2_with fail
                        go_roundw
                        case rel => exact ⟨hide (below_drewN (hbw.out.alloc hbw.out.size _) _), k + 1, false, by omega, by go_num, rfl, HN⟩
                        case measure => simp [intOf]; omega
                    · have HN := hide (show false = vOk ep mem (k + 1) by rw [HST2.out]; simp [okNum, okN]; omega)
                      clear HST2
                      have dd : decide (x1 ≤ 2147483647) = false := decide_eq_false a3
                      go_wp2_with fail
                      go_big_quiet (fail)
                      go_wp2_with fail
                      go_roundw
                      case rel => exact ⟨hide (below_drewN (hbw.out.alloc hbw.out.size _) _), k + 1, false, by omega, by go_num, rfl, HN⟩
                      case measure => simp [intOf]; omega
                  · have HN := hide (show false = vOk ep mem (k + 1) by rw [HST2.out]; simp [okNum, okN]; omega)
                    clear HST2
                    have dd : decide (0 ≤ x1) = false := decide_eq_false a2
                    go_wp2_with fail
                    go_big_quiet (fail)
                    go_wp2_with fail
                    go_roundw
                    case rel => exact ⟨hide (below_drewN (hbw.out.alloc hbw.out.size _) _), k + 1, false, by omega, by go_num, rfl, HN⟩
                    case measure => simp [intOf]; omega
                · have HN := hide (show false = vOk ep mem (k + 1) by rw [HST2.out]; simp [okNum, okN]; omega)
                  clear HST2
                  have dd : decide (x0 < 16) = false := decide_eq_false a1
                  go_wp2_with fail
                  go_big_quiet (fail)
                  go_wp2_with fail
                  go_roundw
                  case rel => exact ⟨hide (below_drewN (hbw.out.alloc hbw.out.size _) _), k + 1, false, by omega, by go_num, rfl, HN⟩
                  case measure => simp [intOf]; omega
              · have HN := hide (show false = vOk ep mem (k + 1) by rw [HST2.out]; simp [okNum, okN]; omega)
                clear HST2
                have dd : decide (0 ≤ x0) = false := decide_eq_false a0
                go_wp2_with fail
                go_big_quiet (fail)
                go_wp2_with fail
                go_roundw
                case rel => exact ⟨hide (below_drewN (hbw.out.alloc hbw.out.size _) _), k + 1, false, by omega, by go_num, rfl, HN⟩
                case measure => simp [intOf]; omega
        · have HE := hide (show b = okView ep mem by rw [hb.out]; exact vOk_all ep mem (by omega))
          have hlt' : ¬ (k : Int) < (l : Int) := by omega
          rw [HOK.out] at HE
          have hbe := HE.out
          subst hbe
          clear hb HE
          go_wp2_with (go_at_call 13; go_must ((with_reducible refine (lnum_any _ _).mono ?_); rintro e w3 ⟨rfl, rfl⟩))
          go_ret
          exact ⟨rfl, HBW.out⟩
  · have HS0 := hide (HSZ.out (false) (by simp [okNum, okN]; omega))
    clear HSZ
    go_enter Try.func8, Try.ntmps8
    go_wp2_with (first
      | (go_at_call 9; go_must (rw [← HV.out]; (with_reducible refine (alive_any V).mono ?_); rintro e w1 ⟨rfl, hb1⟩; have HX1 := hide (HX.out.below hb1); have HB1 := hide (HB.out.trans (hb1.mono HB.out.size)); obtain ⟨⟨j0, -⟩, ⟨j1, -⟩⟩ := HX1.out.c2))
      | (go_at_call 11; go_must ((with_reducible refine (CP.out w1 HB1.out).mono ?_); rintro e w2 ⟨rfl, hb2⟩; have HX2 := hide (HX1.out.below hb2); have HB2 := hide (HB1.out.trans (hb2.mono HB1.out.size)); obtain ⟨⟨i0, -⟩, ⟨i1, -⟩⟩ := HX2.out.c2)))
    go_loopw [6, 7] (fun ok i wr => Hid (Below w2.heap.size w2 wr) ∧ ∃ (k : Nat) (b : Bool), k ≤ l ∧ i = .int .i64 (k : Nat) ∧ ok = .bool b ∧ Hid (b = vOk ep mem k)) (fun _ i _ => l - (intOf i).toNat)
    case atStart => exact ⟨hide (Below.refl _ _), 0, _, Nat.zero_le _, rfl, rfl, HS0⟩
    case round =>
      obtain ⟨hbw, k, b, hk, rfl, rfl, hb⟩ := hrel
      have HBW := hide (HB2.out.trans (hbw.out.mono HB2.out.size))
      obtain ⟨⟨c0, -⟩, ⟨c1, -⟩⟩ := (HX2.out.below hbw.out).c2
      by_cases hlt : k < l
      · have hka : k < mem.length := by omega
        obtain ⟨cb, off, har, y0, y1⟩ := mem_at (hr.below HBW.out) hka
        have hlt' : (k : Int) < (l : Int) := by omega
        have HST := hide (vOk_step ep mem k hka)
        have hwl : w.heap.size < wr.heap.size := cell_some_lt c0
        have hyl := cell_some_lt y0
        have hyl' : cb < wr.heap.size := hyl
        cases b with
        | false =>
          have HN := hide (show false = vOk ep mem (k + 1) by rw [HST.out, ← hb.out]; rfl)
          clear HST hb
          generalize mem[k] = x at y0 y1
          obtain ⟨x0, x1⟩ := x
          simp only at y0 y1
          subst har
          go_wp2_with fail
          go_big_quiet (fail)
          go_wp2_with fail
          go_roundw
          case rel => exact ⟨hide (below_drewN (hbw.out.alloc hbw.out.size _) _), k + 1, false, by omega, by go_num, rfl, HN⟩
          case measure => simp [intOf]; omega
        | true =>
          have HST2 := hide (show vOk ep mem (k + 1) = (okN 15 mem[k].1 && okNum mem[k].2 && (match (mem.take k).getLast? with | none => true | some y => decide (y.1 < mem[k].1))) by rw [HST.out, ← hb.out]; rfl)
          clear HST hb
          by_cases hk0 : k = 0
          · subst hk0
            rw [last_zero] at HST2
            generalize mem[0] = x at y0 y1 HST2
            obtain ⟨x0, x1⟩ := x
            simp only [Nat.zero_mul, Nat.add_zero] at y0 y1 HST2
            subst har
            by_cases a0 : 0 ≤ x0
            · by_cases a1 : x0 < 16
              · by_cases a2 : 0 ≤ x1
                · by_cases a3 : x1 ≤ 2147483647
                  · have HN := hide (show true = vOk ep mem (0 + 1) by rw [HST2.out]; simp [okNum, okN]; omega)
                    clear HST2
                    go_wp2_with fail
                    go_big_quiet (fail)
                    go_wp2_with fail
                    go_roundw
                    case rel => exact ⟨hide (below_drewN (hbw.out.alloc hbw.out.size _) _), 0 + 1, true, by omega, by go_num, rfl, HN⟩
                    case measure => simp [intOf]; omega
                  · have HN := hide (show false = vOk ep mem (0 + 1) by rw [HST2.out]; simp [okNum, okN]; omega)
                    clear HST2
                    have dd : decide (x1 ≤ 2147483647) = false := decide_eq_false a3
                    go_wp2_with fail
                    go_big_quiet (fail)
                    go_wp2_with fail
                    go_roundw
                    case rel => exact ⟨hide (below_drewN (hbw.out.alloc hbw.out.size _) _), 0 + 1, false, by omega, by go_num, rfl, HN⟩
                    case measure => simp [intOf]; omega
                · have HN := hide (show false = vOk ep mem (0 + 1) by rw [HST2.out]; simp [okNum, okN]; omega)
                  clear HST2
                  have dd : decide (0 ≤ x1) = false := decide_eq_false a2
                  go_wp2_with fail
                  go_big_quiet (fail)
                  go_wp2_with fail
                  go_roundw
                  case rel => exact ⟨hide (below_drewN (hbw.out.alloc hbw.out.size _) _), 0 + 1, false, by omega, by go_num, rfl, HN⟩
                  case measure => simp [intOf]; omega
              · have HN := hide (show false = vOk ep mem (0 + 1) by rw [HST2.out]; simp [okNum, okN]; omega)
                clear HST2
                have dd : decide (x0 < 16) = false := decide_eq_false a1
                go_wp2_with fail
                go_big_quiet (fail)
                go_wp2_with fail
                go_roundw
                case rel => exact ⟨hide (below_drewN (hbw.out.alloc hbw.out.size _) _), 0 + 1, false, by omega, by go_num, rfl, HN⟩
                case measure => simp [intOf]; omega
            · have HN := hide (show false = vOk ep mem (0 + 1) by rw [HST2.out]; simp [okNum, okN]; omega)
              clear HST2
              have dd : decide (0 ≤ x0) = false := decide_eq_false a0
              go_wp2_with fail
              go_big_quiet (fail)
              go_wp2_with fail
              go_roundw
              case rel => exact ⟨hide (below_drewN (hbw.out.alloc hbw.out.size _) _), 0 + 1, false, by omega, by go_num, rfl, HN⟩
              case measure => simp [intOf]; omega
          · obtain ⟨j, hj⟩ : ∃ j, k = j + 1 := ⟨k - 1, by omega⟩
            have hkp : j < mem.length := by omega
            obtain ⟨cb', off', har', p0, p1⟩ := mem_at (hr.below HBW.out) hkp
            have HLS := hide (fun x => (show (match (mem.take k).getLast? with | none => true | some y => decide (y.1 < x)) = decide (mem[j].1 < x) by rw [hj]; exact last_some mem j hkp x))
            rw [HLS.out] at HST2
            clear HLS
            generalize mem[k] = x at y0 y1 HST2
            generalize mem[j] = y at p0 p1 HST2
            obtain ⟨x0, x1⟩ := x
            obtain ⟨z0, z1⟩ := y
            simp only at y0 y1 p0 p1 HST2
            subst har
            simp only [Option.some.injEq, Addr.mk.injEq, and_true] at har'
            obtain ⟨rfl, rfl⟩ := har'
            have hi1 : (k : Int) - 1 = (j : Int) := by omega
            have hkz : ((k : Int) == 0) = false := by rw [beq_eq_false_iff_ne]; omega
            have hjl : (j : Int) < (l : Int) := by omega
            have HJ := hide hj
            clear hj
            by_cases a0 : 0 ≤ x0
            · by_cases a1 : x0 < 16
              · by_cases a2 : 0 ≤ x1
                · by_cases a3 : x1 ≤ 2147483647
                  · by_cases a4 : z0 < x0
                    · have HN := hide (show true = vOk ep mem (k + 1) by rw [HST2.out]; simp [okNum, okN]; omega)
                      clear HST2
                      go_wp2_with fail
                      go_big_quiet (fail)
                      go_wp2_with fail
                      go_roundw
                      case rel => exact ⟨hide (below_drewN (hbw.out.alloc hbw.out.size _) _), k + 1, true, by omega, by go_num, rfl, HN⟩
                      case measure => simp [intOf]; omega
                    · have HN := hide (show false = vOk ep mem (k + 1) by rw [HST2.out]; simp [okNum, okN]; omega)
                      clear HST2
                      have dd : decide (z0 < x0) = false := decide_eq_false a4
                      go_wp2_with fail
                      go_big_quiet (fail)
                      go_wp2_with fail
                      go_roundw
                      case rel => exact ⟨hide (below_drewN (hbw.out.alloc hbw.out.size _) _), k + 1, false, by omega, by go_num, rfl, HN⟩
                      case measure => simp [intOf]; omega
                  · have HN := hide (show false = vOk ep mem (k + 1) by rw [HST2.out]; simp [okNum, okN]; omega)
                    clear HST2
                    have dd : decide (x1 ≤ 2147483647) = false := decide_eq_false a3
                    go_wp2_with fail
                    go_big_quiet (fail)
                    go_wp2_with fail
                    go_roundw
                    case rel => exact ⟨hide (below_drewN (hbw.out.alloc hbw.out.size _) _), k + 1, false, by omega, by go_num, rfl, HN⟩
                    case measure => simp [intOf]; omega
                · have HN := hide (show false = vOk ep mem (k + 1) by rw [HST2.out]; simp [okNum, okN]; omega)
                  clear HST2
                  have dd : decide (0 ≤ x1) = false := decide_eq_false a2
                  go_wp2_with fail
                  go_big_quiet (fail)
                  go_wp2_with fail
                  go_roundw
                  case rel => exact ⟨hide (below_drewN (hbw.out.alloc hbw.out.size _) _), k + 1, false, by omega, by go_num, rfl, HN⟩
                  case measure => simp [intOf]; omega
              · have HN := hide (show false = vOk ep mem (k + 1) by rw [HST2.out]; simp [okNum, okN]; omega)
                clear HST2
                have dd : decide (x0 < 16) = false := decide_eq_false a1
                go_wp2_with fail
                go_big_quiet (fail)
                go_wp2_with fail
                go_roundw
                case rel => exact ⟨hide (below_drewN (hbw.out.alloc hbw.out.size _) _), k + 1, false, by omega, by go_num, rfl, HN⟩
                case measure => simp [intOf]; omega
            · have HN := hide (show false = vOk ep mem (k + 1) by rw [HST2.out]; simp [okNum, okN]; omega)
              clear HST2
              have dd : decide (0 ≤ x0) = false := decide_eq_false a0
              go_wp2_with fail
              go_big_quiet (fail)
              go_wp2_with fail
              go_roundw
              case rel => exact ⟨hide (below_drewN (hbw.out.alloc hbw.out.size _) _), k + 1, false, by omega, by go_num, rfl, HN⟩
              case measure => simp [intOf]; omega
      · have HE := hide (show b = okView ep mem by rw [hb.out]; exact vOk_all ep mem (by omega))
        have hlt' : ¬ (k : Int) < (l : Int) := by omega
        rw [HOK.out] at HE
        have hbe := HE.out
        subst hbe
        clear hb HE
        go_wp2_with (go_at_call 13; go_must ((with_reducible refine (lnum_any _ _).mono ?_); rintro e w3 ⟨rfl, rfl⟩))
        go_ret
        exact ⟨rfl, HBW.out⟩

set_option maxRecDepth 100000 in
set_option maxHeartbeats 16000000 in
theorem yes (ep : Int) (mem : List (Int × Int)) (a : Option Addr) (l c : Nat) (w : World) (hl : mem.length = l) (hln : l ≤ 100) (hc : l ≤ c ∧ c ≤ maxLen) (hn : a = none → l = 0 ∧ c = 0) (hr : Reads w a (mV mem)) (h1 : In1 ep) (h2 : ∀ m ∈ mem, In1 m.1 ∧ In1 m.2) (hok : okView ep mem = true) : Calls Try.prog 8 #[.agg #[.int .i64 ep, .slice a l c]] w fun e w' => e = .returned (.bool true) ∧ Below w.heap.size w w' := by
  have CP := hide (fun W (hb : Below w.heap.size w W) => packQ (vN ep mem) ⟨#[]⟩ (.slice none 0 0) (.slice a l c) 0 W (vN_mem hl hln hc hn (hr.below hb)) (vN_in h1 h2) (by rw [vN_clear, vC_may]; exact hok))
  rw [vN_clear] at CP
  have HNO := hide (show NoteOf (encN (vC ep mem)) (vC ep mem) from ⟨by rw [vC_may]; exact hok, vC_clear _ _, (by simp [vC, In1]), (fun x hx => by cases hx), rfl⟩)
  have HLE := hide (encN_len (vC ep mem) (Nat.zero_le _) (Nat.zero_le _) (by show mem.length ≤ 200; omega))
  have HBY := hide (encN_byt (vC ep mem) (vC_in h1 h2) (fun x hx => by cases hx) (Nat.zero_le _) (Nat.zero_le _) (by show mem.length ≤ 20000; omega))
  generalize encN (vC ep mem) = Z at CP HNO HLE HBY
  have CR := hide (fun W a m c hm hr => readQ (vC ep mem) Z a m c W hm (by have := HLE.out; omega) HBY.out hr HNO.out)
  have CS := hide (fun W s aa al ac ma ml mc (hb : Below w.heap.size w W) (hM : NM 0 W (vC ep mem) s (.slice aa al ac) (.slice ma ml mc)) => (show Calls Try.prog 19 #[.agg #[.int .i64 ep, .slice ma ml mc], .agg #[.int .i64 ep, .slice a l c]] W fun e w' => e = .returned (.bool true) ∧ Below W.heap.size W w' from by
    obtain ⟨_, _, _, hm4, _, ⟨ma', ml', mc', e, hml, _, _, hrm, _⟩⟩ := hM
    simp only [Value.slice.injEq] at e
    obtain ⟨rfl, rfl, rfl⟩ := e
    have := sameView_any ep ep mem mem ma a ml mc l c W hml hl (by have h : mem.length = ml := hml; omega) hrm (hr.below hb)
    simpa using this))
  simp only [Nv, vN, vC] at CP CR CS
  have HX0 := hide (BoxL.new w [.int .i64 ep, .slice a l c] 29)
  have HB0 := hide (below_new w (.cells #[.int .i64 ep, .slice a l c] 29))
  obtain ⟨V, hV⟩ : ∃ V, V = w.alloc (.cells #[.int .i64 ep, .slice a l c] 29) := ⟨_, rfl⟩
  have HX := hide (show BoxL V w.heap.size [.int .i64 ep, .slice a l c] by rw [hV]; exact HX0.out)
  have HB := hide (show Below w.heap.size w V by rw [hV]; exact HB0.out)
  have HV := hide hV
  have HOK := hide hok
  have h100 : ¬ 100 < l := by omega
  clear hV HX0 HB0
  have HSZ := hide (show ∀ b : Bool, b = (okNum ep && decide (mem.length ≤ 16)) → b = vOk ep mem 0 from fun b h => by rw [vOk_zero]; exact h)
  have hv := HOK.out
  unfold okView at hv
  simp only [Bool.and_eq_true, okNum, okN_iff] at hv
  obtain ⟨⟨⟨hv1, -⟩, -⟩, -⟩ := hv
  have s0 : 0 ≤ ep := hv1.1
  have s1 : ep ≤ 2147483647 := hv1.2
  clear hv1
  have HS0 := hide (HSZ.out (decide ((l : Int) ≤ 16)) (by have e : decide ((l : Int) ≤ 16) = decide (mem.length ≤ 16) := (by rw [hl]; by_cases h : l ≤ 16 <;> simp [h] <;> omega); rw [e]; simp [okNum, okN, s0, s1]))
  clear HSZ
  go_enter Try.func8, Try.ntmps8
  go_wp2_with (first
    | (go_at_call 9; go_must (rw [← HV.out]; (with_reducible refine (alive_any V).mono ?_); rintro e w1 ⟨rfl, hb1⟩; have HX1 := hide (HX.out.below hb1); have HB1 := hide (HB.out.trans (hb1.mono HB.out.size)); obtain ⟨⟨j0, -⟩, ⟨j1, -⟩⟩ := HX1.out.c2))
    | (go_at_call 11; go_must ((with_reducible refine (CP.out w1 HB1.out).mono ?_); rintro e w2 ⟨a2, m2, k2, rfl, hm2, -, hr2, hb2⟩; have HX2 := hide (HX1.out.below hb2); have HB2 := hide (HB1.out.trans (hb2.mono HB1.out.size)); obtain ⟨⟨i0, -⟩, ⟨i1, -⟩⟩ := HX2.out.c2)))
  go_loopw [6, 7] (fun ok i wr => Hid (Below w2.heap.size w2 wr) ∧ ∃ (k : Nat) (b : Bool), k ≤ l ∧ i = .int .i64 (k : Nat) ∧ ok = .bool b ∧ Hid (b = vOk ep mem k)) (fun _ i _ => l - (intOf i).toNat)
  case atStart => exact ⟨hide (Below.refl _ _), 0, _, Nat.zero_le _, rfl, rfl, HS0⟩
  case round =>
    obtain ⟨hbw, k, b, hk, rfl, rfl, hb⟩ := hrel
    have HBW := hide (HB2.out.trans (hbw.out.mono HB2.out.size))
    obtain ⟨⟨c0, -⟩, ⟨c1, -⟩⟩ := (HX2.out.below hbw.out).c2
    by_cases hlt : k < l
    · have hka : k < mem.length := by omega
      obtain ⟨cb, off, har, y0, y1⟩ := mem_at (hr.below HBW.out) hka
      have hlt' : (k : Int) < (l : Int) := by omega
      have HST := hide (vOk_step ep mem k hka)
      have hwl : w.heap.size < wr.heap.size := cell_some_lt c0
      have hyl := cell_some_lt y0
      have hyl' : cb < wr.heap.size := hyl
      have hbt : b = true := by rw [hb.out]; exact vOk_true HOK.out (by omega)
      subst hbt
      have HST2 := hide (show vOk ep mem (k + 1) = (okN 15 mem[k].1 && okNum mem[k].2 && (match (mem.take k).getLast? with | none => true | some y => decide (y.1 < mem[k].1))) by rw [HST.out, ← hb.out]; rfl)
      clear HST hb
      by_cases hk0 : k = 0
      · subst hk0
        rw [last_zero] at HST2
        generalize mem[0] = x at y0 y1 HST2
        obtain ⟨x0, x1⟩ := x
        simp only [Nat.zero_mul, Nat.add_zero] at y0 y1 HST2
        subst har
        have hv := HST2.out
        rw [vOk_true HOK.out (by omega)] at hv
        have hv2 := hv.symm
        simp [okNum, okN] at hv2
        have a0 : 0 ≤ x0 := by omega
        have a1 : x0 < 16 := by omega
        have a2 : 0 ≤ x1 := by omega
        have a3 : x1 ≤ 2147483647 := by omega
        clear hv hv2
        have HN := hide (show true = vOk ep mem (0 + 1) by rw [HST2.out]; simp [okNum, okN]; omega)
        clear HST2
        go_wp2_with fail
        go_big_quiet (fail)
        go_wp2_with fail
        go_roundw
        case rel => exact ⟨hide (below_drewN (hbw.out.alloc hbw.out.size _) _), 0 + 1, true, by omega, by go_num, rfl, HN⟩
        case measure => simp [intOf]; omega
      · obtain ⟨j, hj⟩ : ∃ j, k = j + 1 := ⟨k - 1, by omega⟩
        have hkp : j < mem.length := by omega
        obtain ⟨cb', off', har', p0, p1⟩ := mem_at (hr.below HBW.out) hkp
        have HLS := hide (fun x => (show (match (mem.take k).getLast? with | none => true | some y => decide (y.1 < x)) = decide (mem[j].1 < x) by rw [hj]; exact last_some mem j hkp x))
        rw [HLS.out] at HST2
        clear HLS
        generalize mem[k] = x at y0 y1 HST2
        generalize mem[j] = y at p0 p1 HST2
        obtain ⟨x0, x1⟩ := x
        obtain ⟨z0, z1⟩ := y
        simp only at y0 y1 p0 p1 HST2
        subst har
        simp only [Option.some.injEq, Addr.mk.injEq, and_true] at har'
        obtain ⟨rfl, rfl⟩ := har'
        have hi1 : (k : Int) - 1 = (j : Int) := by omega
        have hkz : ((k : Int) == 0) = false := by rw [beq_eq_false_iff_ne]; omega
        have hjl : (j : Int) < (l : Int) := by omega
        have HJ := hide hj
        clear hj
        have hv := HST2.out
        rw [vOk_true HOK.out (by omega)] at hv
        have hv2 := hv.symm
        simp [okNum, okN] at hv2
        have a0 : 0 ≤ x0 := by omega
        have a1 : x0 < 16 := by omega
        have a2 : 0 ≤ x1 := by omega
        have a3 : x1 ≤ 2147483647 := by omega
        have a4 : z0 < x0 := by omega
        clear hv hv2
        have HN := hide (show true = vOk ep mem (k + 1) by rw [HST2.out]; simp [okNum, okN]; omega)
        clear HST2
        go_wp2_with fail
        go_big_quiet (fail)
        go_wp2_with fail
        go_roundw
        case rel => exact ⟨hide (below_drewN (hbw.out.alloc hbw.out.size _) _), k + 1, true, by omega, by go_num, rfl, HN⟩
        case measure => simp [intOf]; omega
    · have HE := hide (show b = okView ep mem by rw [hb.out]; exact vOk_all ep mem (by omega))
      have hlt' : ¬ (k : Int) < (l : Int) := by omega
      rw [HOK.out] at HE
      have hbe := HE.out
      subst hbe
      clear hb HE
      go_wp2_with (first
        | (go_at_call 13; go_must ((with_reducible refine (lnum_any _ _).mono ?_); rintro e w3 ⟨rfl, rfl⟩))
        | (go_at_call 17; go_must ((with_reducible refine (CR.out _ a2 m2 k2 hm2.out (hr2.out.below hbw.out)).mono ?_); rintro e w4 ⟨s4, aa4, al4, ac4, ma4, ml4, mc4, rfl, hM4, hb4⟩; have HB4 := hide (HBW.out.trans (hb4.mono HBW.out.size)); have HM4 := hide ((hM4.out.mono (Nat.zero_le _)).below (below_new w4 (.cells #[.int .i64 2, .int .i64 0, .int .i64 0, .int .i64 0, .string s4, .int .i64 0, .slice aa4 al4 ac4, .int .i64 0, .int .i64 0, .int .i64 ep, .slice ma4 ml4 mc4] 31))); have q0 := keep_cell c0 hb4; have q1 := keep_cell c1 hb4; have hwl4 : w.heap.size < w4.heap.size := cell_some_lt q0; have HB5 := hide (HB4.out.alloc HB4.out.size (.cells #[.int .i64 2, .int .i64 0, .int .i64 0, .int .i64 0, .string s4, .int .i64 0, .slice aa4 al4 ac4, .int .i64 0, .int .i64 0, .int .i64 ep, .slice ma4 ml4 mc4] 31)); have HX5 := hide (BoxL.new w4 [.int .i64 2, .int .i64 0, .int .i64 0, .int .i64 0, .string s4, .int .i64 0, .slice aa4 al4 ac4, .int .i64 0, .int .i64 0, .int .i64 ep, .slice ma4 ml4 mc4] 31)))
        | (go_at_call 19; go_must ((with_reducible refine (CS.out _ s4 aa4 al4 ac4 ma4 ml4 mc4 HB5.out HM4.out).mono ?_); rintro e w6 ⟨rfl, hb6⟩; have HB6 := hide (HB5.out.trans (hb6.mono HB5.out.size)); obtain ⟨-, r1, r2, -⟩ := (HX5.out.below hb6).c11)))
      go_ret
      exact ⟨rfl, HB6.out⟩

theorem walk (ep : Int) (mem : List (Int × Int)) (a : Option Addr) (l c : Nat) (w : World) (hl : mem.length = l) (hc : l ≤ c ∧ c ≤ maxLen) (hn : a = none → l = 0 ∧ c = 0) (hr : Reads w a (mV mem)) (h1 : In1 ep) (h2 : ∀ m ∈ mem, In1 m.1 ∧ In1 m.2) : Calls Try.prog 8 #[.agg #[.int .i64 ep, .slice a l c]] w fun e w' => e = .returned (.bool true) ∧ Below w.heap.size w w' := by
  by_cases h : 100 < l
  · exact long ep a l c w h
  · cases hok : okView ep mem with
    | true => exact yes ep mem a l c w hl (by omega) hc hn hr h1 h2 hok
    | false => exact no ep mem a l c w hl (by omega) hc hn hr h1 h2 hok
end noteViews
end Go.Proofs.Ytgkpioleipefmaa
