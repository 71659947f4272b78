/- LinkPlays answers true. -/
import Derived.Test.YtofigofaiadffaaRpc
import Derived.Deep.CutRange
import Derived.Deep.CutBlock
import Derived.BigRegion
namespace Go.Proofs.Ytofigofaiadffaa
open Go.RowKit Go.ChangeShapes Go.WideShapes Go.ChangeAt Go.Deep
namespace linkPlays

theorem app_bL {w : World} {ops : Array Oper} {rest : List Oper} {o : Oper} {a : Act} {Q : Exit → Act → World → Prop} (hgd : o.guard = none) (s x : Operand)
    (ho : o.op = .call { callee := .builtin .append, args := #[s, x], argTypes := #[32, 32] }) (hs : a.eval s = .slice none 0 0)
    (ad : Option Addr) (m c : Nat) (ys : List Nat) (hx : a.eval x = .slice ad m c) (hnil : ad = none → m = 0 ∧ c = 0) (hl : ys.length = m) (hr : Reads w ad (bV ys)) (hb : m ≤ 1000000)
    (h : ∀ a' c' w', w'.ownsRow w.heap.size 5 1 (.slice a' m c') m (bV ys) → Below w.heap.size w w' → wpList Try.prog ops Q rest (a.put o.dst (.slice a' m c')) w') : wpList Try.prog ops Q (o :: rest) a w :=
  wpList_plain hgd fun _ hK => app_b s x ho hs ad m c ys hx hnil hl hr hb fun a' c' w' h1 h2 => hK _ _ (h a' c' w' h1 h2)
theorem rowL_of {D : Nat → Prop} {B : Nat} {w : World} {a : Option Addr} {n c : Nat} {l : List Txt} (h : RowT D B w a n c l) : RowL w a n l := ⟨h.1, (reads_ownV h.2.1).1, fun x hx => (h.2.2 x hx).ok⟩
theorem FB.fresh {w W : World} {ab n c : Nat} {D E : Nat → Prop} {a : Option Addr} (h : FB w W ab D E a n c) : ∀ ad, a = some ad → Fb w ab D E ad.block := by
  obtain ⟨bs, h1, h2, h3, h4⟩ := h
  exact h4
theorem PA.fb {w W W' : World} {gx gr ab n c : Nat} {D E : Nat → Prop} {s : Lk} {k : Kc} {r : Rl} {xs : List Value} {a : Option Addr} {bs : List Nat} (h : PA w W gx gr ab xs D E s k r) (ho : W'.ownsRow W.heap.size 5 1 (.slice a n c) n (bV bs)) (hl : bs.length = n) (hB : Byt bs) : FB w W' ab D E a n c :=
  ⟨bs, own_base ho (Nat.zero_le _), hl, hB, fun ad e => by
    have h1 := (own_lt ho ad e).1
    have h2 := h.bx.1
    have h3 := h.bel.size
    exact ⟨fun q => by have := h.lx.lt _ q; omega, fun q => by have := rlk_lt h.lr _ q; omega, by omega, by omega⟩⟩

theorem BoxL.at {w : World} {g o : Nat} {xs : List Value} {v : Value} (h : BoxL w g xs) (ho : xs[o]? = some v) : w.cell? ⟨g, o, none⟩ = some v ∧ w.frozen? ⟨g, o, none⟩ = false := by
  obtain ⟨h1, h2⟩ := List.getElem?_eq_some_iff.1 ho
  have := h.2 o h1
  rw [h2] at this
  exact this
theorem acts_below {w w1 : World} {a : Option Addr} {l : List La} (h : ActsM w a l) (hb : Below w.heap.size w w1) : ActsM w1 a l := by
  refine ⟨fun i hi => ?_, fun y hy => ?_⟩
  · obtain ⟨b, off, e, c0, c1, c2, c3, c4, c5, c6, c7, c8⟩ := h.1 i hi
    exact ⟨b, off, e, keep_cell c0 hb, keep_cell c1 hb, keep_cell c2 hb, keep_cell c3 hb, keep_cell c4 hb, keep_cell c5 hb, keep_cell c6 hb, keep_cell c7 hb, keep_cell c8 hb⟩
  · obtain ⟨h1, h2, h3⟩ := h.2 y hy
    exact ⟨⟨h1.1.below hb, fun ad e h0 => Nat.lt_of_lt_of_le (h1.2 ad e h0) hb.size⟩, ⟨h2.1.below hb, fun ad e h0 => Nat.lt_of_lt_of_le (h2.2 ad e h0) hb.size⟩, h3⟩

/-- The loop's state. -/
structure PQ (w W : World) (gx gr : Nat) (k : Kc) (n : Nat) : Prop where
  ex : ∃ D E s r, PM w W gx gr D E s k r ∧ LR s k r n
/-- The state behind an act. -/
def PX (w W : World) (gx gr ab : Nat) (xs : List Value) (k : Kc) (n : Nat) : Prop := ∃ D E s r, PA w W gx gr ab xs D E s k r ∧ LR s k r n
theorem PQ.start {w w1 w2 : World} {gx : Nat} {self peer life theirs last : Int} (hb : Below w.heap.size w w1) (h : LinkP (fun j => j = gx) w2 gx (newL self peer life theirs last)) (hg : w1.heap.size ≤ gx) (hB : Below w1.heap.size w1 w2) :
    PQ w (w2.alloc (.cells #[.int .i64 self, .int .i64 peer, .int .i64 life, .int .i64 theirs, .int .i64 last, .int .i64 0, .int .i64 0, .slice none 0 0, .slice none 0 0, .bool false] 31)) gx w2.heap.size ⟨self, peer, life, theirs, last⟩ 0 := by
  have hs1 := hb.size
  have hs2 := hB.size
  have hgx := h.lt gx rfl
  have hbn := below_new w2 (.cells #[.int .i64 self, .int .i64 peer, .int .i64 life, .int .i64 theirs, .int .i64 last, .int .i64 0, .int .i64 0, .slice none 0 0, .slice none 0 0, .bool false] 31)
  refine ⟨_, fun j => j = w2.heap.size, _, ⟨0, 0, [], [], false⟩, ⟨(hb.trans (hB.mono hs1)).trans (hbn.mono (by omega)), h.below hbn, ⟨none, 0, 0, none, 0, 0, [], [], BoxL.new w2 [.int .i64 self, .int .i64 peer, .int .i64 life, .int .i64 theirs, .int .i64 last, .int .i64 0, .int .i64 0, .slice none 0 0, .slice none 0 0, .bool false] 31, RowO.nil _ _ _, RowK.nil _ _ _, rfl, rfl, rfl, fun j e => by rw [e]; simp⟩, fun j e => by rw [e]; omega, fun j e => by rw [e]; omega, fun j e q => by rw [e] at q; omega⟩, LR.new self peer life theirs last⟩

set_option maxRecDepth 100000 in
set_option maxHeartbeats 16000000 in
theorem walk_main (self peer life theirs last : Int) (a : Option Addr) (n c : Nat) (l : List La) (w : World) (hl : l.length = n) (hA : ActsM w a l) :
    Calls Try.prog 3 #[.int .i64 self, .int .i64 peer, .int .i64 life, .int .i64 theirs, .int .i64 last, .slice a n c] w fun e w' => e = .returned (.bool true) ∧ Below w.heap.size w w' := by
  have HL := hide hl
  have HA := hide hA
  have HBA := hide (show ∀ w1, Below w.heap.size w w1 → ActsM w1 a l from fun w1 hb => acts_below hA hb)
  clear hl hA
  go_enter Try.func3, Try.ntmps3
  go_upto_region 3 with (first
    | (go_at_call 9; go_must ((with_reducible refine (alive_any w).mono ?_); rintro e w1 ⟨rfl, hb1⟩; have HB1 := hide hb1; have C10 := hide (big_any w1 a n c l HL.out (HBA.out w1 hb1)); unfold BigP at C10; clear hb1))
    | (go_at_call 10; go_must ((with_reducible refine C10.out.mono ?_); rintro e w1b ⟨q, rfl, hq, hw1b⟩; subst hw1b; have HQ := hide hq; clear hq)))
  clear C10
  cases q with
  | true =>
    go_wp2
    go_ret
    exact ⟨rfl, HB1.out⟩
  | false =>
    obtain ⟨hln, hnb⟩ := HQ.out rfl
    have HNB := hide hnb
    have hn200 : n ≤ 200 := by rw [← HL.out]; exact hln
    clear HQ hln hnb HBA
    have C11 := hide (new_any self peer life theirs last w1b)
    unfold NewPost at C11
    go_wp2_with (go_at_call 11; go_must ((with_reducible refine C11.out.mono ?_); rintro e w2 ⟨gx, rfl, hT, hg, hB⟩; have HQ0 := hide (PQ.start HB1.out hT hg hB); clear hT hg hB))
    clear C11 HB1
    generalize w2.alloc (.cells #[.int .i64 self, .int .i64 peer, .int .i64 life, .int .i64 theirs, .int .i64 last, .int .i64 0, .int .i64 0, .slice none 0 0, .slice none 0 0, .bool false] 31) = w3 at HQ0 ⊢
    generalize w2.heap.size = gr at HQ0 ⊢
    generalize (⟨self, peer, life, theirs, last⟩ : Kc) = k at HQ0
    go_loopw [17] (fun i wr => ∃ i0 : Nat, i0 ≤ n ∧ i = .int .i64 (i0 : Nat) ∧ Hid (PQ w wr gx gr k i0)) (fun i _ => n - (intOf i).toNat)
    case atStart => exact ⟨0, by omega, rfl, HQ0⟩
    case round =>
      obtain ⟨i0, hi0, rfl, HQ⟩ := hrel
      by_cases hlt : i0 < n
      · obtain ⟨D, E, s, r, hM, hR⟩ := HQ.out.ex
        have hil : i0 < l.length := by have := HL.out; omega
        obtain ⟨b, off, rfl, ha0, ha1, ha2, ha3, ha4, ha5, ha6, ha7, ha8⟩ := HA.out.1 i0 hil
        obtain ⟨hok1, hok2, hok3, hok4, hok5⟩ := HA.out.2 l[i0] (List.getElem_mem _)
        have hnb := HNB.out l[i0] (List.getElem_mem _)
        generalize l[i0] = y at *
        obtain ⟨wy, now, t, f⟩ := y
        dsimp only at ha0 ha1 ha2 ha3 ha4 ha5 ha6 ha7 ha8 hok1 hok2 hok3 hok4 hok5
        obtain ⟨hb1, hb2, hb3, hb4⟩ := hnb
        dsimp only at hb1 hb2 hb3 hb4
        have hc0 := keep_cell ha0 hM.bel
        have hc1 := keep_cell ha1 hM.bel
        have hc2 := keep_cell ha2 hM.bel
        have hc3 := keep_cell ha3 hM.bel
        have hc4 := keep_cell ha4 hM.bel
        have hc5 := keep_cell ha5 hM.bel
        have hc6 := keep_cell ha6 hM.bel
        have hc7 := keep_cell ha7 hM.bel
        have hc8 := keep_cell ha8 hM.bel
        have hltI : (i0 : Int) < (n : Int) := by omega
        have h8 : s.op.length ≤ 8 := by obtain ⟨m, _, _, hr⟩ := hM.lx; exact hr.len
        clear ha0 ha1 ha2 ha3 ha4 ha5 ha6 ha7 ha8 HQ hil
        go_upto_region 11 with fail
        generalize hV : wr.alloc (.cells #[.int .i64 wy, .int .i64 now, .slice t.a t.len t.cap, .int .i64 f.fr, .int .i64 f.tt, .int .i64 f.lf, .int .i64 f.sq, .int .i64 f.ak, .slice f.t.a f.t.len f.t.cap] 36) = V at *
        have HX := hide (hM.box (xs := [.int .i64 wy, .int .i64 now, .slice t.a t.len t.cap, .int .i64 f.fr, .int .i64 f.tt, .int .i64 f.lf, .int .i64 f.sq, .int .i64 f.ak, .slice f.t.a f.t.len f.t.cap]) hV)
        have hn200 : i0 ≤ 200 := by omega
        have hR := hide hR
        have HT := hide hok1
        have HU := hide hok2
        have HQ := hide hok4
        generalize hab : wr.heap.size = ab at *
        clear hab hV hc0 hc1 hc2 hc3 hc4 hc5 hc6 hc7 hc8 hM hok1 hok2 hok3 hok4 hok5
        have z0 := (BoxL.at HX.out.bx (o := 0) rfl).1
        have z1 := (BoxL.at HX.out.bx (o := 1) rfl).1
        have z2 := (BoxL.at HX.out.bx (o := 2) rfl).1
        have z3 := (BoxL.at HX.out.bx (o := 3) rfl).1
        have z4 := (BoxL.at HX.out.bx (o := 4) rfl).1
        have z5 := (BoxL.at HX.out.bx (o := 5) rfl).1
        have z6 := (BoxL.at HX.out.bx (o := 6) rfl).1
        have z7 := (BoxL.at HX.out.bx (o := 7) rfl).1
        have z8 := (BoxL.at HX.out.bx (o := 8) rfl).1
        go_upto_block 2 with fail
        go_cut [] from 62 to 161 (fun wc => Hid (PX w wc gx gr ab [.int .i64 wy, .int .i64 now, .slice t.a t.len t.cap, .int .i64 f.fr, .int .i64 f.tt, .int .i64 f.lf, .int .i64 f.sq, .int .i64 f.ak, .slice f.t.a f.t.len f.t.cap] k (i0 + 1)))
        case first =>
          have hways : wy = 0 ∨ wy = 1 ∨ ((wy == 0) = false ∧ (wy == 1) = false) := by
            simp only [beq_eq_false_iff_ne]; omega
          rcases hways with hw | hw | ⟨e0, e1⟩
          · subst hw
            obtain ⟨ev, s', r', hPR, hB1, hB2⟩ := send_two hR.out hn200 gx gr t.bs t.len hb1 HT.out.1.1 HT.out.1.2.1
            have HPR := hide hPR
            have C12 := hide hB1
            have C14 := hide hB2
            unfold LQ at C12
            unfold RQ at C14
            have HTN := hide HT.out.1.2.2.2.1
            have HTR := hide (HT.out.1.2.2.2.2.below HX.out.bel)
            have HTB := hide (show ∀ ad, t.a = some ad → 0 < t.len → ad.block ≠ gr from fun ad e h0 => by have := HT.out.2 ad e h0; have := HX.out.n2 _ HX.out.hgr; omega)
            have hee : (ev != ev) = false := by simp
            clear hB1 hB2 hPR
            go_upto_region 18 with (at_builtin; (refine app_bL rfl (.const (.slice none 0 0)) (.tmp 89) rfl rfl t.a t.len t.cap t.bs rfl HTN.out HT.out.1.1 HTR.out (by omega) ?_; intro a5 c5 w5 ho5 hb5; have HO5 := hide ho5; have HB5 := hide hb5; clear ho5 hb5))
            have HX5 := hide (HX.out.below HB5.out)
            have HF5 := hide (HX.out.fb HO5.out HT.out.1.1 HT.out.1.2.1)
            have hrr := reads_ownV HO5.out
            have C12b := hide (C12.out _ _ a5 c5 HX5.out.lx hrr.1 hrr.2 (fun ad e _ => by have h1 := (HF5.out.fresh ad e).1; exact fun q => h1 (by rw [q]; exact HX5.out.hgx)))
            clear hrr
            go_upto_region 19 with (go_at_call 12; go_must ((with_reducible refine C12b.out.mono ?_); rintro e w6 ⟨rfl, hL6, hK6⟩; have HL6 := hide hL6; have HK6 := hide hK6; clear hL6 hK6))
            have HX6 := hide (HX5.out.stepX HL6.out HK6.out)
            have HF6 := hide (show FB w w6 ab (Ex D w5 w6) E a5 t.len c5 from HF5.out.step (fun j q hj => HK6.out.block j hj (fun e => q.1 (by rw [e]; exact HX5.out.hgx))) (fun j q hj => ⟨fun e => e.elim q.1 (fun h1 => by omega), q.2.1, q.2.2.1, q.2.2.2⟩))
            clear HL6 HK6 HB5
            generalize Ex D w5 w6 = D6 at *
            clear HX HF5 HX5 C12 C12b HO5
            go_wp2_with fail
            go_loopw [21] (fun kv wr => ∃ j : Nat, j ≤ t.len ∧ kv = .int .i64 (j : Nat) ∧ Hid (PA w wr gx gr ab [.int .i64 0, .int .i64 now, .slice t.a t.len t.cap, .int .i64 f.fr, .int .i64 f.tt, .int .i64 f.lf, .int .i64 f.sq, .int .i64 f.ak, .slice f.t.a f.t.len f.t.cap] D6 E s' k r ∧ FB w wr ab D6 E a5 t.len c5)) (fun kv _ => t.len - (intOf kv).toNat)
            case atStart => exact ⟨0, Nat.zero_le _, rfl, hide ⟨HX6.out, HF6.out⟩⟩
            case round =>
              obtain ⟨j, hj, rfl, HJ⟩ := hrel
              by_cases hjl : j < t.len
              · have hjI : (j : Int) < (t.len : Int) := by omega
                obtain ⟨g, rfl, hfb, hfz, x, hx, hcx⟩ := HJ.out.2.at hjl
                obtain ⟨z, hz, hz2⟩ := xor255 x hx
                have HNX := hide (show PA w (wr.setCell ⟨g, j, none⟩ (.int .u8 (z : Int))) gx gr ab [.int .i64 0, .int .i64 now, .slice t.a t.len t.cap, .int .i64 f.fr, .int .i64 f.tt, .int .i64 f.lf, .int .i64 f.sq, .int .i64 f.ak, .slice f.t.a f.t.len f.t.cap] D6 E s' k r ∧ FB w (wr.setCell ⟨g, j, none⟩ (.int .u8 (z : Int))) ab D6 E (some ⟨g, 0, none⟩) t.len c5 from ⟨HJ.out.1.put hfb.1 hfb.2.1 hfb.2.2.1 hfb.2.2.2 _, HJ.out.2.put hz⟩)
                clear HJ hfb hx hz
                go_wp2_with fail
                go_roundw
                case rel => exact ⟨j + 1, by omega, by go_num, HNX⟩
                case measure => simp [intOf]; omega
              · obtain rfl : j = t.len := by omega
                have hjI : ¬ (t.len : Int) < (t.len : Int) := by omega
                have HXj := hide HJ.out.1
                have z2 := (BoxL.at HXj.out.bx (o := 2) rfl).1
                have C14b := hide (C14.out E _ t.a t.cap HXj.out.drew.lr (HT.out.1.2.2.2.2.below HXj.out.drew.bel) HTN.out HTB.out)
                clear HJ
                go_upto_region 23 with fail
                go_region_held3 (fun W => W.cell? ⟨ab, 2, none⟩ = some (.slice t.a t.len t.cap)) (first | exact z2 | exact y2) (first
                  | (go_at_call 13; (with_reducible refine (num_any _ _).mono ?_); rintro e w8 ⟨rfl, hw8⟩; subst hw8)
                  | (go_at_call 14; (with_reducible refine C14b.out.mono ?_); rintro e w9 ⟨rfl, hR9, hK9⟩; have HX9 := hide (HXj.out.drew.stepR hR9 hK9); have y2 := (BoxL.at HX9.out.bx (o := 2) rfl).1; clear hR9 hK9))
                go_wp2
                go_meet
                exact hide ⟨_, _, _, _, HX9.out, HPR.out⟩
          · subst hw
            obtain ⟨s', r', L, hLl, hPR, hB1, hB2⟩ := out_two hR.out hn200 h8 gx gr now (by omega) (by omega)
            have HPR := hide hPR
            have C15 := hide (hB1 D _ HX.out.lx)
            have C17 := hide (fun W h => hB2 E W h)
            unfold OQ at C15
            unfold ROQ' at C17
            obtain ⟨nl, hnl⟩ : ∃ n, n = L.length := ⟨_, rfl⟩
            rw [← hnl] at C15 C17 hLl
            have HNL := hide hnl
            have HXL := hide HX.out.bx.1
            have HDL := hide HX.out.lx.lt
            have HEL := hide (rlk_lt HX.out.lr)
            have HWL := hide HX.out.bel.size
            clear hB1 hB2 hPR hnl
            go_upto_region 29 with (first
              | (go_at_call 15; go_must ((with_reducible refine C15.out.mono ?_); rintro e w6 ⟨a6, c6, l6, rfl, hr6, hl6, hx6, hk6⟩; have HR6 := hide hr6; have HL6 := hide hl6; have HX6 := hide (HX.out.stepX0 hx6 hk6); have y1 := (BoxL.at HX6.out.bx (o := 1) rfl).1; have C17b := hide (C17.out _ HX6.out.lr); have HK6 := hide hk6.size; clear hr6 hl6 hx6 hk6))
              | (go_at_call 17; go_must ((with_reducible refine C17b.out.mono ?_); rintro e w7 ⟨a7, c7, l7, rfl, hr7, hl7, hx7, hk7⟩; have HX7 := hide (HX6.out.stepR0 hx7 hk7); have HR67 := hide (HR6.out.keep hk7.size (fun j hj hlt => hk7.block j hlt (fun e => by have := HEL.out j e; omega))); have CF := hide (frames_yes w7 a6 a7 nl c6 nl c7 l6 l7 HR67.out.reads hr7.reads (HL6.out.trans hl7.symm) (by omega)); clear hr7 hl7 hx7 hk7))
              | (go_at_call 16; go_must ((with_reducible refine CF.out.mono ?_); rintro e w8 ⟨rfl, hb8⟩; have HX8 := hide (HX7.out.below hb8); have HR8 := hide (HR67.out.below hb8); clear hb8)))
            have HF8 := hide (show FF w w8 ab D E a6 nl c6 l6 from ⟨own_base HR8.out.2.1 (Nat.zero_le _), HR8.out.1, fun x hx => by
              obtain ⟨⟨q1, q2, _⟩, q3, q4⟩ := HR8.out.2.2 x hx
              exact ⟨_, q3, q1, q2, fun ad e => by
                have h1 := q4 ad e
                have h2 := HXL.out
                have h3 := HWL.out
                exact ⟨fun q => by have := HDL.out _ q; omega, fun q => by have := HEL.out _ q; omega, by omega, by omega⟩⟩⟩)
            have HLL := hide (show l6.length = nl from HR8.out.1)
            have HBD := hide (show ∀ x ∈ l6, x.t.len ≤ 4096 from fun x hx => (HR8.out.2.2 x hx).1.2.2)
            clear HR8 HR67 HR6 HL6 HX7 HX6 HX C15 C17 C17b CF
            go_wp2_with fail
            go_loopw [23] (fun kv wr => ∃ i : Nat, i ≤ nl ∧ kv = .int .i64 (i : Nat) ∧ Hid (PA w wr gx gr ab [.int .i64 1, .int .i64 now, .slice t.a t.len t.cap, .int .i64 f.fr, .int .i64 f.tt, .int .i64 f.lf, .int .i64 f.sq, .int .i64 f.ak, .slice f.t.a f.t.len f.t.cap] D E s' k r' ∧ FF w wr ab D E a6 nl c6 l6)) (fun kv _ => nl - (intOf kv).toNat)
            case atStart => exact ⟨0, Nat.zero_le _, rfl, hide ⟨HX8.out, HF8.out⟩⟩
            case round =>
              obtain ⟨i, hi, rfl, HJ⟩ := hrel
              by_cases hil : i < nl
              · have hiI : (i : Int) < (nl : Int) := by omega
                have hil6 : i < l6.length := by have := HLL.out; omega
                obtain ⟨b, rfl, -, -⟩ := HJ.out.2.at hil6
                have HY := hide (fun W (h : FF w W ab D E (some ⟨b, 0, none⟩) nl c6 l6) => show W.cell? ⟨b, i * 6 + 5, none⟩ = some (.slice l6[i].t.a l6[i].t.len l6[i].t.cap) ∧ FB w W ab D E l6[i].t.a l6[i].t.len l6[i].t.cap from by
                  obtain ⟨b', e, q1, q2⟩ := h.at hil6
                  cases e
                  exact ⟨q1, q2⟩)
                have HZ := hide (fun W g j z (h : FF w W ab D E (some ⟨b, 0, none⟩) nl c6 l6) (hg : l6[i].t.a = some ⟨g, 0, none⟩) (hz : z < 256) => h.put (j := j) hil6 hg hz)
                have hyn := HBD.out l6[i] (List.getElem_mem _)
                generalize l6[i].t.a = ya at HY HZ
                generalize l6[i].t.len = yn at HY hyn
                generalize l6[i].t.cap = yc at HY
                clear hil6
                go_wp2_with fail
                go_loopw [24] (fun jv wj => ∃ j : Nat, j ≤ yn ∧ jv = .int .i64 (j : Nat) ∧ Hid (PA w wj gx gr ab [.int .i64 1, .int .i64 now, .slice t.a t.len t.cap, .int .i64 f.fr, .int .i64 f.tt, .int .i64 f.lf, .int .i64 f.sq, .int .i64 f.ak, .slice f.t.a f.t.len f.t.cap] D E s' k r' ∧ FF w wj ab D E (some ⟨b, 0, none⟩) nl c6 l6)) (fun jv _ => yn - (intOf jv).toNat)
                case atStart => exact ⟨0, Nat.zero_le _, rfl, HJ⟩
                case round =>
                  obtain ⟨j, hj, rfl, HJ2⟩ := hrel
                  obtain ⟨hc, hfb⟩ := HY.out _ HJ2.out.2
                  by_cases hjl : j < yn
                  · have hjI : (j : Int) < (yn : Int) := by omega
                    obtain ⟨g, rfl, hFb, hfz, x, hx, hcx⟩ := hfb.at hjl
                    obtain ⟨z, hz, hz2⟩ := xor255 x hx
                    have HNX := hide (show PA w (wr.setCell ⟨g, j, none⟩ (.int .u8 (z : Int))).drew gx gr ab [.int .i64 1, .int .i64 now, .slice t.a t.len t.cap, .int .i64 f.fr, .int .i64 f.tt, .int .i64 f.lf, .int .i64 f.sq, .int .i64 f.ak, .slice f.t.a f.t.len f.t.cap] D E s' k r' ∧ FF w (wr.setCell ⟨g, j, none⟩ (.int .u8 (z : Int))).drew ab D E (some ⟨b, 0, none⟩) nl c6 l6 from ⟨(HJ2.out.1.put hFb.1 hFb.2.1 hFb.2.2.1 hFb.2.2.2 _).drew, HZ.out _ _ _ _ HJ2.out.2 rfl hz⟩)
                    clear hfb hFb hx hz HJ2
                    go_upto_region 35 with fail
                    go_big_region
                    go_wp2
                    go_roundw
                    case rel => exact ⟨j + 1, by omega, by go_num, HNX⟩
                    case measure => simp [intOf]; omega
                  · obtain rfl : j = yn := by omega
                    have hjI : ¬ (j : Int) < (j : Int) := by omega
                    clear hfb
                    go_wp2_with fail
                    go_roundw
                    case rel => exact ⟨i + 1, by omega, by go_num, HJ2⟩
                    case measure => simp [intOf]; omega
              · obtain rfl : i = nl := by omega
                have hiI : ¬ (i : Int) < (i : Int) := by omega
                have HXj := hide HJ.out.1
                clear HJ
                go_wp2_with fail
                go_meet
                exact hide ⟨_, _, _, _, HXj.out, HPR.out⟩
          · have hxx : (f.p).x = f.t.bs := rfl
            obtain ⟨q, s', r', L, hLl, hPR, hB1, hB2⟩ := in_two hR.out hn200 gx gr f.p f.t.len HU.out.1.1 HU.out.1.2.1 HQ.out
            have HPR := hide hPR
            have C18 := hide (hB1 D _ f.t.a f.t.cap HX.out.lx (HU.out.1.2.2.2.2.below HX.out.bel) HU.out.1.2.2.2.1 (fun ad e h0 => by have := HU.out.2 ad e h0; have := HX.out.n1 _ HX.out.hgx; omega))
            have C19 := hide (fun E W (h1 : RLk E W gr k r) (h2 : Below w.heap.size w W) (h3 : ∀ j, E j → w.heap.size ≤ j) => hB2 E W f.t.a f.t.cap h1 (HU.out.1.2.2.2.2.below h2) HU.out.1.2.2.2.1 (fun ad e h0 q => by have := HU.out.2 ad e h0; have := h3 _ q; omega))
            unfold IQ at C18
            unfold RIQ at C19
            simp only [Fm.p] at C18 C19
            have HEL := hide (rlk_lt HX.out.lr)
            have hqq : (q != q) = false := by simp
            clear hB1 hB2 hPR hxx
            go_wp2_with (first
              | (go_at_call 18; go_must ((with_reducible refine C18.out.mono ?_); rintro e w6 ⟨a6, n6, c6, l6, rfl, hr6, hl6, hx6, hk6⟩; have HR6 := hide hr6; have HL6 := hide hl6; have HX6 := hide (HX.out.stepX hx6 hk6); have y3 := (BoxL.at HX6.out.bx (o := 3) rfl).1; have y4 := (BoxL.at HX6.out.bx (o := 4) rfl).1; have y5 := (BoxL.at HX6.out.bx (o := 5) rfl).1; have y6 := (BoxL.at HX6.out.bx (o := 6) rfl).1; have y7 := (BoxL.at HX6.out.bx (o := 7) rfl).1; have y8 := (BoxL.at HX6.out.bx (o := 8) rfl).1; have C19b := hide (C19.out _ _ HX6.out.lr HX6.out.bel HX6.out.n2); clear hr6 hl6 hx6 hk6))
              | (go_at_call 19; go_must ((with_reducible refine C19b.out.mono ?_); rintro e w7 ⟨a7, n7, c7, l7, rfl, hr7, hl7, hx7, hk7⟩; have HX7 := hide (HX6.out.stepR hx7 hk7); have HR67 := hide (HR6.out.keep (fun j hj hlt => hk7.block j hlt (fun e => by have := HEL.out j e; omega)) (fun z hz ad e => hk7.block _ ((HR6.out.2.2 z hz).lt ad e) (fun q => HX6.out.dj _ ((HR6.out.2.2 z hz).2.2 ad e).1 q))); have CL := hide (loads_yes w7 a6 a7 n6 c6 n7 c7 l6 l7 (rowL_of HR67.out) (rowL_of hr7) (HL6.out.trans hl7.symm) (by have h1 := HR6.out.1; have h2 := congrArg List.length HL6.out; rw [List.length_map] at h2; omega)); clear hr7 hl7 hx7 hk7))
              | (go_at_call 20; go_must ((with_reducible refine CL.out.mono ?_); rintro e w8 ⟨rfl, hb8⟩; have HX8 := hide (HX7.out.below hb8); clear hb8)))
            go_meet
            exact hide ⟨_, _, _, _, HX8.out, HPR.out⟩
        case rest =>
          have HP := hcut
          clear HX hR
          obtain ⟨D5, E5, s5, r5, hX5, hR5⟩ := HP.out
          clear HP
          have h85 : s5.op.length ≤ 8 := by obtain ⟨m, _, _, hr⟩ := hX5.lx; exact hr.len
          have HX5 := hide hX5
          have HR5 := hide hR5
          have hsq : (s5.acked + s5.op.length : Nat) = r5.seq := hR5.seq.symm
          have C21 := hide (fun W (h : PA w W gx gr ab [.int .i64 wy, .int .i64 now, .slice t.a t.len t.cap, .int .i64 f.fr, .int .i64 f.tt, .int .i64 f.lf, .int .i64 f.sq, .int .i64 f.ak, .slice f.t.a f.t.len f.t.cap] D5 E5 s5 k r5) => open_any D5 gx s5 W h.lx (by have := hR5.b1; unfold Lk.used; omega))
          have C22 := hide (fun W (h : PA w W gx gr ab [.int .i64 wy, .int .i64 now, .slice t.a t.len t.cap, .int .i64 f.fr, .int .i64 f.tt, .int .i64 f.lf, .int .i64 f.sq, .int .i64 f.ak, .slice f.t.a f.t.len f.t.cap] D5 E5 s5 k r5) => ropen_any E5 gr k r5 W h.lr)
          have C23 := hide (fun W (h : PA w W gx gr ab [.int .i64 wy, .int .i64 now, .slice t.a t.len t.cap, .int .i64 f.fr, .int .i64 f.tt, .int .i64 f.lf, .int .i64 f.sq, .int .i64 f.ak, .slice f.t.a f.t.len f.t.cap] D5 E5 s5 k r5) => seq_any D5 gx s5 W h.lx)
          unfold Lk.used at C23
          rw [hsq] at C23
          have hlen := hR5.len
          rw [hlen] at C22
          have z5 : wc.cell? ⟨gr, 5, none⟩ = some (.int .i64 (r5.seq : Nat)) := hX5.lr.c4.2.2.2
          generalize s5.op.length = no at C21 C22 h85
          generalize r5.seq = sq at C23 z5
          have h9 : ((no : Int) != (no : Int)) = false := by simp
          have h9b : ((sq : Int) != (sq : Int)) = false := by simp
          have h9c : decide ((8 : Int) < (no : Int)) = false := by simp; omega
          have CA := hide (C21.out _ HX5.out.drew)
          clear hX5 hR5 hsq hlen
          go_upto_region 36 with fail
          go_region_held3 (fun W => W.cell? ⟨gr, 5, none⟩ = some (.int .i64 (sq : Nat))) (first | exact z5 | exact y5 | exact x5 | exact v5) (first
            | (go_at_call 21; (with_reducible refine CA.out.mono ?_); rintro e w6 ⟨rfl, hb6⟩; have HX6 := hide (HX5.out.drew.below hb6); have y5 := keep_cell z5 (below_undrew1 hb6); have CB := hide (C22.out _ HX6.out); have CC := hide (C23.out _ HX6.out); have CD := hide (C21.out _ HX6.out); clear hb6)
            | (go_at_call 22; (with_reducible refine CB.out.mono ?_); rintro e w7 ⟨rfl, hw7⟩; subst hw7)
            | (go_at_call 23; (with_reducible refine CC.out.mono ?_); rintro e w8 ⟨rfl, hw8⟩; subst hw8)
            | (go_at_call 21; (with_reducible refine CD.out.mono ?_); rintro e w9 ⟨rfl, hb9⟩; have HX9 := hide (HX6.out.below hb9); have x5 := keep_cell y5 hb9; clear hb9))
          go_wp2
          go_roundw
          case rel => exact ⟨i0 + 1, by omega, by go_num, hide ⟨⟨_, _, _, _, HX9.out.toPM, HR5.out⟩⟩⟩
          case measure => simp [intOf]; omega

      · obtain rfl : i0 = n := by omega
        have hltI : ¬ (i0 : Int) < (i0 : Int) := by omega
        obtain ⟨D, E, s, r, hM, hR⟩ := HQ.out.ex
        have HB := hide hM.bel
        clear hM hR
        go_wp2
        go_ret
        exact ⟨rfl, HB.out⟩
theorem walk (self peer life theirs last : Int) (a : Option Addr) (n c : Nat) (l : List La) (w : World) (hl : l.length = n) (hA : ActsM w a l) :
    Calls Try.prog 3 #[.int .i64 self, .int .i64 peer, .int .i64 life, .int .i64 theirs, .int .i64 last, .slice a n c] w fun e w' => e = .returned (.bool true) ∧ Below w.heap.size w w' := walk_main self peer life theirs last a n c l w hl hA
end linkPlays
end Go.Proofs.Ytofigofaiadffaa
