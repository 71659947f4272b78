/- The document's link: In, its walk. -/
import Derived.Test.YtofigofaiadffaaRij
namespace Go.Proofs.Ytofigofaiadffaa
open Go.RowKit Go.ChangeShapes Go.WideShapes Go.ChangeAt Go.Deep

theorem rin_short {E : Nat → Prop} {w V W : World} {g : Nat} {k : Kc} {r r2 : Rl} {f : Fr} (hV : Below w.heap.size w V) (hF : rforB k r f = true) (h : RLk (Ex E V W) W g k r2) (hk : Kp E V W) (h1 : rinF k r f = []) (h2 : rinL k r f = r2) : RInQ E w g k r f (.returned (.tuple #[.slice none 0 0, .bool true])) W := by
  have hlt : ∀ j, Ex E V W j → j < W.heap.size := by
    obtain ⟨_, _, _, _, _, _, _, _, -, -, -, -, -, -, h7⟩ := h
    exact h7
  refine ⟨none, 0, 0, [], by rw [hF], RowT.nil _ _ _, by rw [h1]; rfl, ?_, Kp.trans' (.of_below hV) hk (fun j hj => .inl hj)⟩
  rw [h2]
  exact h.mono (fun j hj => hj.elim .inl fun h3 => .inr ⟨Nat.le_trans hV.size h3.1, h3.2⟩) (fun j hj => hj.elim (fun h3 => hlt j (.inl h3)) fun h3 => h3.2)

set_option linter.unusedSimpArgs false in
set_option maxRecDepth 100000 in
set_option maxHeartbeats 8000000 in
theorem rin_yes (E : Nat → Prop) (g : Nat) (k : Kc) (r : Rl) (f : Fr) (a : Option Addr) (n c : Nat) (w : World) (h : RLk E w g k r) (hl : f.x.length = n) (hF : rforB k r f = true) (hB : Byt f.x) (hr : Reads w a (bV f.x)) (hnil : a = none → n = 0 ∧ c = 0) (ho6 : r.op.length ≤ 1000) (hk6 : r.kp.length ≤ 1000) (ha6 : r.all ≤ 1000000) (hs6 : f.sq ≤ 9223372036854775807) (hne : ∀ ad, a = some ad → 0 < n → ¬ E ad.block) :
    Calls Try.prog 19 #[.pointer (some ⟨g, 0, none⟩), .agg #[.int .i64 f.fr, .int .i64 f.tt, .int .i64 f.lf, .int .i64 f.sq, .int .i64 f.ak, .slice a n c]] w (RInQ E w g k r f) := by
  have hbn := below_new w (.cells #[.int .i64 f.fr, .int .i64 f.tt, .int .i64 f.lf, .int .i64 f.sq, .int .i64 f.ak, .slice a n c] 34)
  have hgl : g < w.heap.size := by obtain ⟨_, _, _, _, _, _, _, _, -, -, -, -, -, hEg, h7⟩ := h; exact h7 g hEg
  have hgf : g ≠ w.heap.size := by omega
  obtain ⟨c0, c1, c3, c5⟩ := (h.below hbn).c4
  have hbx := BoxL.new w [.int .i64 f.fr, .int .i64 f.tt, .int .i64 f.lf, .int .i64 f.sq, .int .i64 f.ak, .slice a n c] 34
  have HF := hide hF
  have HFF := hide (show f.fr = k.peer ∧ f.tt = k.self ∧ f.lf = k.theirs ∧ f.ak ≤ (r.seq : Int) ∧ 0 ≤ f.sq ∧ (n : Int) ≤ 4096 from by
    unfold rforB at hF
    simp only [hl, decide_eq_true_eq] at hF
    exact ⟨hF.1, hF.2.1, hF.2.2.1, hF.2.2.2.1, hF.2.2.2.2.1, by omega⟩)
  have q1 : (f.fr == k.peer) = true := by simpa using HFF.out.1
  have q2 : (f.tt == k.self) = true := by simpa using HFF.out.2.1
  have q3 : (f.lf == k.theirs) = true := by simpa using HFF.out.2.2.1
  have q1b : (f.fr != k.peer) = false := by simpa using HFF.out.1
  have q2b : (f.tt != k.self) = false := by simpa using HFF.out.2.1
  have q3b : (f.lf != k.theirs) = false := by simpa using HFF.out.2.2.1
  have q4 : decide ((r.seq : Int) < f.ak) = false := by have := HFF.out; simp; omega
  have q5 : decide (f.sq < 0) = false := by have := HFF.out; simp; omega
  have q6 : decide (4096 < (n : Int)) = false := by have := HFF.out; simp; omega
  obtain ⟨V, hV⟩ : ∃ V, V = w.alloc (.cells #[.int .i64 f.fr, .int .i64 f.tt, .int .i64 f.lf, .int .i64 f.sq, .int .i64 f.ak, .slice a n c] 34) := ⟨_, rfl⟩
  have hbx' : BoxL V w.heap.size [.int .i64 f.fr, .int .i64 f.tt, .int .i64 f.lf, .int .i64 f.sq, .int .i64 f.ak, .slice a n c] := by rw [hV]; exact hbx
  rw [← hV] at hbn c0 c1 c3 c5
  have HS0 := hide (RIS.begin f h hbn)
  have HBN := hide hbn
  have HBX := hide hbx'
  have HR := hide (hr.below hbn)
  have HL := hide (And.intro hl (And.intro hB hnil))
  have HK6 := hide (And.intro hk6 (And.intro ha6 hs6))
  have HVV := hide hV
  have HNE := hide hne
  have HVL := hide (show w.heap.size < V.heap.size from hbx'.1)
  have HEL := hide (show ∀ j, E j → j < w.heap.size from by obtain ⟨_, _, _, _, _, _, _, _, -, -, -, -, -, -, h7⟩ := h; exact h7)
  obtain ⟨y0, y1, y2, y3, y4, y5⟩ := hbx'.c6
  have hsn : 0 ≤ f.sq := HFF.out.2.2.2.2.1
  clear hbx hbx' hbn h hl hB hr hnil hV hk6 ha6 hF hne
  go_enter Try.func19, Try.ntmps19
  go_upto_region 1 with fail
  rw [← HVV.out]
  clear HVV
  go_big_quiet (fail)
  clear q1 q2 q3 q4 q5 q6 q1b q2b q3b c0 c1 c3 c5
  have HS1 := hide (HS0.out.drewN nq)
  clear HS0
  generalize hW0 : V.drewN nq = W0 at *
  clear hW0
  go_wp2_with fail
  go_loopw [6, 7] (fun s i wr => ∃ (q : Nat) (a1 : Option Addr) (n1 c1 : Nat), q ≤ r.op.length ∧ n1 ≤ q ∧ s = .slice a1 n1 c1 ∧ i = .int .i64 (q : Nat) ∧ Hid (RIS E w V wr g k r f q a1 n1 c1)) (fun _ i _ => r.op.length - (intOf i).toNat)
  case atStart => exact ⟨0, none, 0, 0, Nat.zero_le _, Nat.le_refl _, rfl, rfl, HS1⟩
  case round =>
    obtain ⟨q, a1, n1, c1, hq, hnq, rfl, rfl, HS⟩ := hrel
    have HX := hide (HBX.out.below (HS.out.choose_spec.2.2.2.1))
    obtain ⟨x0, x1, x2, x3, x4, x5⟩ := HX.out.c6
    clear y0 y1 y2 y3 y4 y5
    by_cases hlt : q < r.op.length
    · have hki : (q : Int) < (r.op.length : Int) := by omega
      obtain ⟨b, oc, t, l, c7, ⟨d0, d1, d2, d3⟩, ht, hTx, hRo, hlm, hVs, hrow⟩ := HS.out.open hlt
      have HT := hide (And.intro ht hTx)
      have HRO := hide (And.intro hRo hlm)
      have HVS := hide (And.intro hVs hrow)
      have HM := hide (show ∀ (X w4 : World) (a4 : Option Addr) (c4 : Nat) (y : OpM), f.ak < (r.op[q].sq : Int) → y.q = r.op[q].q → RowO (EE E g V.heap.size) V.heap.size w4 a4 (n1 + 1) c4 (l ++ [y]) → Below wr.heap.size wr X → X.grownBy w4 (Value.slice a1 n1 c1).ownBlock → RIS E w V w4 g k r f (q + 1) a4 (n1 + 1) c4 from fun X w4 a4 c4 y hs hy hr4 hX hg => HS.out.more hlm hlt hs hy hr4 hX hg hrow)
      have HSK := hide (fun hs => HS.out.skip hlt hs)
      clear ht hTx hRo hlm hVs hrow
      generalize hp : r.op[q] = p at *
      have HP := hide hp
      clear hp
      by_cases hak : f.ak < (p.sq : Int)
      · have hd : decide (f.ak < (p.sq : Int)) = true := by simpa using hak
        clear HSK
        go_upto_region 7 with fail
        go_big_quiet (fail)
        have HY := hide (below_drewN (Below.refl wr.heap.size wr) nq)
        have HRY := hide (HRO.out.1.keep (w' := wr.drewN nq) (fun _ _ _ => rfl))
        have HTY := hide (HT.out.2.keep (w' := wr.drewN nq) (fun _ _ => rfl))
        have e7 : (wr.drewN nq).cell? ⟨g, 7, none⟩ = some (.slice (some ⟨b, 0, none⟩) r.op.length oc) := by simpa using c7
        have e0 : (wr.drewN nq).cell? ⟨b, q * 4, none⟩ = some (.int .i64 (p.sq : Nat)) := by simpa using d0
        have e1 : (wr.drewN nq).cell? ⟨b, q * 4 + 1, none⟩ = some (.int .i64 p.tt) := by simpa using d1
        have e2 : (wr.drewN nq).cell? ⟨b, q * 4 + 2, none⟩ = some (.int .i64 (p.n : Nat)) := by simpa using d2
        have e3 : (wr.drewN nq).cell? ⟨b, q * 4 + 3, none⟩ = some (.slice t.a t.len t.cap) := by simpa using d3
        have HYS := hide (show V.heap.size ≤ (wr.drewN nq).heap.size from HVS.out.1)
        clear d0 d1 d2 d3 c7 x0 x1 x2 x3 x4 x5
        generalize wr.drewN nq = Y at *
        have HX1 := hide (below_new Y (.cells #[.int .i64 (p.sq : Nat), .int .i64 p.tt, .int .i64 (p.n : Nat), .slice t.a t.len t.cap] 81))
        have HRX := hide (HRY.out.below HX1.out)
        have HTX := hide (HTY.out.below HX1.out)
        have HRD := hide (reads_new Y (OpM.cs ⟨(p.sq : Nat), p.tt, (p.n : Nat), t⟩) 81)
        have hgV : g < V.heap.size := by have := HBN.out.size; omega
        go_upto_region 6 with (at_builtin; go_must (refine append_or rfl (.tmp 78) (.tmp 86) rfl (EE E g V.heap.size) V.heap.size a1 n1 c1 l rfl HRX.out (by omega) (Nat.le_trans HYS.out HX1.out.size) (fun j hj => ⟨.inr (Nat.le_trans (Nat.le_trans HYS.out HX1.out.size) hj), by have := HYS.out; have := HX1.out.size; omega⟩) Y.heap.size ⟨(p.sq : Nat), p.tt, (p.n : Nat), t⟩ rfl HRD.out HTX.out ?_; intro a4 c4 w4 hr4 hg4; have HR4 := hide hr4; have HG4 := hide hg4; clear hr4 hg4))
        have HNX := hide (HM.out _ w4 a4 c4 _ hak (by unfold OpM.q Ro.q; rw [← HT.out.1]) HR4.out (HY.out.trans (HX1.out.mono HY.out.size)) HG4.out)
        clear HM HRX HTX HRD HRY HTY HG4 HR4 HX1 HY
        go_wp2_with fail
        go_roundw
        case rel => exact ⟨q + 1, a4, n1 + 1, c4, by omega, by omega, rfl, by go_num, HNX⟩
        case measure => simp [intOf]; omega
      · have hd : decide (f.ak < (p.sq : Int)) = false := by simpa using hak
        have HSN := hide (HSK.out hak)
        clear HSK HM
        go_upto_region 7 with fail
        go_big_quiet (fail)
        go_wp2_with fail
        go_roundw
        case rel => exact ⟨q + 1, a1, n1, c1, by omega, by omega, rfl, by go_num, hide (HSN.out _)⟩
        case measure => simp [intOf]; omega
    · obtain rfl : q = r.op.length := by omega
      obtain ⟨oa, oc, c7, f7⟩ := ris_len HS.out
      have HE := hide (ris_end HS.out HBX.out hgf)
      have HVB := hide HBN.out
      have HEg := hide (show E g from by obtain ⟨_, _, _, h3, _, _⟩ := HS.out; obtain ⟨_, _, _, _, _, _, _, _, -, -, -, -, -, h6, -⟩ := h3; exact h6)
      clear HS HX HBX
      go_upto_region 10 with fail
      generalize wr.setCell ⟨g, 7, none⟩ (.slice a1 n1 c1) = W1 at *
      clear c7 f7 x0 x1 x2 x3 x4 x5
      obtain ⟨x0, x1, x2, x3, x4, x5⟩ := HE.out.2.2.c6
      by_cases h0 : f.sq = 0
      · have HQ := hide (rin_short HVB.out HF.out HE.out.1 HE.out.2.1 (by unfold rinF; rw [if_pos (.inr (.inl h0))]) (by unfold rinL; rw [if_neg (by rw [HF.out]; decide), if_pos h0]))
        have h0' : (f.sq == 0) = true := by simpa using h0
        rw [h0] at x3
        generalize RInQ E w g k r f = Z at *
        go_wp2_with fail
        exact HQ.out
      · have h0' : (f.sq == 0) = false := by simpa using h0
        have HI2 := hide (show RI2 E V W1 g k (rcloseL r f) w.heap.size _ from ⟨HE.out.1, HE.out.2.1, HE.out.2.2, HEg.out, hgf⟩)
        obtain ⟨-, -, -, -, c9, f9, -⟩ := HI2.out.1.cells
        have HI3 := hide (ri2_owed HI2.out true)
        clear HI2 HE
        go_upto_region 13 with fail
        generalize W1.setCell ⟨g, 9, none⟩ (.bool true) = W2 at *
        clear x0 x1 x2 x3 x4 x5 c9 f9
        obtain ⟨x0, x1, x2, x3, x4, x5⟩ := HI3.out.2.2.1.c6
        obtain ⟨-, -, -, c6, -, -, -⟩ := HI3.out.1.cells
        have c6' : W2.cell? ⟨g, 6, none⟩ = some (.int .i64 (r.all : Nat)) := c6
        clear c6
        have hws : IntKind.i64.wrap (f.sq - (r.all : Int)) = f.sq - (r.all : Int) := by have := HK6.out; rw [IntKind.wrap_i64]; omega
        have HNIL := hide (fun W3 (h3 : RI2 E V W3 g k { rcloseL r f with ow := true } w.heap.size [.int .i64 f.fr, .int .i64 f.tt, .int .i64 f.lf, .int .i64 f.sq, .int .i64 f.ak, .slice a n c]) (hnl : rnilB r f = true) => rin_short HVB.out HF.out h3.1 h3.2.1 (by unfold rinF; rw [if_pos (.inr (.inr hnl))]) (by unfold rinL; rw [if_neg (by rw [HF.out]; decide), if_neg h0, if_pos hnl]))
        by_cases h8 : f.sq ≤ (r.all : Int) ∨ 8 < f.sq - (r.all : Int)
        · have HNL := hide (show rnilB r f = true from by unfold rnilB; rw [decide_eq_true h8]; rfl)
          have HQ := hide (fun q => HNIL.out _ (ri2_drewN HI3.out q) HNL.out)
          generalize RInQ E w g k r f = Z at *
          by_cases h9 : f.sq ≤ (r.all : Int)
          · have h9' : decide (f.sq ≤ (r.all : Int)) = true := by simpa using h9
            go_big_quiet (fail)
            go_wp2_with fail
            exact HQ.out _
          · have h9' : decide (f.sq ≤ (r.all : Int)) = false := by simpa using h9
            have h10 : decide (8 < f.sq - (r.all : Int)) = true := by simp; omega
            go_big_quiet (fail)
            go_wp2_with fail
            exact HQ.out _
        · have h9' : decide (f.sq ≤ (r.all : Int)) = false := by simp; omega
          have h10 : decide (8 < f.sq - (r.all : Int)) = false := by simp; omega
          go_big_quiet (fail)
          have HI4 := hide (ri2_drewN HI3.out nq)
          clear HI3 c6' x0 x1 x2 x3 x4 x5 hws
          generalize W2.drewN nq = W3 at *
          go_wp2_with fail
          go_loopw [8] (fun i wr => ∃ q : Nat, q ≤ r.kp.length ∧ i = .int .i64 (q : Nat) ∧ Hid (RI2 E V wr g k { rcloseL r f with ow := true } w.heap.size [.int .i64 f.fr, .int .i64 f.tt, .int .i64 f.lf, .int .i64 f.sq, .int .i64 f.ak, .slice a n c] ∧ ∀ j (hj : j < r.kp.length), j < q → r.kp[j].1 ≠ f.sq.toNat)) (fun i _ => r.kp.length - (intOf i).toNat)
          case atStart => exact ⟨0, Nat.zero_le _, rfl, hide ⟨HI4.out, fun j _ h => by omega⟩⟩
          case round =>
            obtain ⟨q, hq, rfl, HS⟩ := hrel
            obtain ⟨x0, x1, x2, x3, x4, x5⟩ := HS.out.1.2.2.1.c6
            have hk6 : r.kp.length ≤ 1000 := HK6.out.1
            by_cases hlt : q < r.kp.length
            · have hki : (q : Int) < (r.kp.length : Int) := by omega
              obtain ⟨b, kc, c8, t, ht, hTx, d0, d1⟩ := HS.out.1.1.kept (i := q) hlt
              have c8' : wr.cell? ⟨g, 8, none⟩ = some (.slice (some ⟨b, 0, none⟩) r.kp.length kc) := c8
              have d0' : wr.cell? ⟨b, q * 2, none⟩ = some (.int .i64 (r.kp[q].1 : Nat)) := d0
              clear ht hTx d1 c8 d0
              have HKQ := hide (show (r.kp[q].1 = f.sq.toNat → rnilB r f = true) ∧ (((r.kp[q].1 : Nat) : Int) = f.sq ↔ r.kp[q].1 = f.sq.toNat) from ⟨fun e => by unfold rnilB; rw [look_some hlt e, Bool.or_true], by omega⟩)
              have HSN := hide (fun (hne : r.kp[q].1 ≠ f.sq.toNat) (x : Nat) => show RI2 E V (wr.drewN x) g k { rcloseL r f with ow := true } w.heap.size [.int .i64 f.fr, .int .i64 f.tt, .int .i64 f.lf, .int .i64 f.sq, .int .i64 f.ak, .slice a n c] ∧ ∀ j (hj : j < r.kp.length), j < q + 1 → r.kp[j].1 ≠ f.sq.toNat from ⟨ri2_drewN HS.out.1 x, fun j hj h => by
                by_cases e : j = q
                · subst e; exact hne
                · exact HS.out.2 j hj (by omega)⟩)
              have HQ := hide (fun hnl x => HNIL.out _ (ri2_drewN HS.out.1 x) hnl)
              clear HNIL HS HI4
              generalize RInQ E w g k r f = Z at *
              generalize hp : r.kp[q].1 = p at *
              by_cases he : (p : Int) = f.sq
              · have he' : ((p : Int) == f.sq) = true := by simpa using he
                have HQ' := hide (HQ.out (HKQ.out.1 (HKQ.out.2.1 he)))
                go_upto_region 18 with fail
                go_big_quiet (fail)
                go_wp2_with fail
                exact HQ'.out _
              · have he' : ((p : Int) == f.sq) = false := by simpa using he
                have HSM := hide (HSN.out (fun e => he (HKQ.out.2.2 e)))
                go_upto_region 18 with fail
                go_big_quiet (fail)
                go_wp2_with fail
                go_roundw
                case rel => exact ⟨q + 1, by omega, by go_num, hide (HSM.out _)⟩
                case measure => simp [intOf]; omega
            · obtain rfl : q = r.kp.length := by omega
              obtain ⟨ka, kc, c8, f8⟩ := HS.out.1.1.keptN
              have c8' : wr.cell? ⟨g, 8, none⟩ = some (.slice ka r.kp.length kc) := c8
              clear c8
              have HRW := hide (show Reads wr a (bV f.x) from by
                rcases Nat.eq_zero_or_pos n with e0 | e0
                · have : f.x = [] := List.eq_nil_of_length_eq_zero (by have := HL.out.1; omega)
                  rw [this]; exact .inl rfl
                · exact HR.out.keepD (D := fun j => ¬ E j) (fun ad e => HNE.out ad e e0) (fun j hj hl => HS.out.1.2.1.block j hl hj))
              have HN4 := hide (show n ≤ 4096 from by have := HFF.out.2.2.2.2.2; omega)
              have hwl : w.heap.size < V.heap.size := HVL.out
              obtain ⟨kb, kd, lk, b8, -, hkr, hke, hkt, hkc, hkf⟩ := rkeep_mid HS.out.1 HEL.out hwl
              have hka : kb = ka ∧ kd = kc := by
                have e : some (Value.slice kb r.kp.length kd) = some (Value.slice ka r.kp.length kc) := b8.symm.trans c8'
                simpa using e
              obtain ⟨rfl, rfl⟩ := hka
              have HKR := hide hkr
              have HKE := hide hke
              have HKT := hide hkt
              have HKC := hide hkc
              have HKF := hide hkf
              clear hkr hke hkt hkc hkf b8
              have HRN := hide (show rnilB r f = false from by unfold rnilB; rw [decide_eq_false h8, look_none (fun j hj => HS.out.2 j hj hj)]; rfl)
              clear HS HI4 HNIL
              go_upto_region 20 with fail
              go_cut [] from 135 to 149 (fun wc => Hid (R3 E V wc g k r f w.heap.size [.int .i64 f.fr, .int .i64 f.tt, .int .i64 f.lf, .int .i64 f.sq, .int .i64 f.ak, .slice a n c] none 0 0 true (r.kp ++ [(f.sq.toNat, f.x)]) r.all []))
              case first =>
                refine wp_region_noPanic ?_
                refine wp_region_held_drew (S := fun W => W.cell? ⟨w.heap.size, 3, none⟩ = some (.int .i64 f.sq) ∧ W.cell? ⟨w.heap.size, 5, none⟩ = some (.slice a n c)) (by kernel_rfl) (by first | exact ⟨x3, x5⟩ | exact ⟨z3, z5⟩ | exact ⟨k3, k5⟩ | exact ⟨m3, m5⟩ | exact ⟨s3, s5⟩) (fun hHeld => ?_)
                refine takeD (i := 0) (d := some 135) (v := ?_) rfl rfl (by kernel_rfl) (by kernel_rfl) (by kernel_rfl) (fun _ _ _ h => h) (Or.inl ⟨by rfl, ?_⟩) (by assumption) ?_
                rotate_left
                · intro w hSw
                  go_simp
                  try (with_reducible rfl)
                try simp only [Act.put, List.setIfInBounds_toArray, List.set_cons_zero, List.set_cons_succ]
                refine takeD (i := 1) (d := some 136) (v := ?_) rfl rfl (by kernel_rfl) (by kernel_rfl) (by kernel_rfl) (fun _ _ _ h => h) (Or.inl ⟨by rfl, ?_⟩) (by assumption) ?_
                rotate_left
                · intro w hSw
                  go_simp
                  try (with_reducible rfl)
                try simp only [Act.put, List.setIfInBounds_toArray, List.set_cons_zero, List.set_cons_succ]
                refine takeD (i := 2) (d := some 137) (v := ?_) rfl rfl (by kernel_rfl) (by kernel_rfl) (by kernel_rfl) (fun _ _ _ h => h) (Or.inl ⟨by rfl, ?_⟩) (by assumption) ?_
                rotate_left
                · intro w hSw
                  go_simp
                  try (with_reducible rfl)
                try simp only [Act.put, List.setIfInBounds_toArray, List.set_cons_zero, List.set_cons_succ]
                refine takeD (i := 3) (d := some 138) (v := ?_) rfl rfl (by kernel_rfl) (by kernel_rfl) (by kernel_rfl) (fun _ _ _ h => h) (Or.inl ⟨by rfl, ?_⟩) (by assumption) ?_
                rotate_left
                · intro w hSw
                  go_simp
                  try (with_reducible rfl)
                try simp only [Act.put, List.setIfInBounds_toArray, List.set_cons_zero, List.set_cons_succ]
                refine takeD (i := 5) (d := some 140) (v := ?_) rfl rfl (by kernel_rfl) (by kernel_rfl) (by kernel_rfl) (fun _ _ _ h => h) (Or.inl ⟨by rfl, ?_⟩) (by assumption) ?_
                rotate_left
                · intro w hSw
                  go_simp
                  try (with_reducible rfl)
                try simp only [Act.put, List.setIfInBounds_toArray, List.set_cons_zero, List.set_cons_succ]
                refine takeD (i := 6) (d := some 141) (v := ?_) rfl rfl (by kernel_rfl) (by kernel_rfl) (by kernel_rfl) (fun _ _ _ h => h) (Or.inl ⟨by rfl, ?_⟩) (by assumption) ?_
                rotate_left
                · intro w hSw
                  go_simp
                  try (with_reducible rfl)
                try simp only [Act.put, List.setIfInBounds_toArray, List.set_cons_zero, List.set_cons_succ]
                refine takeD (i := 7) (d := some 142) (v := ?_) rfl rfl (by kernel_rfl) (by kernel_rfl) (by kernel_rfl) (fun _ _ _ h => h) (Or.inl ⟨by rfl, ?_⟩) (by assumption) ?_
                rotate_left
                · intro w hSw
                  go_simp
                  try (with_reducible rfl)
                try simp only [Act.put, List.setIfInBounds_toArray, List.set_cons_zero, List.set_cons_succ]
                refine takeD (i := 8) (d := some 143) (v := ?_) rfl rfl (by kernel_rfl) (by kernel_rfl) (by kernel_rfl) (fun _ _ _ h => h) (Or.inl ⟨by rfl, ?_⟩) (by assumption) ?_
                rotate_left
                · intro w hSw
                  go_simp
                  try (with_reducible rfl)
                try simp only [Act.put, List.setIfInBounds_toArray, List.set_cons_zero, List.set_cons_succ]
                refine wpAnyH_ready (rs := [4, 9]) (by kernel_rfl) (by simp) ?_
                refine AllReadyH.cons rfl (fun K hK => ?_) (AllReadyH.cons rfl (fun K hK => ?_) AllReadyH.nil)
                · skip
                  go_simp
                  go_wp2_with fail
                  refine hK.out _ _ (by first | exact ⟨x3, x5⟩ | exact ⟨z3, z5⟩ | exact ⟨k3, k5⟩ | exact ⟨m3, m5⟩ | exact ⟨s3, s5⟩) (fun hHeld => ?_)
                  clear hK K
                  try simp only [Act.put, List.setIfInBounds_toArray, List.set_cons_zero, List.set_cons_succ]
                  refine wpAnyH_ready (rs := [9]) (by kernel_rfl) (by simp) ?_
                  refine AllReadyH.cons rfl (fun K hK => ?_) AllReadyH.nil
                  refine app_b (.const (.slice none 0 0)) (.tmp 143) rfl rfl a n c f.x rfl HL.out.2.2 HL.out.1 (HRW.out.drew) (by have := HN4.out; omega) ?_
                  intro a5 c5 w2 ho1 hb1
                  have HO1 := hide ho1
                  have HB1 := hide (below_undrew1 hb1)
                  have z3 := keep_cell x3 HB1.out
                  have z5 := keep_cell x5 HB1.out
                  have z8 := keep_cell c8' HB1.out
                  clear ho1 hb1
                  refine hK.out _ _ (by first | exact ⟨x3, x5⟩ | exact ⟨z3, z5⟩ | exact ⟨k3, k5⟩ | exact ⟨m3, m5⟩ | exact ⟨s3, s5⟩) (fun hHeld => ?_)
                  clear hK K
                  try simp only [Act.put, List.setIfInBounds_toArray, List.set_cons_zero, List.set_cons_succ]
                  refine takeD (i := 10) (d := some 145) (v := ?_) rfl rfl (by kernel_rfl) (by kernel_rfl) (by kernel_rfl) (fun _ _ _ h => h) (Or.inl ⟨by rfl, ?_⟩) (by assumption) ?_
                  rotate_left
                  · intro w hSw
                    go_simp
                    try (with_reducible rfl)
                  try simp only [Act.put, List.setIfInBounds_toArray, List.set_cons_zero, List.set_cons_succ]
                  refine wpAnyH_ready (rs := [11]) (by kernel_rfl) (by simp) ?_
                  refine AllReadyH.cons rfl (fun K hK => ?_) AllReadyH.nil
                  go_simp
                  go_wp2_with fail
                  have HX1 := hide (below_new w2 (.cells #[.int .i64 f.sq, .slice a5 n c5] 92))
                  have k3 := keep_cell z3 HX1.out
                  have k5 := keep_cell z5 HX1.out
                  have k8 := keep_cell z8 HX1.out
                  refine hK.out _ _ (by first | exact ⟨x3, x5⟩ | exact ⟨z3, z5⟩ | exact ⟨k3, k5⟩ | exact ⟨m3, m5⟩ | exact ⟨s3, s5⟩) (fun hHeld => ?_)
                  clear hK K
                  try simp only [Act.put, List.setIfInBounds_toArray, List.set_cons_zero, List.set_cons_succ]
                  refine wpAnyH_ready (rs := [12]) (by kernel_rfl) (by simp) ?_
                  refine AllReadyH.cons rfl (fun K hK => ?_) AllReadyH.nil
                  refine app_kr (.tmp 139) (.tmp 146) rfl (EE (Ex E V wr) g wr.heap.size) 0 kb r.kp.length kd lk rfl (HKR.out _ (HB1.out.trans (HX1.out.mono HB1.out.size))) (by omega) (Nat.zero_le _) (HKE.out _ (Nat.le_trans HB1.out.size HX1.out.size)) w2.heap.size ⟨f.sq, ⟨a5, n, c5, f.x⟩⟩ rfl (reads_row w2 _ 92) (HKT.out a5 n c5 f.x w2 _ HL.out.1 HN4.out HL.out.2.1 HO1.out HB1.out HX1.out) ?_
                  intro a6 c6 w3 hr3 hg3
                  have HR3 := hide hr3
                  have HG3 := hide hg3
                  have HC3 := hide (HKC.out _ w3 (HB1.out.trans (HX1.out.mono HB1.out.size)) hg3)
                  obtain ⟨-, -, -, m3, -, m5⟩ := HC3.out.1.c6
                  have g8 := HC3.out.2.1
                  have h8 := HC3.out.2.2
                  clear hr3 hg3
                  refine hK.out _ _ (by first | exact ⟨x3, x5⟩ | exact ⟨z3, z5⟩ | exact ⟨k3, k5⟩ | exact ⟨m3, m5⟩ | exact ⟨s3, s5⟩) (fun hHeld => ?_)
                  clear hK K
                  try simp only [Act.put, List.setIfInBounds_toArray, List.set_cons_zero, List.set_cons_succ]
                  refine takeD (i := 13) (d := some 148) (v := ?_) rfl rfl (by kernel_rfl) (by kernel_rfl) (by kernel_rfl) (fun _ _ _ h => h) (Or.inl ⟨by rfl, ?_⟩) (by assumption) ?_
                  rotate_left
                  · intro w hSw
                    go_simp
                    try (with_reducible rfl)
                  try simp only [Act.put, List.setIfInBounds_toArray, List.set_cons_zero, List.set_cons_succ]
                  refine takeD (i := 14) (d := some 149) (v := ?_) rfl rfl (by kernel_rfl) (by kernel_rfl) (by kernel_rfl) (fun _ _ _ h => h) (Or.inl ⟨by rfl, ?_⟩) (by assumption) ?_
                  rotate_left
                  · intro w hSw
                    go_simp
                    try (with_reducible rfl)
                  try simp only [Act.put, List.setIfInBounds_toArray, List.set_cons_zero, List.set_cons_succ]
                  refine wpAnyH_ready (rs := [15]) (by kernel_rfl) (by simp) ?_
                  refine AllReadyH.cons rfl (fun K hK => ?_) AllReadyH.nil
                  go_simp
                  go_wp2_with fail
                  have HI5 := hide (HKF.out _ w3 a6 c6 ⟨f.sq, ⟨a5, n, c5, f.x⟩⟩ f.sq f.x (HB1.out.trans (HX1.out.mono HB1.out.size)) HG3.out HR3.out rfl hsn)
                  obtain ⟨-, -, -, s3, -, s5⟩ := HI5.out.2.2.1.c6
                  refine hK.out _ _ (by first | exact ⟨x3, x5⟩ | exact ⟨z3, z5⟩ | exact ⟨k3, k5⟩ | exact ⟨m3, m5⟩ | exact ⟨s3, s5⟩) (fun hHeld => ?_)
                  clear hK K
                  try simp only [Act.put, List.setIfInBounds_toArray, List.set_cons_zero, List.set_cons_succ]
                  refine wpAnyH_done (by kernel_rfl) ?_ _
                  refine NoPanic.normal ?_
                  try go_wp2_with fail
                  go_meet
                  exact hide ⟨HI5.out, RowT.nil _ _ _, RIV.begin _ _, by simp, by omega, fun e => by cases e⟩
                · skip
                  refine app_b (.const (.slice none 0 0)) (.tmp 143) rfl rfl a n c f.x rfl HL.out.2.2 HL.out.1 (HRW.out.drew) (by have := HN4.out; omega) ?_
                  intro a5 c5 w2 ho1 hb1
                  have HO1 := hide ho1
                  have HB1 := hide (below_undrew1 hb1)
                  have z3 := keep_cell x3 HB1.out
                  have z5 := keep_cell x5 HB1.out
                  have z8 := keep_cell c8' HB1.out
                  clear ho1 hb1
                  refine hK.out _ _ (by first | exact ⟨x3, x5⟩ | exact ⟨z3, z5⟩ | exact ⟨k3, k5⟩ | exact ⟨m3, m5⟩ | exact ⟨s3, s5⟩) (fun hHeld => ?_)
                  clear hK K
                  try simp only [Act.put, List.setIfInBounds_toArray, List.set_cons_zero, List.set_cons_succ]
                  refine takeD (i := 10) (d := some 145) (v := ?_) rfl rfl (by kernel_rfl) (by kernel_rfl) (by kernel_rfl) (fun _ _ _ h => h) (Or.inl ⟨by rfl, ?_⟩) (by assumption) ?_
                  rotate_left
                  · intro w hSw
                    go_simp
                    try (with_reducible rfl)
                  try simp only [Act.put, List.setIfInBounds_toArray, List.set_cons_zero, List.set_cons_succ]
                  refine wpAnyH_ready (rs := [4, 11]) (by kernel_rfl) (by simp) ?_
                  refine AllReadyH.cons rfl (fun K hK => ?_) (AllReadyH.cons rfl (fun K hK => ?_) AllReadyH.nil)
                  · skip
                    go_simp
                    go_wp2_with fail
                    refine hK.out _ _ (by first | exact ⟨x3, x5⟩ | exact ⟨z3, z5⟩ | exact ⟨k3, k5⟩ | exact ⟨m3, m5⟩ | exact ⟨s3, s5⟩) (fun hHeld => ?_)
                    clear hK K
                    try simp only [Act.put, List.setIfInBounds_toArray, List.set_cons_zero, List.set_cons_succ]
                    refine wpAnyH_ready (rs := [11]) (by kernel_rfl) (by simp) ?_
                    refine AllReadyH.cons rfl (fun K hK => ?_) AllReadyH.nil
                    go_simp
                    go_wp2_with fail
                    have HX1 := hide (below_new w2 (.cells #[.int .i64 f.sq, .slice a5 n c5] 92))
                    have k3 := keep_cell z3 HX1.out
                    have k5 := keep_cell z5 HX1.out
                    have k8 := keep_cell z8 HX1.out
                    refine hK.out _ _ (by first | exact ⟨x3, x5⟩ | exact ⟨z3, z5⟩ | exact ⟨k3, k5⟩ | exact ⟨m3, m5⟩ | exact ⟨s3, s5⟩) (fun hHeld => ?_)
                    clear hK K
                    try simp only [Act.put, List.setIfInBounds_toArray, List.set_cons_zero, List.set_cons_succ]
                    refine wpAnyH_ready (rs := [12]) (by kernel_rfl) (by simp) ?_
                    refine AllReadyH.cons rfl (fun K hK => ?_) AllReadyH.nil
                    refine app_kr (.tmp 139) (.tmp 146) rfl (EE (Ex E V wr) g wr.heap.size) 0 kb r.kp.length kd lk rfl (HKR.out _ (HB1.out.trans (HX1.out.mono HB1.out.size))) (by omega) (Nat.zero_le _) (HKE.out _ (Nat.le_trans HB1.out.size HX1.out.size)) w2.heap.size ⟨f.sq, ⟨a5, n, c5, f.x⟩⟩ rfl (reads_row w2 _ 92) (HKT.out a5 n c5 f.x w2 _ HL.out.1 HN4.out HL.out.2.1 HO1.out HB1.out HX1.out) ?_
                    intro a6 c6 w3 hr3 hg3
                    have HR3 := hide hr3
                    have HG3 := hide hg3
                    have HC3 := hide (HKC.out _ w3 (HB1.out.trans (HX1.out.mono HB1.out.size)) hg3)
                    obtain ⟨-, -, -, m3, -, m5⟩ := HC3.out.1.c6
                    have g8 := HC3.out.2.1
                    have h8 := HC3.out.2.2
                    clear hr3 hg3
                    refine hK.out _ _ (by first | exact ⟨x3, x5⟩ | exact ⟨z3, z5⟩ | exact ⟨k3, k5⟩ | exact ⟨m3, m5⟩ | exact ⟨s3, s5⟩) (fun hHeld => ?_)
                    clear hK K
                    try simp only [Act.put, List.setIfInBounds_toArray, List.set_cons_zero, List.set_cons_succ]
                    refine takeD (i := 13) (d := some 148) (v := ?_) rfl rfl (by kernel_rfl) (by kernel_rfl) (by kernel_rfl) (fun _ _ _ h => h) (Or.inl ⟨by rfl, ?_⟩) (by assumption) ?_
                    rotate_left
                    · intro w hSw
                      go_simp
                      try (with_reducible rfl)
                    try simp only [Act.put, List.setIfInBounds_toArray, List.set_cons_zero, List.set_cons_succ]
                    refine takeD (i := 14) (d := some 149) (v := ?_) rfl rfl (by kernel_rfl) (by kernel_rfl) (by kernel_rfl) (fun _ _ _ h => h) (Or.inl ⟨by rfl, ?_⟩) (by assumption) ?_
                    rotate_left
                    · intro w hSw
                      go_simp
                      try (with_reducible rfl)
                    try simp only [Act.put, List.setIfInBounds_toArray, List.set_cons_zero, List.set_cons_succ]
                    refine wpAnyH_ready (rs := [15]) (by kernel_rfl) (by simp) ?_
                    refine AllReadyH.cons rfl (fun K hK => ?_) AllReadyH.nil
                    go_simp
                    go_wp2_with fail
                    have HI5 := hide (HKF.out _ w3 a6 c6 ⟨f.sq, ⟨a5, n, c5, f.x⟩⟩ f.sq f.x (HB1.out.trans (HX1.out.mono HB1.out.size)) HG3.out HR3.out rfl hsn)
                    obtain ⟨-, -, -, s3, -, s5⟩ := HI5.out.2.2.1.c6
                    refine hK.out _ _ (by first | exact ⟨x3, x5⟩ | exact ⟨z3, z5⟩ | exact ⟨k3, k5⟩ | exact ⟨m3, m5⟩ | exact ⟨s3, s5⟩) (fun hHeld => ?_)
                    clear hK K
                    try simp only [Act.put, List.setIfInBounds_toArray, List.set_cons_zero, List.set_cons_succ]
                    refine wpAnyH_done (by kernel_rfl) ?_ _
                    refine NoPanic.normal ?_
                    try go_wp2_with fail
                    go_meet
                    exact hide ⟨HI5.out, RowT.nil _ _ _, RIV.begin _ _, by simp, by omega, fun e => by cases e⟩
                  · skip
                    go_simp
                    go_wp2_with fail
                    have HX1 := hide (below_new w2 (.cells #[.int .i64 f.sq, .slice a5 n c5] 92))
                    have k3 := keep_cell z3 HX1.out
                    have k5 := keep_cell z5 HX1.out
                    have k8 := keep_cell z8 HX1.out
                    refine hK.out _ _ (by first | exact ⟨x3, x5⟩ | exact ⟨z3, z5⟩ | exact ⟨k3, k5⟩ | exact ⟨m3, m5⟩ | exact ⟨s3, s5⟩) (fun hHeld => ?_)
                    clear hK K
                    try simp only [Act.put, List.setIfInBounds_toArray, List.set_cons_zero, List.set_cons_succ]
                    refine wpAnyH_ready (rs := [4]) (by kernel_rfl) (by simp) ?_
                    refine AllReadyH.cons rfl (fun K hK => ?_) AllReadyH.nil
                    go_simp
                    go_wp2_with fail
                    refine hK.out _ _ (by first | exact ⟨x3, x5⟩ | exact ⟨z3, z5⟩ | exact ⟨k3, k5⟩ | exact ⟨m3, m5⟩ | exact ⟨s3, s5⟩) (fun hHeld => ?_)
                    clear hK K
                    try simp only [Act.put, List.setIfInBounds_toArray, List.set_cons_zero, List.set_cons_succ]
                    refine wpAnyH_ready (rs := [12]) (by kernel_rfl) (by simp) ?_
                    refine AllReadyH.cons rfl (fun K hK => ?_) AllReadyH.nil
                    refine app_kr (.tmp 139) (.tmp 146) rfl (EE (Ex E V wr) g wr.heap.size) 0 kb r.kp.length kd lk rfl (HKR.out _ (HB1.out.trans (HX1.out.mono HB1.out.size))) (by omega) (Nat.zero_le _) (HKE.out _ (Nat.le_trans HB1.out.size HX1.out.size)) w2.heap.size ⟨f.sq, ⟨a5, n, c5, f.x⟩⟩ rfl (reads_row w2 _ 92) (HKT.out a5 n c5 f.x w2 _ HL.out.1 HN4.out HL.out.2.1 HO1.out HB1.out HX1.out) ?_
                    intro a6 c6 w3 hr3 hg3
                    have HR3 := hide hr3
                    have HG3 := hide hg3
                    have HC3 := hide (HKC.out _ w3 (HB1.out.trans (HX1.out.mono HB1.out.size)) hg3)
                    obtain ⟨-, -, -, m3, -, m5⟩ := HC3.out.1.c6
                    have g8 := HC3.out.2.1
                    have h8 := HC3.out.2.2
                    clear hr3 hg3
                    refine hK.out _ _ (by first | exact ⟨x3, x5⟩ | exact ⟨z3, z5⟩ | exact ⟨k3, k5⟩ | exact ⟨m3, m5⟩ | exact ⟨s3, s5⟩) (fun hHeld => ?_)
                    clear hK K
                    try simp only [Act.put, List.setIfInBounds_toArray, List.set_cons_zero, List.set_cons_succ]
                    refine takeD (i := 13) (d := some 148) (v := ?_) rfl rfl (by kernel_rfl) (by kernel_rfl) (by kernel_rfl) (fun _ _ _ h => h) (Or.inl ⟨by rfl, ?_⟩) (by assumption) ?_
                    rotate_left
                    · intro w hSw
                      go_simp
                      try (with_reducible rfl)
                    try simp only [Act.put, List.setIfInBounds_toArray, List.set_cons_zero, List.set_cons_succ]
                    refine takeD (i := 14) (d := some 149) (v := ?_) rfl rfl (by kernel_rfl) (by kernel_rfl) (by kernel_rfl) (fun _ _ _ h => h) (Or.inl ⟨by rfl, ?_⟩) (by assumption) ?_
                    rotate_left
                    · intro w hSw
                      go_simp
                      try (with_reducible rfl)
                    try simp only [Act.put, List.setIfInBounds_toArray, List.set_cons_zero, List.set_cons_succ]
                    refine wpAnyH_ready (rs := [15]) (by kernel_rfl) (by simp) ?_
                    refine AllReadyH.cons rfl (fun K hK => ?_) AllReadyH.nil
                    go_simp
                    go_wp2_with fail
                    have HI5 := hide (HKF.out _ w3 a6 c6 ⟨f.sq, ⟨a5, n, c5, f.x⟩⟩ f.sq f.x (HB1.out.trans (HX1.out.mono HB1.out.size)) HG3.out HR3.out rfl hsn)
                    obtain ⟨-, -, -, s3, -, s5⟩ := HI5.out.2.2.1.c6
                    refine hK.out _ _ (by first | exact ⟨x3, x5⟩ | exact ⟨z3, z5⟩ | exact ⟨k3, k5⟩ | exact ⟨m3, m5⟩ | exact ⟨s3, s5⟩) (fun hHeld => ?_)
                    clear hK K
                    try simp only [Act.put, List.setIfInBounds_toArray, List.set_cons_zero, List.set_cons_succ]
                    refine wpAnyH_done (by kernel_rfl) ?_ _
                    refine NoPanic.normal ?_
                    try go_wp2_with fail
                    go_meet
                    exact hide ⟨HI5.out, RowT.nil _ _ _, RIV.begin _ _, by simp, by omega, fun e => by cases e⟩
              case rest =>
                have HR0 := hcut
                have HFIN := hide (fun wr a9 n9 c9 l cn lt (h : R3 E V wr g k r f w.heap.size [.int .i64 f.fr, .int .i64 f.tt, .int .i64 f.lf, .int .i64 f.sq, .int .i64 f.ak, .slice a n c] a9 n9 c9 false l cn lt) => r3_fin h HVB.out HF.out h0 HRN.out)
                clear HKF HKC HKT HKE HKR x0 x1 x2 x3 x4 x5 c8' f8 HRW
                generalize RInQ E w g k r f = Z at *
                go_wp2_with fail
                go_loopw [9, 10] (fun o b wr => ∃ (a9 : Option Addr) (n9 c9 : Nat) (bb : Bool) (l : List (Nat × List Nat)) (cn : Nat) (lt : List Txt), o = .slice a9 n9 c9 ∧ b = .bool bb ∧ Hid (R3 E V wr g k r f w.heap.size [.int .i64 f.fr, .int .i64 f.tt, .int .i64 f.lf, .int .i64 f.sq, .int .i64 f.ak, .slice a n c] a9 n9 c9 bb l cn lt)) (fun o b _ => 2 * (r.kp.length + 1 - slLen o) + blN b)
                case atStart => exact ⟨none, 0, 0, true, _, _, [], rfl, rfl, HR0⟩
                case round =>
                  obtain ⟨a9, n9, c9, bb, l, cn, lt, rfl, rfl, HS⟩ := hrel
                  have hN := HS.out.2.2.2.1
                  have hC := HS.out.2.2.2.2.1
                  have hk6 : r.kp.length ≤ 1000 := HK6.out.1
                  have ha6 : r.all ≤ 1000000 := HK6.out.2.1
                  cases bb with
                  | false =>
                    go_wp2_with fail
                    exact HFIN.out _ _ _ _ _ _ _ HS.out
                  | true =>
                    go_wp2_with fail
                    go_loopw [9, 10, 11] (fun o b i wr2 => ∃ q : Nat, q ≤ l.length ∧ o = .slice a9 n9 c9 ∧ b = .bool false ∧ i = .int .i64 (q : Nat) ∧ Hid (R3 E V wr2 g k r f w.heap.size [.int .i64 f.fr, .int .i64 f.tt, .int .i64 f.lf, .int .i64 f.sq, .int .i64 f.ak, .slice a n c] a9 n9 c9 true l cn lt ∧ ∀ j (hj : j < l.length), j < q → l[j].1 ≠ cn + 1)) (fun _ _ i _ => l.length - (intOf i).toNat)
                    case atStart => exact ⟨0, Nat.zero_le _, rfl, rfl, rfl, hide ⟨HS.out, fun j _ h => by omega⟩⟩
                    case round =>
                      obtain ⟨q, hq, rfl, rfl, rfl, HS2⟩ := hrel
                      by_cases hlt : q < l.length
                      · have hki : (q : Int) < (l.length : Int) := by omega
                        obtain ⟨b, kc, c8, t, ht, hTx, d0, d1⟩ := HS2.out.1.1.1.kept (i := q) hlt
                        obtain ⟨-, -, -, c6, -, -, -⟩ := HS2.out.1.1.1.cells
                        have c8' : wr.cell? ⟨g, 8, none⟩ = some (.slice (some ⟨b, 0, none⟩) l.length kc) := c8
                        have d0' : wr.cell? ⟨b, q * 2, none⟩ = some (.int .i64 (l[q].1 : Nat)) := d0
                        have c6' : wr.cell? ⟨g, 6, none⟩ = some (.int .i64 (cn : Nat)) := c6
                        have hwc : IntKind.i64.wrap ((cn : Int) + 1) = (cn : Int) + 1 := by rw [IntKind.wrap_i64]; omega
                        clear c8 d0 c6
                        by_cases he : l[q].1 = cn + 1
                        · obtain ⟨hRI, hRT, hRV, -, -, -⟩ := HS2.out.1
                          have he' : (((l[q].1 : Nat) : Int) == (cn : Int) + 1) = true := by simp; omega
                          have d1' : wr.cell? ⟨b, q * 2 + 1, none⟩ = some (.slice t.a t.len t.cap) := d1
                          have HTX := hide (show TxO (fun j => j ≠ g) wr t from hTx.mono (fun j h => h.2))
                          have HBS := hide ht
                          have HST := hide (hRV.step hlt he (fun j hj h => HS2.out.2 j hj h))
                          have HRI := hide hRI
                          have HRT := hide hRT
                          clear hRI hRT hRV HS2 ht hTx d1
                          have HCC := hide hC
                          clear hC
                          generalize hp : l[q].1 = p at *
                          go_upto_region 28 with fail
                          go_big_quiet (fail)
                          have HRI4 := hide (ri2_drewN HRI.out nq)
                          have HRT4 := hide (show RowT (fun j => j ≠ g) V.heap.size (wr.drewN nq) a9 n9 c9 lt from HRT.out)
                          have HTX4 := hide (show TxO (fun j => j ≠ g) (wr.drewN nq) t from HTX.out)
                          have e8 : (wr.drewN nq).cell? ⟨g, 8, none⟩ = some (.slice (some ⟨b, 0, none⟩) l.length kc) := c8'
                          have e6 : (wr.drewN nq).cell? ⟨g, 6, none⟩ = some (.int .i64 (cn : Nat)) := c6'
                          have e1 : (wr.drewN nq).cell? ⟨b, q * 2 + 1, none⟩ = some (.slice t.a t.len t.cap) := d1'
                          clear HRI HRT HTX c8' d0' c6' d1'
                          generalize wr.drewN nq = W at *
                          go_upto_region 31 with (at_builtin; go_must (refine append_t rfl (.tmp 174) (.tmp 183) rfl (fun j => j ≠ g) V.heap.size a9 n9 c9 lt rfl (HRT4.out.keep (fun j _ hj => (below_new W (.cells #[.slice t.a t.len t.cap] 32)).block j hj) (fun z hz ad e => (below_new W (.cells #[.slice t.a t.len t.cap] 32)).block _ ((HRT4.out.2.2 z hz).lt ad e))) (by omega) (by have := HRI4.out.2.1.size; simp; omega) W.heap.size t rfl (reads_row W [.slice t.a t.len t.cap] 32) (HTX4.out.keep (fun ad e => (below_new W (.cells #[.slice t.a t.len t.cap] 32)).block _ (HTX4.out.lt ad e))) ?_; intro a7 c7 w7 hr7 hg7 hpos7; have HRI7 := hide (ri2_grown (ri2_below HRI4.out (below_new W (.cells #[.slice t.a t.len t.cap] 32))) HEL.out HVL.out (HRT4.out.2.1.alloc _) hg7); have HRT7 := hide hr7; obtain ⟨-, -, -, c67, -, -, -⟩ := HRI7.out.1.cells; have f67 : w7.frozen? ⟨g, 6, none⟩ = false := (by obtain ⟨⟨_, _, _, _, _, _, _, _, hbx, _⟩, _⟩ := HRI7.out; exact (hbx.2 6 (by simp [lkCs])).2); clear hr7 hg7 hpos7))
                          have hcn : (cn : Int) + 1 = ((cn + 1 : Nat) : Int) := by push_cast; rfl
                          have HRI8 := hide (ri2_all HRI7.out (cn + 1))
                          rw [← hcn] at HRI8
                          clear hcn
                          have hgV : g < V.heap.size := by have := HEL.out g HRI7.out.2.2.2.1; have := HVL.out; omega
                          have HRT8 := hide (show RowT (fun j => j ≠ g) V.heap.size (w7.setCell ⟨g, 6, none⟩ (.int .i64 ((cn : Int) + 1))) a7 (n9 + 1) c7 (lt ++ [t]) from HRT7.out.keep (fun j hj _ => Below.heap_setCell _ _ _ _ (by show j ≠ g; omega)) (fun z hz ad e => Below.heap_setCell _ _ _ _ (by exact (HRT7.out.2.2 z hz).2.2 ad e)))
                          generalize w7.setCell ⟨g, 6, none⟩ (.int .i64 ((cn : Int) + 1)) = W8 at *
                          have hR8 := HRI8.out
                          obtain ⟨bb, kk, lk, hlk, c88, f88, hrd, hle, hmx, hfin⟩ := rsp_mid hR8 (i := q) hlt
                          have hle' : l.length ≤ kk := hle
                          have hlk' : lk.length = l.length := hlk
                          have HLK := hide hlk'
                          have c8n : W8.cell? ⟨g, 8, none⟩ = some (.slice (some ⟨bb, 0, none⟩) l.length kk) := c88
                          obtain ⟨a31, k31, ks, hne, hrk⟩ := slice_fromK (b := bb) (n := l.length) (kc := kk) (k := q + 1) (by omega) hle'
                          obtain ⟨k32, ks2⟩ := slice_toK (b := bb) (n := l.length) (kc := kk) (k := q) (by omega) hle'
                          rw [show ((q + 1 : Nat) : Int) = (q : Int) + 1 by push_cast; rfl] at ks
                          have hwq : IntKind.i64.wrap ((q : Int) + 1) = (q : Int) + 1 := by rw [IntKind.wrap_i64]; omega
                          have HRD := hide hrd
                          have HF8 := hide hfin
                          have hlb : l.length ≤ 2000 := by omega
                          have HD1 := hide (show (lk.drop (q + 1)).length = l.length - (q + 1) from by simp [hlk'])
                          have HD2 := hide (show (lk.take q).length = q from by simp [hlk']; omega)
                          have HRK := hide (hrk _ _ HD1.out (hrd _ (Below.refl _ _)).1)
                          have HNE := hide hne
                          clear hrd hfin hR8 c88 hle hmx e8 e6 e1 hlk hlk' hrk hne
                          obtain ⟨m31, hm31⟩ : ∃ m, m = l.length - (q + 1) := ⟨_, rfl⟩
                          have HM31 := hide hm31
                          rw [← hm31] at ks HD1
                          have hm31b : m31 ≤ 2000 := by omega
                          clear hm31
                          go_upto_region 33 with (first
                            | (at_builtin; (refine app_kcL rfl (.const (.slice none 0 0)) (.tmp 198) rfl rfl a31 m31 k31 (lk.drop (q + 1)) rfl (fun e => absurd e HNE.out) HD1.out HRK.out (by omega) ?_; intro a33 c33 w9 ho9 hb9; have c89 := keep_cell c8n hb9; have HO9 := hide ho9; have HB9 := hide hb9; clear ho9 hb9))
                            | (at_builtin; (refine app_kdL rfl (.tmp 207) (.tmp 208) rfl W8.heap.size a34 q c34 (lk.take q) rfl HO10.out (by have := HB10.out.size; omega) (by omega) a33 m31 c33 (lk.drop (q + 1)) rfl HRR.out.2 HD1.out HRR.out.1 (by omega) ?_; intro a35 c35 w11 ho11 hg11; have HB11 := hide ((HB9.out.trans (HB10.out.mono hs9)).grown hg11 (by have := HB10.out.size; omega) (fun b e => (HO10.out.lt b e).1)); have c811 := keep_cell c8n HB11.out; have f811 : w11.frozen? ⟨g, 8, none⟩ = false := (by rw [World.frozen?_of_block (w := W8) (a := ⟨g, 8, none⟩) (HB11.out.block g (cell_some_lt c8n))]; exact f88); have HO11 := hide ho11; clear ho11 hg11))
                            | (at_builtin; go_must (refine app_kcL rfl (.const (.slice none 0 0)) (.tmp 206) rfl rfl (some ⟨bb, 0, none⟩) q k32 (lk.take q) rfl (fun e => by cases e) HD2.out (HRD.out _ HB9.out).2 (by omega) ?_; intro a34 c34 w10 ho10 hb10; have hs9 := HB9.out.size; have HO10 := hide (own_base ho10 hs9); have HB10 := hide hb10; have hrr := reads_ownV (own_keep HO9.out (fun ad e => hb10.block _ (own_lt HO9.out ad e).2)); have HRR := hide hrr; clear ho10 hb10 hrr)))
                          have HRIN := hide (HF8.out w11 a35 (q + m31) c35 HB11.out HO11.out (by have := HM31.out; show q + m31 + 1 = l.length; omega))
                          have HRTN := hide (show RowT (fun j => j ≠ g) V.heap.size (w11.setCell ⟨g, 8, none⟩ (.slice a35 (q + m31) c35)) a7 (n9 + 1) c7 (lt ++ [t]) from by
                            have h1 : RowT (fun j => j ≠ g) V.heap.size w11 a7 (n9 + 1) c7 (lt ++ [t]) := HRT8.out.keep (fun j _ hj => HB11.out.block j hj) (fun z hz ad e => HB11.out.block _ ((HRT8.out.2.2 z hz).lt ad e))
                            exact h1.keep (fun j hj _ => Below.heap_setCell _ _ _ _ (by show j ≠ g; omega)) (fun z hz ad e => Below.heap_setCell _ _ _ _ (by exact (h1.2.2 z hz).2.2 ad e)))
                          have HNEW := hide (show R3 E V (w11.setCell ⟨g, 8, none⟩ (.slice a35 (q + m31) c35)) g k r f w.heap.size [.int .i64 f.fr, .int .i64 f.tt, .int .i64 f.lf, .int .i64 f.sq, .int .i64 f.ak, .slice a n c] a7 (n9 + 1) c7 true (l.eraseIdx q) (cn + 1) (lt ++ [t]) from
                            ⟨HRIN.out, HRTN.out, by rw [List.map_append, List.map_cons, List.map_nil, HBS.out]; exact HST.out, by rw [List.length_eraseIdx_of_lt hlt]; omega, by rw [HCC.out]; omega, fun e => by cases e⟩)
                          clear HRIN HRTN
                          go_wp2_with fail
                          go_roundw
                          case rel => exact ⟨a7, n9 + 1, c7, true, l.eraseIdx q, cn + 1, lt ++ [t], rfl, rfl, HNEW⟩
                          case measure => simp [blN, slLen]; omega
                        · have HSM := hide (fun x => show R3 E V (wr.drewN x) g k r f w.heap.size [.int .i64 f.fr, .int .i64 f.tt, .int .i64 f.lf, .int .i64 f.sq, .int .i64 f.ak, .slice a n c] a9 n9 c9 true l cn lt ∧ ∀ j (hj : j < l.length), j < q + 1 → l[j].1 ≠ cn + 1 from ⟨HS2.out.1.drewN x, fun j hj h => by
                            by_cases e : j = q
                            · subst e; exact he
                            · exact HS2.out.2 j hj (by omega)⟩)
                          clear ht hTx d1 HS2
                          generalize l[q].1 = p at *
                          have he' : ((p : Int) == (cn : Int) + 1) = false := by simp; omega
                          go_upto_region 28 with fail
                          go_big_quiet (fail)
                          go_wp2_with fail
                          go_roundw
                          case rel => exact ⟨q + 1, by omega, rfl, rfl, by go_num, hide (HSM.out _)⟩
                          case measure => simp [intOf]; omega
                      · obtain rfl : q = l.length := by omega
                        obtain ⟨ka, kc, c8, f8⟩ := HS2.out.1.1.1.keptN
                        have c8' : wr.cell? ⟨g, 8, none⟩ = some (.slice ka l.length kc) := c8
                        have HNX := hide (show R3 E V wr g k r f w.heap.size [.int .i64 f.fr, .int .i64 f.tt, .int .i64 f.lf, .int .i64 f.sq, .int .i64 f.ak, .slice a n c] a9 n9 c9 false l cn lt from ⟨HS2.out.1.1, HS2.out.1.2.1, HS2.out.1.2.2.1, HS2.out.1.2.2.2.1, HS2.out.1.2.2.2.2.1, fun _ => spotK_no fun j hj => HS2.out.2 j hj hj⟩)
                        clear c8 HS2
                        go_wp2_with fail
                        go_roundw
                        case rel => exact ⟨a9, n9, c9, false, l, cn, lt, rfl, rfl, HNX⟩
                        case measure => simp [blN, slLen]
end Go.Proofs.Ytofigofaiadffaa
