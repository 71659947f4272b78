/- Which notes may be: the program's. -/
import Derived.Test.YtgkpioleipefmaaNoV
namespace Go.Proofs.Ytgkpioleipefmaa
open Go.RowKit Go.ChangeShapes Go.WideShapes Go.ChangeAt Go.Deep

theorem okId_valid (l : List UInt8) : okId (uN l) = validL l := by
  unfold okId validL uN
  simp only [List.length_map, List.all_map]
  rfl
theorem mayN_tests (n : No) : mayN n = (isKind n.kind && (okN 15 n.node && ((okN 2147483647 n.life && okN 2147483647 n.epoch) && (okId n.id && (okN 31 n.func && (okN 8 n.args.length && (okRes n.err n.val && okView n.vep n.mem))))))) := by
  unfold mayN okNum
  rw [show okN 8 (n.args.length : Int) = decide (n.args.length ≤ 8) by unfold okN; by_cases h : n.args.length ≤ 8 <;> simp [h] <;> omega]
  simp only [Bool.and_assoc]

set_option maxRecDepth 100000 in
set_option maxHeartbeats 8000000 in
theorem may_go (kind node life epoch : Int) (s : ByteArray) (func : Int) (aa : Option Addr) (al ac : Nat) (err val vep : Int) (ma : Option Addr) (ml mc : Nat) (mem : List (Int × Int)) (b1 b2 b3 b4 b5 b6 b7 b8 R : Bool) (w : World)
    (hs : s.size ≤ 20000) (hml : mem.length = ml) (hmn : ml ≤ 20000) (hr : Reads w ma (mV mem))
    (e1 : isKind kind = b1) (e2 : okN 15 node = b2) (e3 : (okN 2147483647 life && okN 2147483647 epoch) = b3) (e4 : validL s.data.toList = b4) (e5 : okN 31 func = b5) (e6 : okN 8 (al : Int) = b6) (e7 : okRes err val = b7) (e8 : okView vep mem = b8)
    (hR : R = (b1 && (b2 && (b3 && (b4 && (b5 && (b6 && (b7 && b8)))))))) :
    Calls Try.prog 20 #[.agg #[.int .i64 kind, .int .i64 node, .int .i64 life, .int .i64 epoch, .string s, .int .i64 func, .slice aa al ac, .int .i64 err, .int .i64 val, .int .i64 vep, .slice ma ml mc]] w fun e w' => e = .returned (.bool R) ∧ Below w.heap.size w w' := by
  have CP := hide (fun W => parts_any kind W)
  have C2 := hide (fun W g hg => within1 15 node W g hg)
  have C3 := hide (fun W g hg => within2 2147483647 life epoch W g hg)
  have C4 := hide (fun W => valid_any s (by unfold maxLen; omega) W)
  have C5 := hide (fun W g hg => within1 31 func W g hg)
  have C6 := hide (fun W g hg => within1 8 (al : Int) W g hg)
  have C7 := hide (fun W => mayRes_any err val W)
  have C8 := hide (fun W (hb : Below w.heap.size w W) => mayView_any vep mem ma ml mc W hml hmn (hr.below hb))
  rw [e2] at C2
  rw [e3] at C3
  rw [e4] at C4
  rw [e5] at C5
  rw [e6] at C6
  rw [e7] at C7
  rw [e8] at C8
  have HPL := hide (show ((partsL kind).length = 0 ↔ b1 = false) by rw [← e1]; exact (parts_len kind).2)
  have HM := hide hR
  have HX0 := hide (BoxL.new w [.int .i64 kind, .int .i64 node, .int .i64 life, .int .i64 epoch, .string s, .int .i64 func, .slice aa al ac, .int .i64 err, .int .i64 val, .int .i64 vep, .slice ma ml mc] 31)
  have HB0 := hide (below_new w (.cells #[.int .i64 kind, .int .i64 node, .int .i64 life, .int .i64 epoch, .string s, .int .i64 func, .slice aa al ac, .int .i64 err, .int .i64 val, .int .i64 vep, .slice ma ml mc] 31))
  obtain ⟨V, hV⟩ : ∃ V, V = w.alloc (.cells #[.int .i64 kind, .int .i64 node, .int .i64 life, .int .i64 epoch, .string s, .int .i64 func, .slice aa al ac, .int .i64 err, .int .i64 val, .int .i64 vep, .slice ma ml mc] 31) := ⟨_, rfl⟩
  rw [← hV] at HB0
  rw [show w.alloc (.cells [Value.int .i64 kind, .int .i64 node, .int .i64 life, .int .i64 epoch, .string s, .int .i64 func, .slice aa al ac, .int .i64 err, .int .i64 val, .int .i64 vep, .slice ma ml mc].toArray 31) = V from hV.symm] at HX0
  have HE := hide hV
  clear hV e1 e2 e3 e4 e5 e6 e7 e8 hR hs hml hmn hr
  cases b1 with
  | false =>
    go_enter Try.func20, Try.ntmps20
    go_wp2_with (first | (go_at_call 23; go_must (rw [← HE.out]; (with_reducible refine (CP.out V).mono ?_); rintro e w1 ⟨v1, rfl, hrow1, hb1⟩; obtain ⟨a1, l1, c1, rfl, hl1, -⟩ := hrow1; have HX1 := hide (HX0.out.below hb1); have HB1 := hide (HB0.out.trans (hb1.mono HB0.out.size)); obtain ⟨-, k1, -⟩ := HX1.out.c11; have hp1 := (show ¬ 0 < l1 from by have := HPL.out.2 rfl; have h := hl1.out; omega))))
    go_ret
    exact ⟨by rw [HM.out]; rfl, HB1.out⟩
  | true =>
    cases b2 with
    | false =>
      go_enter Try.func20, Try.ntmps20
      go_wp2_with (first | (go_at_call 23; go_must (rw [← HE.out]; (with_reducible refine (CP.out V).mono ?_); rintro e w1 ⟨v1, rfl, hrow1, hb1⟩; obtain ⟨a1, l1, c1, rfl, hl1, -⟩ := hrow1; have HX1 := hide (HX0.out.below hb1); have HB1 := hide (HB0.out.trans (hb1.mono HB0.out.size)); obtain ⟨-, k1, -⟩ := HX1.out.c11; have hp1 := (show 0 < l1 from Nat.pos_of_ne_zero (fun h0 => by have := HPL.out.1 (hl1.out.trans h0); cases this)))) | (go_at_call 34; first | ((with_reducible refine (C2.out w1 _ rfl).mono ?_); rintro e w2 ⟨rfl, hb2⟩; have HX2 := hide (HX1.out.below hb2); have HB2 := hide (HB1.out.trans (hb2.mono HB1.out.size)); obtain ⟨-, -, j2, j3, -⟩ := HX2.out.c11)))
      go_ret
      exact ⟨by rw [HM.out]; rfl, HB2.out⟩
    | true =>
      cases b3 with
      | false =>
        go_enter Try.func20, Try.ntmps20
        go_wp2_with (first | (go_at_call 23; go_must (rw [← HE.out]; (with_reducible refine (CP.out V).mono ?_); rintro e w1 ⟨v1, rfl, hrow1, hb1⟩; obtain ⟨a1, l1, c1, rfl, hl1, -⟩ := hrow1; have HX1 := hide (HX0.out.below hb1); have HB1 := hide (HB0.out.trans (hb1.mono HB0.out.size)); obtain ⟨-, k1, -⟩ := HX1.out.c11; have hp1 := (show 0 < l1 from Nat.pos_of_ne_zero (fun h0 => by have := HPL.out.1 (hl1.out.trans h0); cases this)))) | (go_at_call 34; first | ((with_reducible refine (C2.out w1 _ rfl).mono ?_); rintro e w2 ⟨rfl, hb2⟩; have HX2 := hide (HX1.out.below hb2); have HB2 := hide (HB1.out.trans (hb2.mono HB1.out.size)); obtain ⟨-, -, j2, j3, -⟩ := HX2.out.c11) | ((with_reducible refine (C3.out w2 _ rfl).mono ?_); rintro e w3 ⟨rfl, hb3⟩; have HX3 := hide (HX2.out.below hb3); have HB3 := hide (HB2.out.trans (hb3.mono HB2.out.size)); obtain ⟨-, -, -, -, i4, i5, -⟩ := HX3.out.c11)))
        go_ret
        exact ⟨by rw [HM.out]; rfl, HB3.out⟩
      | true =>
        cases b4 with
        | false =>
          go_enter Try.func20, Try.ntmps20
          go_wp2_with (first | (go_at_call 23; go_must (rw [← HE.out]; (with_reducible refine (CP.out V).mono ?_); rintro e w1 ⟨v1, rfl, hrow1, hb1⟩; obtain ⟨a1, l1, c1, rfl, hl1, -⟩ := hrow1; have HX1 := hide (HX0.out.below hb1); have HB1 := hide (HB0.out.trans (hb1.mono HB0.out.size)); obtain ⟨-, k1, -⟩ := HX1.out.c11; have hp1 := (show 0 < l1 from Nat.pos_of_ne_zero (fun h0 => by have := HPL.out.1 (hl1.out.trans h0); cases this)))) | (go_at_call 34; first | ((with_reducible refine (C2.out w1 _ rfl).mono ?_); rintro e w2 ⟨rfl, hb2⟩; have HX2 := hide (HX1.out.below hb2); have HB2 := hide (HB1.out.trans (hb2.mono HB1.out.size)); obtain ⟨-, -, j2, j3, -⟩ := HX2.out.c11) | ((with_reducible refine (C3.out w2 _ rfl).mono ?_); rintro e w3 ⟨rfl, hb3⟩; have HX3 := hide (HX2.out.below hb3); have HB3 := hide (HB2.out.trans (hb3.mono HB2.out.size)); obtain ⟨-, -, -, -, i4, i5, -⟩ := HX3.out.c11)) | (go_at_call 35; go_must ((with_reducible refine (C4.out w3).mono ?_); rintro e w4 ⟨rfl, rfl⟩)))
          go_ret
          exact ⟨by rw [HM.out]; rfl, HB3.out⟩
        | true =>
          cases b5 with
          | false =>
            go_enter Try.func20, Try.ntmps20
            go_wp2_with (first | (go_at_call 23; go_must (rw [← HE.out]; (with_reducible refine (CP.out V).mono ?_); rintro e w1 ⟨v1, rfl, hrow1, hb1⟩; obtain ⟨a1, l1, c1, rfl, hl1, -⟩ := hrow1; have HX1 := hide (HX0.out.below hb1); have HB1 := hide (HB0.out.trans (hb1.mono HB0.out.size)); obtain ⟨-, k1, -⟩ := HX1.out.c11; have hp1 := (show 0 < l1 from Nat.pos_of_ne_zero (fun h0 => by have := HPL.out.1 (hl1.out.trans h0); cases this)))) | (go_at_call 34; first | ((with_reducible refine (C2.out w1 _ rfl).mono ?_); rintro e w2 ⟨rfl, hb2⟩; have HX2 := hide (HX1.out.below hb2); have HB2 := hide (HB1.out.trans (hb2.mono HB1.out.size)); obtain ⟨-, -, j2, j3, -⟩ := HX2.out.c11) | ((with_reducible refine (C3.out w2 _ rfl).mono ?_); rintro e w3 ⟨rfl, hb3⟩; have HX3 := hide (HX2.out.below hb3); have HB3 := hide (HB2.out.trans (hb3.mono HB2.out.size)); obtain ⟨-, -, -, -, i4, i5, -⟩ := HX3.out.c11) | ((with_reducible refine (C5.out _ _ rfl).mono ?_); rintro e w5 ⟨rfl, hb5⟩; have HX5 := hide (HX3.out.below hb5); have HB5 := hide (HB3.out.trans (hb5.mono HB3.out.size)); obtain ⟨-, -, -, -, -, -, m6, -⟩ := HX5.out.c11)) | (go_at_call 35; go_must ((with_reducible refine (C4.out w3).mono ?_); rintro e w4 ⟨rfl, rfl⟩)))
            go_ret
            exact ⟨by rw [HM.out]; rfl, HB5.out⟩
          | true =>
            cases b6 with
            | false =>
              go_enter Try.func20, Try.ntmps20
              go_wp2_with (first | (go_at_call 23; go_must (rw [← HE.out]; (with_reducible refine (CP.out V).mono ?_); rintro e w1 ⟨v1, rfl, hrow1, hb1⟩; obtain ⟨a1, l1, c1, rfl, hl1, -⟩ := hrow1; have HX1 := hide (HX0.out.below hb1); have HB1 := hide (HB0.out.trans (hb1.mono HB0.out.size)); obtain ⟨-, k1, -⟩ := HX1.out.c11; have hp1 := (show 0 < l1 from Nat.pos_of_ne_zero (fun h0 => by have := HPL.out.1 (hl1.out.trans h0); cases this)))) | (go_at_call 34; first | ((with_reducible refine (C2.out w1 _ rfl).mono ?_); rintro e w2 ⟨rfl, hb2⟩; have HX2 := hide (HX1.out.below hb2); have HB2 := hide (HB1.out.trans (hb2.mono HB1.out.size)); obtain ⟨-, -, j2, j3, -⟩ := HX2.out.c11) | ((with_reducible refine (C3.out w2 _ rfl).mono ?_); rintro e w3 ⟨rfl, hb3⟩; have HX3 := hide (HX2.out.below hb3); have HB3 := hide (HB2.out.trans (hb3.mono HB2.out.size)); obtain ⟨-, -, -, -, i4, i5, -⟩ := HX3.out.c11) | ((with_reducible refine (C5.out _ _ rfl).mono ?_); rintro e w5 ⟨rfl, hb5⟩; have HX5 := hide (HX3.out.below hb5); have HB5 := hide (HB3.out.trans (hb5.mono HB3.out.size)); obtain ⟨-, -, -, -, -, -, m6, -⟩ := HX5.out.c11) | ((with_reducible refine (C6.out w5 _ rfl).mono ?_); rintro e w6 ⟨rfl, hb6⟩; have HX6 := hide (HX5.out.below hb6); have HB6 := hide (HB5.out.trans (hb6.mono HB5.out.size)); obtain ⟨-, -, -, -, -, -, -, n7, n8, -⟩ := HX6.out.c11)) | (go_at_call 35; go_must ((with_reducible refine (C4.out w3).mono ?_); rintro e w4 ⟨rfl, rfl⟩)))
              go_ret
              exact ⟨by rw [HM.out]; rfl, HB6.out⟩
            | true =>
              cases b7 with
              | false =>
                go_enter Try.func20, Try.ntmps20
                go_wp2_with (first | (go_at_call 23; go_must (rw [← HE.out]; (with_reducible refine (CP.out V).mono ?_); rintro e w1 ⟨v1, rfl, hrow1, hb1⟩; obtain ⟨a1, l1, c1, rfl, hl1, -⟩ := hrow1; have HX1 := hide (HX0.out.below hb1); have HB1 := hide (HB0.out.trans (hb1.mono HB0.out.size)); obtain ⟨-, k1, -⟩ := HX1.out.c11; have hp1 := (show 0 < l1 from Nat.pos_of_ne_zero (fun h0 => by have := HPL.out.1 (hl1.out.trans h0); cases this)))) | (go_at_call 34; first | ((with_reducible refine (C2.out w1 _ rfl).mono ?_); rintro e w2 ⟨rfl, hb2⟩; have HX2 := hide (HX1.out.below hb2); have HB2 := hide (HB1.out.trans (hb2.mono HB1.out.size)); obtain ⟨-, -, j2, j3, -⟩ := HX2.out.c11) | ((with_reducible refine (C3.out w2 _ rfl).mono ?_); rintro e w3 ⟨rfl, hb3⟩; have HX3 := hide (HX2.out.below hb3); have HB3 := hide (HB2.out.trans (hb3.mono HB2.out.size)); obtain ⟨-, -, -, -, i4, i5, -⟩ := HX3.out.c11) | ((with_reducible refine (C5.out _ _ rfl).mono ?_); rintro e w5 ⟨rfl, hb5⟩; have HX5 := hide (HX3.out.below hb5); have HB5 := hide (HB3.out.trans (hb5.mono HB3.out.size)); obtain ⟨-, -, -, -, -, -, m6, -⟩ := HX5.out.c11) | ((with_reducible refine (C6.out w5 _ rfl).mono ?_); rintro e w6 ⟨rfl, hb6⟩; have HX6 := hide (HX5.out.below hb6); have HB6 := hide (HB5.out.trans (hb6.mono HB5.out.size)); obtain ⟨-, -, -, -, -, -, -, n7, n8, -⟩ := HX6.out.c11)) | (go_at_call 35; go_must ((with_reducible refine (C4.out w3).mono ?_); rintro e w4 ⟨rfl, rfl⟩)) | (go_at_call 36; go_must ((with_reducible refine (C7.out w6).mono ?_); rintro e w7 ⟨rfl, hb7⟩; have HX7 := hide (HX6.out.below hb7); have HB7 := hide (HB6.out.trans (hb7.mono HB6.out.size)); obtain ⟨-, -, -, -, -, -, -, -, -, o9, o10⟩ := HX7.out.c11)))
                go_ret
                exact ⟨by rw [HM.out]; rfl, HB7.out⟩
              | true =>
                cases b8 with
                | false =>
                  go_enter Try.func20, Try.ntmps20
                  go_wp2_with (first | (go_at_call 23; go_must (rw [← HE.out]; (with_reducible refine (CP.out V).mono ?_); rintro e w1 ⟨v1, rfl, hrow1, hb1⟩; obtain ⟨a1, l1, c1, rfl, hl1, -⟩ := hrow1; have HX1 := hide (HX0.out.below hb1); have HB1 := hide (HB0.out.trans (hb1.mono HB0.out.size)); obtain ⟨-, k1, -⟩ := HX1.out.c11; have hp1 := (show 0 < l1 from Nat.pos_of_ne_zero (fun h0 => by have := HPL.out.1 (hl1.out.trans h0); cases this)))) | (go_at_call 34; first | ((with_reducible refine (C2.out w1 _ rfl).mono ?_); rintro e w2 ⟨rfl, hb2⟩; have HX2 := hide (HX1.out.below hb2); have HB2 := hide (HB1.out.trans (hb2.mono HB1.out.size)); obtain ⟨-, -, j2, j3, -⟩ := HX2.out.c11) | ((with_reducible refine (C3.out w2 _ rfl).mono ?_); rintro e w3 ⟨rfl, hb3⟩; have HX3 := hide (HX2.out.below hb3); have HB3 := hide (HB2.out.trans (hb3.mono HB2.out.size)); obtain ⟨-, -, -, -, i4, i5, -⟩ := HX3.out.c11) | ((with_reducible refine (C5.out _ _ rfl).mono ?_); rintro e w5 ⟨rfl, hb5⟩; have HX5 := hide (HX3.out.below hb5); have HB5 := hide (HB3.out.trans (hb5.mono HB3.out.size)); obtain ⟨-, -, -, -, -, -, m6, -⟩ := HX5.out.c11) | ((with_reducible refine (C6.out w5 _ rfl).mono ?_); rintro e w6 ⟨rfl, hb6⟩; have HX6 := hide (HX5.out.below hb6); have HB6 := hide (HB5.out.trans (hb6.mono HB5.out.size)); obtain ⟨-, -, -, -, -, -, -, n7, n8, -⟩ := HX6.out.c11)) | (go_at_call 35; go_must ((with_reducible refine (C4.out w3).mono ?_); rintro e w4 ⟨rfl, rfl⟩)) | (go_at_call 36; go_must ((with_reducible refine (C7.out w6).mono ?_); rintro e w7 ⟨rfl, hb7⟩; have HX7 := hide (HX6.out.below hb7); have HB7 := hide (HB6.out.trans (hb7.mono HB6.out.size)); obtain ⟨-, -, -, -, -, -, -, -, -, o9, o10⟩ := HX7.out.c11)) | (go_at_call 37; go_must ((with_reducible refine (C8.out w7 HB7.out).mono ?_); rintro e w8 ⟨rfl, hb8⟩; have HB8 := hide (HB7.out.trans (hb8.mono HB7.out.size)))))
                  go_ret
                  exact ⟨by rw [HM.out]; rfl, HB8.out⟩
                | true =>
                  go_enter Try.func20, Try.ntmps20
                  go_wp2_with (first | (go_at_call 23; go_must (rw [← HE.out]; (with_reducible refine (CP.out V).mono ?_); rintro e w1 ⟨v1, rfl, hrow1, hb1⟩; obtain ⟨a1, l1, c1, rfl, hl1, -⟩ := hrow1; have HX1 := hide (HX0.out.below hb1); have HB1 := hide (HB0.out.trans (hb1.mono HB0.out.size)); obtain ⟨-, k1, -⟩ := HX1.out.c11; have hp1 := (show 0 < l1 from Nat.pos_of_ne_zero (fun h0 => by have := HPL.out.1 (hl1.out.trans h0); cases this)))) | (go_at_call 34; first | ((with_reducible refine (C2.out w1 _ rfl).mono ?_); rintro e w2 ⟨rfl, hb2⟩; have HX2 := hide (HX1.out.below hb2); have HB2 := hide (HB1.out.trans (hb2.mono HB1.out.size)); obtain ⟨-, -, j2, j3, -⟩ := HX2.out.c11) | ((with_reducible refine (C3.out w2 _ rfl).mono ?_); rintro e w3 ⟨rfl, hb3⟩; have HX3 := hide (HX2.out.below hb3); have HB3 := hide (HB2.out.trans (hb3.mono HB2.out.size)); obtain ⟨-, -, -, -, i4, i5, -⟩ := HX3.out.c11) | ((with_reducible refine (C5.out _ _ rfl).mono ?_); rintro e w5 ⟨rfl, hb5⟩; have HX5 := hide (HX3.out.below hb5); have HB5 := hide (HB3.out.trans (hb5.mono HB3.out.size)); obtain ⟨-, -, -, -, -, -, m6, -⟩ := HX5.out.c11) | ((with_reducible refine (C6.out w5 _ rfl).mono ?_); rintro e w6 ⟨rfl, hb6⟩; have HX6 := hide (HX5.out.below hb6); have HB6 := hide (HB5.out.trans (hb6.mono HB5.out.size)); obtain ⟨-, -, -, -, -, -, -, n7, n8, -⟩ := HX6.out.c11)) | (go_at_call 35; go_must ((with_reducible refine (C4.out w3).mono ?_); rintro e w4 ⟨rfl, rfl⟩)) | (go_at_call 36; go_must ((with_reducible refine (C7.out w6).mono ?_); rintro e w7 ⟨rfl, hb7⟩; have HX7 := hide (HX6.out.below hb7); have HB7 := hide (HB6.out.trans (hb7.mono HB6.out.size)); obtain ⟨-, -, -, -, -, -, -, -, -, o9, o10⟩ := HX7.out.c11)) | (go_at_call 37; go_must ((with_reducible refine (C8.out w7 HB7.out).mono ?_); rintro e w8 ⟨rfl, hb8⟩; have HB8 := hide (HB7.out.trans (hb8.mono HB7.out.size)))))
                  go_ret
                  exact ⟨by rw [HM.out]; rfl, HB8.out⟩


/-- note.may. -/
theorem may_any (n : No) (s : ByteArray) (av mv : Value) (B : Nat) (w : World) (hM : NM B w n s av mv) : Calls Try.prog 20 #[Nv n s av mv] w fun e w' => e = .returned (.bool (mayN n)) ∧ Below w.heap.size w w' := by
  obtain ⟨h1, h2, h3, h4, ⟨aa, al, ac, rfl, hal, -⟩, ⟨ma, ml, mc, rfl, hml, _, _, hr, _⟩⟩ := hM
  have hal' : n.args.length = al := hal
  have hml' : n.mem.length = ml := hml
  refine may_go n.kind n.node n.life n.epoch s n.func aa al ac n.err n.val n.vep ma ml mc n.mem _ _ _ _ _ _ _ _ (mayN n) w h2 hml' (by omega) hr rfl rfl rfl rfl rfl rfl rfl rfl ?_
  rw [mayN_tests, ← h1, okId_valid, hal']
end Go.Proofs.Ytgkpioleipefmaa
