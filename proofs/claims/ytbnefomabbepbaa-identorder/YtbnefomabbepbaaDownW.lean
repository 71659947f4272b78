/- IdentDown answers true: its walk. -/
import Derived.Test.YtbnefomabbepbaaCommon
namespace Go.Proofs.Ytbnefomabbepbaa
open Go.RowKit Go.ChangeShapes Go.WideShapes Go.ChangeAt Go.Deep

theorem Try.info22 : (Try.prog.info? 22).map (fun i => (i.zero, i.size, i.bytes)) = some (some (.string ⟨#[]⟩), 1, 16) := by kernel_rfl
theorem getLastD_append (l : List UInt8) (c d : UInt8) : (l ++ [c]).getLastD d = c := by simp
theorem kid_facts (s : ByteArray) (hv : validL s.data.toList = true) (k : Int) (h0 : 0 ≤ k) (h1 : k < 16) (h2 : s.size < 12) :
    kidOk s.data.toList k = true ∧ (bs (kidL s.data.toList k)).size = s.size + 1 ∧ validL (bs (kidL s.data.toList k)).data.toList = true ∧ upOk (bs (kidL s.data.toList k)).data.toList = true ∧ bs (upL (bs (kidL s.data.toList k)).data.toList) = s ∧ upN (bs (kidL s.data.toList k)).data.toList = k ∧ (bs (textOf (bs (kidL s.data.toList k)).data.toList)).size = s.size + 2 := by
  have hsz := Lib.size_eq s
  have hk : kidOk s.data.toList k = true := kid_parts.2 ⟨h0, h1, by omega, hv⟩
  have hL : kidL s.data.toList k = s.data.toList ++ [k.toNat.toUInt8] := by unfold kidL; rw [hk]; rfl
  obtain ⟨v1, v2⟩ := valid_iff.1 hv
  have hu := u8_of h0 (show k < 256 by omega)
  have hv2 : validL (s.data.toList ++ [k.toNat.toUInt8]) = true := by
    rw [valid_iff]
    refine ⟨by simp; omega, fun c hc => ?_⟩
    rcases List.mem_append.1 hc with hc | hc
    · exact v2 c hc
    · simp only [List.mem_singleton] at hc
      subst hc; omega
  have hup : upOk (s.data.toList ++ [k.toNat.toUInt8]) = true := by unfold upOk; rw [hv2]; simp
  rw [hL, bs_list, bs_size]
  refine ⟨hk, by simp, hv2, hup, ?_, ?_, ?_⟩
  · unfold upL
    rw [hup, if_pos rfl]
    simp [bs_self]
  · unfold upN
    rw [hup, if_pos rfl, getLastD_append]
    exact hu
  · rw [bs_size]
    unfold textOf
    rw [hv2, if_pos rfl]
    simp [textL]
theorem fold_nil (r : List ByteArray) : foldB ⟨#[]⟩ r = ⟨#[]⟩ := by
  induction r with
  | nil => rfl
  | cons x r ih =>
    show foldB ((⟨#[]⟩ : ByteArray).extract 0 (alikeB ⟨#[]⟩ x)) r = _
    rw [show (⟨#[]⟩ : ByteArray).extract 0 (alikeB ⟨#[]⟩ x) = ⟨#[]⟩ by apply bytes_inj; simp [extract_bs, bs]]
    exact ih
theorem common_nil {l : List ByteArray} (h : l.head? = some ⟨#[]⟩) : commonB l = ⟨#[]⟩ := by
  cases l with
  | nil => rfl
  | cons a r =>
    simp at h
    subst h
    exact fold_nil r
theorem reads_ownN {w : World} {B n : Nat} {v : Value} {xs : List ByteArray} (h : w.ownsRow B 22 1 v n (nV xs)) :
    ∃ a cap, v = .slice a xs.length cap ∧ xs.length ≤ cap ∧ cap ≤ maxLen ∧ Reads w a (nV xs) := by
  have hn : n = xs.length := by have := h.1; simp [nV] at this; omega
  have h' := h
  subst hn
  rcases h.2 with ⟨rfl, h0⟩ | ⟨g, cap, cur, rfl, _, _, h3, h4, _⟩
  · refine ⟨none, 0, by rw [h0], by omega, by unfold maxLen; omega, .inl ?_⟩
    have : xs = [] := List.eq_nil_of_length_eq_zero h0
    rw [this]; rfl
  · refine ⟨_, cap, rfl, h3, h4, .inr ⟨g, 0, rfl, fun j u hu => ?_⟩⟩
    have := h'.cells (g := g) rfl j u hu
    rwa [add_none] at this

theorem own_belowN {w w' : World} {B n : Nat} {v : Value} {xs : List Value} (h : w.ownsRow B 22 1 v n xs) (hb : Below w.heap.size w w') : w'.ownsRow B 22 1 v n xs := by
  refine ⟨h.1, ?_⟩
  rcases h.2 with h | ⟨g, cap, cur, e, h1, h2, h3⟩
  · exact .inl h
  · refine .inr ⟨g, cap, cur, e, h1, ?_, h3⟩
    rw [hb.block g (by
      rcases Nat.lt_or_ge g w.heap.size with q | q
      · exact q
      · rw [Array.getElem?_eq_none q] at h2; cases h2)]
    exact h2

set_option maxRecDepth 100000 in
set_option maxHeartbeats 4000000 in
theorem down_any (ns : List Int) (a : Option Addr) (len cap : Nat) (w : World) (hl : ns.length = len) (hr : Reads w a (iV ns)) (h64 : In64 ns) :
    Calls Try.prog 5 #[.slice a len cap] w fun e w' => e = .returned (.bool true) ∧ Below w.heap.size w w' := by
  have AL := alive_any w
  by_cases h20 : len ≤ 20
  · have h20' : ¬ (20 : Int) < (len : Int) := by omega
    obtain ⟨i0, hi, hz0, hz1, hz2⟩ := info_parts Try.info22
    have HL := hide hl
    have H64 := hide h64
    have HR := hide hr
    clear hl h64 hr
    go_enter Try.func5, Try.ntmps5
    go_wp2_with (go_at_call 7; go_must (with_reducible refine AL.mono ?_; (rintro e w1 ⟨rfl, hb1⟩)))
    clear AL
    go_loopw [6, 5, 4] (fun i id way wr => Below w.heap.size w wr ∧ ∃ (k : Nat) (s : ByteArray) (ws : List ByteArray), k ≤ len ∧ i = .int .i64 (k : Nat) ∧ id = .string s ∧ wr.ownsRow w.heap.size 22 1 way ws.length (nV ws) ∧ ws.length ≤ k ∧ Hid (validL s.data.toList = true) ∧ Hid ((ws ++ [s]).head? = some ⟨#[]⟩) ∧ Hid (∀ x ∈ ws, x.size ≤ 12)) (fun i _ _ _ => len - (intOf i).toNat)
    case atStart => exact ⟨hb1, 0, ⟨#[]⟩, [], by omega, rfl, rfl, by simpa [nV] using World.ownsRow_nil _ _ 22 1, by simp, by rfl, by rfl, fun x hx => by simp at hx⟩
    case round =>
      obtain ⟨hbw, k, s, ws, hk, rfl, rfl, ho, hwk, hv, hhd, hws⟩ := hrel
      have hszw := hbw.size
      have hs12 : s.size ≤ 12 := by rw [Lib.size_eq]; exact (valid_iff.1 hv.out).1
      have HB := hide hbw
      by_cases hlt : k < len
      · have hlt' : (k : Int) < (len : Int) := by omega
        obtain ⟨b, off, rfl, q⟩ := reads_at (HR.out.below hbw) (show k < ns.length by have := HL.out; omega)
        have c1 := q.out k (.int .i64 (ns[k]'(by have := HL.out; omega))) (by simp [iV, show k < ns.length by have := HL.out; omega])
        have hx64 := H64.out (ns[k]'(by have := HL.out; omega)) (List.getElem_mem _)
        clear q
        generalize ns[k]'(by have := HL.out; omega) = x at c1 hx64
        have C1 := fun w => kid_any s (by omega) x w
        clear hbw
        by_cases hx0 : 0 ≤ x
        · by_cases hx1 : x < 16
          · by_cases hx2 : s.size < 12
            · obtain ⟨f1, f2, f3, f4, f5, f6, f7⟩ := kid_facts s hv.out x hx0 hx1 hx2
              rw [f1] at C1
              have C2 := fun w => up_any (bs (kidL s.data.toList x)) (by rw [f2]; omega) w
              have C3 := fun w => text_any (bs (kidL s.data.toList x)) (by rw [f2]; unfold maxLen; omega) w
              rw [f4, f5, f6] at C2
              generalize bs (textOf (bs (kidL s.data.toList x)).data.toList) = tx at C3 f7
              have HV3 := hide f3
              generalize bs (kidL s.data.toList x) = t at C1 C2 C3 f2 HV3
              clear f1 f3 f4 f5 f6
              have hx2' : (s.size : Int) < 12 := by omega
              have hne : (s.toList != s.toList) = false := by simp
              have hne2 : (x != x) = false := by simp
              have hlen2 : ((tx.size : Int) != (t.size : Int) + 1) = false := by rw [bne_eq_false_iff_eq]; omega
              have HHD := hide (show ((ws ++ [s]) ++ [t]).head? = some ⟨#[]⟩ by rw [List.head?_append, hhd.out]; rfl)
              have HWS := hide (show ∀ y ∈ ws ++ [s], y.size ≤ 12 from fun y hy => by
                rcases List.mem_append.1 hy with hy | hy
                · exact hws.out y hy
                · simp only [List.mem_singleton] at hy; subst hy; omega)
              go_wp2_with (go_at_call 10; go_must (with_reducible refine (C1 _).mono ?_; (rintro e w2 ⟨rfl, hb2⟩); refine Hid.out ?_))
              refine Lib.hid ?_
              have c2 := keep_cell c1 hb2
              go_wp2_with (go_at_call 12; go_must (with_reducible refine (C2 _).mono ?_; (rintro e w3 ⟨rfl, hb3⟩); refine Hid.out ?_))
              refine Lib.hid ?_
              have c3 := keep_cell c2 hb3
              go_wp2_with (go_at_call 16; go_must (with_reducible refine (C3 _).mono ?_; (rintro e w4 ⟨rfl, hb4⟩); refine Hid.out ?_))
              refine Lib.hid ?_
              have hb24 := chain hb2 (chain hb3 hb4)
              have ho4 := own_belowN ho hb24
              have hsz4 := hb24.size
              clear c1 c2 c3 C1 C2 C3
              go_wp2_with (at_builtin; go_must (refine wpList_append_own _ rfl (.tmp 90) (.tmp 92) 32 rfl w.heap.size 22 i0 (.string ⟨#[]⟩) 1 16 Try.underlying32 hi hz0 hz1 hz2 rfl (by decide) u4 _ _ rfl (ho4.alloc _) ⟨w4.heap.size, 0, none⟩ 1 1 [.string s] rfl rfl (cell_one_new _ _ _) (by simp [Value.oneCell']) (by unfold maxLen; omega) (by omega) (by simp; omega) ?_; intro v2 w5 ho5 hg5 _))
              have hb5 : Below w.heap.size w w5 := ((chain HB.out hb24).alloc (by omega) _).grown hg5 (by simp; omega) (fun q hq => (ho4.lt q hq).1)
              go_roundw
              case rel => exact ⟨hb5, k + 1, t, ws ++ [s], by omega, by go_num, rfl, by simpa [nV] using ho5, by simp; omega, HV3, HHD, HWS⟩
              case measure => simp [intOf]; omega
            · have hx2' : ¬ (s.size : Int) < 12 := by omega
              obtain ⟨e1, e2⟩ := kid_no (l := s.data.toList) (k := x) (by rw [← Lib.size_eq]; omega)
              rw [e1, e2] at C1
              clear e1 e2
              generalize bs [] = t0 at C1
              go_wp2_with (go_at_call 10; go_must (with_reducible refine (C1 _).mono ?_; (rintro e w2 ⟨rfl, hb2⟩); refine Hid.out ?_))
              refine Lib.hid ?_
              have ho2 := own_belowN ho hb2
              have c2 := keep_cell c1 hb2
              go_wp2_with fail
              go_roundw
              case rel => exact ⟨chain HB.out hb2, k + 1, s, ws, by omega, by go_num, rfl, ho2, by omega, hv, hhd, hws⟩
              case measure => simp [intOf]; omega
          · have hx1' : ¬ x < 16 := hx1
            obtain ⟨e1, e2⟩ := kid_no (l := s.data.toList) (k := x) (by omega)
            rw [e1, e2] at C1
            clear e1 e2
            generalize bs [] = t0 at C1
            go_wp2_with (go_at_call 10; go_must (with_reducible refine (C1 _).mono ?_; (rintro e w2 ⟨rfl, hb2⟩); refine Hid.out ?_))
            refine Lib.hid ?_
            have ho2 := own_belowN ho hb2
            have c2 := keep_cell c1 hb2
            go_wp2_with fail
            go_roundw
            case rel => exact ⟨chain HB.out hb2, k + 1, s, ws, by omega, by go_num, rfl, ho2, by omega, hv, hhd, hws⟩
            case measure => simp [intOf]; omega
        · have hx0' : ¬ 0 ≤ x := hx0
          obtain ⟨e1, e2⟩ := kid_no (l := s.data.toList) (k := x) (by omega)
          rw [e1, e2] at C1
          clear e1 e2
          generalize bs [] = t0 at C1
          go_wp2_with (go_at_call 10; go_must (with_reducible refine (C1 _).mono ?_; (rintro e w2 ⟨rfl, hb2⟩); refine Hid.out ?_))
          refine Lib.hid ?_
          have ho2 := own_belowN ho hb2
          have c2 := keep_cell c1 hb2
          go_wp2_with fail
          go_roundw
          case rel => exact ⟨chain HB.out hb2, k + 1, s, ws, by omega, by go_num, rfl, ho2, by omega, hv, hhd, hws⟩
          case measure => simp [intOf]; omega
      · have hlt' : ¬ (k : Int) < (len : Int) := by omega
        clear hbw
        have HCN := hide (common_nil hhd.out)
        have HC1 := hide (show commonB [s] = s from rfl)
        have HSZ := hide (show ∀ x ∈ ws ++ [s], x.size ≤ 1000000000 from fun y hy => by
          rcases List.mem_append.1 hy with hy | hy
          · have := hws.out y hy; omega
          · simp only [List.mem_singleton] at hy; subst hy; omega)
        have hne : (s.toList == s.toList) = true := by simp
        go_wp2_with (at_builtin; go_must (refine wpList_append_own _ rfl (.tmp 95) (.tmp 97) 32 rfl w.heap.size 22 i0 (.string ⟨#[]⟩) 1 16 Try.underlying32 hi hz0 hz1 hz2 rfl (by decide) u4 _ _ rfl (ho.alloc _) ⟨wr.heap.size, 0, none⟩ 1 1 [.string s] rfl rfl (cell_one_new _ _ _) (by simp [Value.oneCell']) (by unfold maxLen; omega) (by omega) (by simp; omega) ?_; intro v2 w5 ho5 hg5 _))
        have hb5 : Below w.heap.size w w5 := (HB.out.alloc (by omega) _).grown hg5 (by simp; omega) (fun q hq => (ho.lt q hq).1)
        obtain ⟨a5, cap5, rfl, hc5, hm5, hr5⟩ := reads_ownN (xs := ws ++ [s]) (by simpa [nV] using ho5)
        have C := common_any (ws ++ [s]) a5 cap5 w5 hr5 hc5 hm5 HSZ.out
        rw [HCN.out] at C
        clear hr5 hc5 hm5
        go_wp2_with (go_at_call 21; go_must (with_reducible refine C.mono ?_; (rintro e w6 ⟨rfl, hb6⟩); refine Hid.out ?_))
        refine Lib.hid ?_
        have C7 := common_any [s] (some ⟨w6.heap.size, 0, none⟩) 1 (w6.alloc (.cells #[.string s] 22)) (reads_new _ [.string s] 22) (by simp) (by unfold maxLen; omega) (fun y hy => by simp at hy; subst hy; omega)
        rw [HC1.out] at C7
        change Calls Try.prog 21 #[.slice (some ⟨w6.heap.size, 0, none⟩) 1 1] _ _ at C7
        clear C
        go_wp2_with (go_at_call 21; go_must (with_reducible refine C7.mono ?_; (rintro e w7 ⟨rfl, hb7⟩); refine Hid.out ?_))
        refine Lib.hid ?_
        go_wp2_with fail
        go_ret
        exact ⟨rfl, chain (chain hb5 hb6) (chain ((Below.refl _ _).alloc (Nat.le_refl _) _) hb7)⟩
  · have h20' : (20 : Int) < (len : Int) := by omega
    clear hl h64 hr
    go_enter Try.func5, Try.ntmps5
    go_wp2_with (go_at_call 7; go_must (with_reducible refine AL.mono ?_; (rintro e w1 ⟨rfl, hb1⟩)))
    go_ret
    exact ⟨rfl, hb1⟩
theorem identDown.walk (a : Option Addr) (l c : Nat) (x : List Int) (W : World) (hl : x.length = l) (hB : In64 x) (hr : Reads W a (iV x)) : Calls Try.prog 5 #[.slice a l c] W fun e w' => e = .returned (.bool true) ∧ Below W.heap.size W w' := down_any x a l c W hl hr hB
end Go.Proofs.Ytbnefomabbepbaa
