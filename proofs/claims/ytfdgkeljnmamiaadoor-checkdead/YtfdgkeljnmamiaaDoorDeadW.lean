/- CheckDead's walk. -/
import Derived.Test.YtfdgkeljnmamiaaDoorDeadP
namespace Go.Proofs.YtfdgkeljnmamiaaDoor
open Go.RowKit Go.ChangeShapes Go.WideShapes Go.ChangeAt Go.Deep

theorem insV_len (ys : List (Int × Int)) : (insV ys).length = ys.length * 2 := by
  induction ys with
  | nil => rfl
  | cons a r ih => show ([Value.int .i64 a.1, Value.int .i64 a.2] ++ insV r).length = _; simp [ih]; omega
theorem insV_one (ys : List (Int × Int)) : ∀ u ∈ insV ys, u.oneCell' = true := fun u hu => by
  simp only [insV, List.mem_flatMap] at hu
  obtain ⟨y, _, hy⟩ := hu
  simp at hy
  rcases hy with rfl | rfl <;> rfl
theorem append_ins {w : World} {ops : Array Oper} {rest : List Oper} {o : Oper} {a : Act} {Q : Exit → Act → World → Prop} (hgd : o.guard = none) (s x : Operand)
    (ho : o.op = .call { callee := .builtin .append, args := #[s, x], argTypes := #[41, 41] })
    (base : Nat) (v : Value) (n : Nat) (xs : List Value) (hs : a.eval s = v) (hown : w.ownsRow base 39 2 v n xs)
    (ad : Option Addr) (m c : Nat) (ys : List (Int × Int)) (hx : a.eval x = .slice ad m c) (hnil : ad = none → m = 0 ∧ c = 0) (hl : ys.length = m) (hr : Reads w ad (insV ys))
    (hb : n + m ≤ 1000000) (hbase : base ≤ w.heap.size)
    (h : ∀ v' w', w'.ownsRow base 39 2 v' (n + m) (xs ++ insV ys) → w.grownBy w' v.ownBlock → wpList Tryd.prog ops Q rest (a.put o.dst v') w') :
    wpList Tryd.prog ops Q (o :: rest) a w := by
  obtain ⟨i0, hi, hz0, hz1, hz2⟩ := info_parts Tryd.info39
  cases ad with
  | none =>
    obtain ⟨rfl, rfl⟩ := hnil rfl
    have hy : ys = [] := List.eq_nil_of_length_eq_zero hl
    subst hy
    refine wpList_append_own_none hgd s x 41 ho base 39 i0 2 Tryd.underlying41 hi v n xs hs hown hx ?_
    exact h v w (by simpa [insV] using hown) ⟨rfl, rfl, rfl, Nat.le_refl _, fun _ _ _ => rfl⟩
  | some ad =>
    refine wpList_append_own _ hgd s x 41 ho base 39 i0 (.agg #[.int .i64 0, .int .i64 0]) 2 16 Tryd.underlying41 hi hz0 hz1 hz2 rfl (by decide) v n xs hs hown ad m c (insV ys) hx (by rw [insV_len]; omega) ?_ (insV_one ys) (by unfold maxLen; omega) (by omega) hbase ?_
    · rcases hr with hr | ⟨b, off, e, hr⟩
      · rw [hr]; simp
      · simp at e
        subst e
        intro j u hu
        rw [add_none]; exact hr j u hu
    · intro v' w' h1 h2 _
      exact h v' w' h1 h2

/-- An instruction that is right though it is never come to. -/
def Right (nc : Nat) (op n : Int) : Prop := op = 1 ∨ (op = 14 ∧ 0 ≤ n ∧ n < (nc : Int)) ∨ (op = 15 ∧ 0 ≤ n ∧ n < (nc : Int)) ∨ (op = 16 ∧ n = 0) ∨ ((1 ≤ op ∧ op ≤ 19) ∧ (op ≠ 1 ∧ op ≠ 5 ∧ op ≠ 6 ∧ op ≠ 14 ∧ op ≠ 15 ∧ op ≠ 16) ∧ n = 0)
theorem word_no (op : Int) : (kindOf op).word.toList.isEmpty = decide (¬ (1 ≤ op ∧ op ≤ 19)) := by
  by_cases h : 1 ≤ op ∧ op ≤ 19
  · rw [word_yes op h]; simp [h]
  · rw [kind_no h]; simp [h]; decide +kernel
theorem ins_form (nc : Nat) (op n : Int) : insErr 0 nc 1 op n = if ¬ (1 ≤ op ∧ op ≤ 19) ∨ (¬ (op = 1 ∨ op = 5 ∨ op = 6 ∨ op = 14 ∨ op = 15 ∨ op = 16) ∧ n ≠ 0) then 10 else if op = 5 ∨ op = 6 then 13 else if op = 14 ∨ op = 15 then (if 0 ≤ n ∧ n < (nc : Int) then 0 else 11) else if op = 16 then (if n = 0 then 0 else 14) else 0 := by
  have hN := hasN_spec op
  unfold insErr
  rw [word_no]
  by_cases h1 : 1 ≤ op ∧ op ≤ 19
  · by_cases h2 : op = 1 ∨ op = 5 ∨ op = 6 ∨ op = 14 ∨ op = 15 ∨ op = 16
    · have : (kindOf op).hasN = true := hN.2 h2
      rw [this]
      simp only [h1, h2, not_true_eq_false, decide_false, Bool.true_or, Bool.not_true, Bool.or_false, Bool.false_eq_true, if_false, false_and, or_false, and_self]
      by_cases a : op = 5 ∨ op = 6
      · simp only [a, if_true]
        rw [if_neg (by simp [hasB, inB]; omega)]
      · simp only [a, if_false]
        by_cases b : op = 14 ∨ op = 15
        · simp only [b, if_true]
          by_cases c : 0 ≤ n ∧ n < (nc : Int)
          · rw [if_pos (by simp [hasB, inB]; omega), if_pos c]
          · rw [if_neg (by simp [hasB, inB]; omega), if_neg c]
        · simp only [b, if_false]
          by_cases d : op = 16
          · simp only [d, if_true]
            by_cases e : n = 0
            · rw [if_pos (by simp [hasB, inB]; omega), if_pos e]
            · rw [if_neg (by simp [hasB, inB]; omega), if_neg e]
          · simp only [d, if_false]
    · have : (kindOf op).hasN = false := by
        cases hq : (kindOf op).hasN with
        | false => rfl
        | true => exact absurd (hN.1 hq) h2
      rw [this]
      have a : ¬ (op = 5 ∨ op = 6) := by omega
      have b : ¬ (op = 14 ∨ op = 15) := by omega
      have c : ¬ op = 16 := by omega
      by_cases d : n = 0
      · simp [h1, a, b, c, d]
      · simp [h1, h2, d]
  · simp [h1]
theorem wrong_of {nc : Nat} {op n : Int} (h : ¬ insErr 0 nc 1 op n = 0) : (op < 1 ∧ insErr 0 nc 1 op n = 10) ∨ (19 < op ∧ insErr 0 nc 1 op n = 10) ∨ ((1 ≤ op ∧ op ≤ 19) ∧ (op ≠ 1 ∧ op ≠ 5 ∧ op ≠ 6 ∧ op ≠ 14 ∧ op ≠ 15 ∧ op ≠ 16) ∧ n ≠ 0 ∧ insErr 0 nc 1 op n = 10) ∨ (op = 5 ∧ insErr 0 nc 1 op n = 13) ∨ (op = 6 ∧ insErr 0 nc 1 op n = 13) ∨ (op = 14 ∧ n < 0 ∧ insErr 0 nc 1 op n = 11) ∨ (op = 14 ∧ 0 ≤ n ∧ (nc : Int) ≤ n ∧ insErr 0 nc 1 op n = 11) ∨ (op = 15 ∧ n < 0 ∧ insErr 0 nc 1 op n = 11) ∨ (op = 15 ∧ 0 ≤ n ∧ (nc : Int) ≤ n ∧ insErr 0 nc 1 op n = 11) ∨ (op = 16 ∧ n ≠ 0 ∧ insErr 0 nc 1 op n = 14) := by
  by_cases a : ¬ (1 ≤ op ∧ op ≤ 19) ∨ (¬ (op = 1 ∨ op = 5 ∨ op = 6 ∨ op = 14 ∨ op = 15 ∨ op = 16) ∧ n ≠ 0)
  · have hv := (ins_form nc op n).trans (if_pos a)
    rcases Classical.em (op < 1) with q | q
    · exact .inl ⟨q, hv⟩
    · rcases Classical.em (19 < op) with q2 | q2
      · exact .inr (.inl ⟨q2, hv⟩)
      · have ht : ¬ (op = 1 ∨ op = 5 ∨ op = 6 ∨ op = 14 ∨ op = 15 ∨ op = 16) ∧ n ≠ 0 := by
          rcases a with a | a
          · exact absurd ⟨by omega, by omega⟩ a
          · exact a
        exact .inr (.inr (.inl ⟨⟨by omega, by omega⟩, ⟨fun e => ht.1 (.inl e), fun e => ht.1 (.inr (.inl e)), fun e => ht.1 (.inr (.inr (.inl e))), fun e => ht.1 (.inr (.inr (.inr (.inl e)))), fun e => ht.1 (.inr (.inr (.inr (.inr (.inl e))))), fun e => ht.1 (.inr (.inr (.inr (.inr (.inr e)))))⟩, ht.2, hv⟩))
  · have h0 := (ins_form nc op n).trans (if_neg a)
    by_cases b : op = 5 ∨ op = 6
    · have hv := h0.trans (if_pos b)
      rcases b with b | b
      · exact .inr (.inr (.inr (.inl ⟨b, hv⟩)))
      · exact .inr (.inr (.inr (.inr (.inl ⟨b, hv⟩))))
    · have h1 := h0.trans (if_neg b)
      by_cases c : op = 14 ∨ op = 15
      · have h2 := h1.trans (if_pos c)
        by_cases d : 0 ≤ n ∧ n < (nc : Int)
        · exact absurd (h2.trans (if_pos d)) h
        · have hv := h2.trans (if_neg d)
          clear h0 h1 h2 a b h
          rcases c with c | c
          · rcases Classical.em (n < 0) with q | q
            · exact .inr (.inr (.inr (.inr (.inr (.inl ⟨c, q, hv⟩)))))
            · exact .inr (.inr (.inr (.inr (.inr (.inr (.inl ⟨c, by omega, by omega, hv⟩))))))
          · rcases Classical.em (n < 0) with q | q
            · exact .inr (.inr (.inr (.inr (.inr (.inr (.inr (.inl ⟨c, q, hv⟩)))))))
            · exact .inr (.inr (.inr (.inr (.inr (.inr (.inr (.inr (.inl ⟨c, by omega, by omega, hv⟩))))))))
      · have h2 := h1.trans (if_neg c)
        by_cases d : op = 16
        · have h3 := h2.trans (if_pos d)
          by_cases e : n = 0
          · exact absurd (h3.trans (if_pos e)) h
          · have hv := h3.trans (if_neg e)
            exact .inr (.inr (.inr (.inr (.inr (.inr (.inr (.inr (.inr (⟨d, e, hv⟩)))))))))
        · exact absurd (h2.trans (if_neg d)) h
theorem right_of {nc : Nat} {op n : Int} (h : insErr 0 nc 1 op n = 0) : Right nc op n := by
  rw [ins_form] at h
  unfold Right
  split at h
  · cases h
  · split at h
    · cases h
    · split at h
      · split at h
        · omega
        · cases h
      · split at h
        · split at h
          · omega
          · cases h
        · omega

theorem first_bad (p : Int × Int → Prop) [DecidablePred p] : ∀ l : List (Int × Int), (∀ x ∈ l, p x) ∨ ∃ k x, l[k]? = some x ∧ (∀ y ∈ l.take k, p y) ∧ ¬ p x
  | [] => .inl (fun x hx => by simp at hx)
  | a :: r => by
    by_cases ha : p a
    · rcases first_bad p r with h | ⟨k, x, h1, h2, h3⟩
      · exact .inl (fun x hx => by
          rcases List.mem_cons.1 hx with rfl | hx
          · exact ha
          · exact h x hx)
      · exact .inr ⟨k + 1, x, by simpa using h1, fun y hy => by
          simp only [List.take_succ_cons, List.mem_cons] at hy
          rcases hy with rfl | hy
          · exact ha
          · exact h2 y hy, h3⟩
    · exact .inr ⟨0, a, rfl, fun y hy => by simp at hy, ha⟩

set_option maxRecDepth 100000 in
set_option maxHeartbeats 8000000 in
theorem dead_any (l : List (Int × Int)) (a : Option Addr) (n cap : Nat) (hl : l.length = n) (hnil : a = none → n = 0 ∧ cap = 0) (w : World) (hr : Reads w a (insV l)) (hE : Env w) : Calls Tryd.prog 8 #[.slice a n cap] w fun r w' => r = .returned (.bool true) ∧ Below w.heap.size w w' := by
  have CA := alive_any w hE
  by_cases h1 : 100 < n
  · have h1' : (100 : Int) < (n : Int) := by omega
    go_enter Tryd.func8, Tryd.ntmps8
    go_wp2_with (go_at_call 9; go_must (with_reducible refine CA.mono ?_; (rintro e w1 ⟨rfl, hb1⟩)))
    go_ret
    exact ⟨rfl, hb1⟩
  have h1' : ¬ (100 : Int) < (n : Int) := by omega
  go_enter Tryd.func8, Tryd.ntmps8
  go_wp2_with (first
    | (go_at_call 9; go_must (with_reducible refine CA.mono ?_; (rintro e w1 ⟨rfl, hb1⟩)))
    | (at_builtin; go_must (refine append_ins rfl (.tmp 25) (.tmp 26) rfl w.heap.size (.slice (some ⟨w1.heap.size, 0, none⟩) 2 2) 2 (insV [(1, 5), (18, 0)]) rfl (World.ownsRow_lit w1 #[.int .i64 1, .int .i64 5, .int .i64 18, .int .i64 0] 2 hb1.size (by unfold maxLen; omega) rfl) a n cap l rfl hnil hl (hr.below (chain hb1 (alloc_below w1 _))) (by omega) (by have := hb1.size; simp; omega) ?_; intro v2 w2 ho2 hg2))
    | (go_at_call 17; refine Hid.out ?_))
  refine Lib.hid ?_
  have hs1 := hb1.size
  have hb2 : Below w.heap.size w w2 := (hb1.alloc hs1 _).grown hg2 (by simp; omega) (fun q hq => by simp [Value.ownBlock] at hq; omega)
  have ho3 : w2.ownsRow w.heap.size 39 2 v2 (2 + n) (insV (deadC l)) := ho2
  obtain ⟨ca, cc, rfl, hrc⟩ := own_code ho3
  have hlc : (deadC l).length = 2 + n := by show l.length + 2 = _; omega
  have C1 := fun w => one_any ca (2 + n) cc w
  unfold OnePost at C1
  refine (C1 _).mono ?_
  rintro e w3 ⟨h3, rfl, hrow3, hb3⟩
  have hb03 := chain hb2 hb3
  have C2 := one_check (deadC l) hrow3 hlc (hrc.below hb3) (hE.below hb03) (by omega)
  unfold CheckPost at C2
  have HRC := hide (fun W hb => (hrc.below (w' := W) hb))
  have HRL := hide (fun W hb => (hr.below (w' := W) hb))
  have HL := hide hl
  have HLC := hide hlc
  have NM := fun e w => num_any e w
  clear hrow3 hrc ho3 ho2 hg2 hr hlc CA hb1 hs1
  rcases first_bad (fun x => insErr 0 (l.length + 2) 1 x.1 x.2 = 0) l with hall | ⟨k0, x0, hx0, hbef, hbad⟩
  · obtain ⟨e1, e2⟩ := dead_ok l (by omega) hall
    rw [e1] at C2
    have HD := hide e2
    have HALL := hide hall
    clear e1 e2 hall
    simp only [oneJ, JV.cells] at C2 ⊢
    go_wp2_with (first
      | (go_at_call 11; go_must (with_reducible refine C2.mono ?_; (rintro e w6 ⟨rfl, hb6⟩)))
      | (go_at_call 17; refine Hid.out ?_))
    refine Lib.hid ?_
    have hb26 := chain hb3 hb6
    have hb06 := chain hb03 hb6
    refine (C1 _).mono ?_
    rintro e w7 ⟨h7, rfl, hrow7, hb7⟩
    have hb27 := chain hb26 hb7
    have hb07 := chain hb06 hb7
    have C3 := one_deps (deadC l) hrow7 HLC.out (HRC.out _ hb27) (hE.below hb07) (by omega)
    unfold DepsPost at C3
    rw [HD.out] at C3
    have hdl : (deadD l).length = 2 + n := by have := HL.out; simp [deadD]; omega
    rw [hdl] at C3
    simp only [oneJ, JV.cells] at C3 ⊢
    clear C1 C2 hrow7 HRC hb26 hb27 hb7 hb06 hb6 hb3 hb03 hb2
    go_wp2_with (go_at_call 15; go_must (with_reducible refine C3.mono ?_; (rintro e w8 ⟨da, dc, rfl, hrd, hb8⟩)))
    have HRD := hide (fun W hb => (hrd.below (w' := W) hb))
    have HB8 := hide (chain hb07 hb8)
    have HDL := hide hdl
    clear C3 hrd hb8 hb07 hdl
    go_loopw [9] (fun i wr => Hid (Below w8.heap.size w8 wr) ∧ ∃ k : Nat, k ≤ n ∧ i = .int .i64 (k : Nat)) (fun i _ => n - (intOf i).toNat)
    case atStart => exact ⟨Below.refl _ _, 0, Nat.zero_le _, rfl⟩
    case round =>
      obtain ⟨hbw, k, hk, rfl⟩ := hrel
      by_cases hlt : k < n
      · have hkc : k < l.length := by have := HL.out; omega
        obtain ⟨cb, off, rfl, y0, y1⟩ := code_at (HRL.out _ (chain HB8.out hbw.out)) hkc
        have hR := right_of (HALL.out l[k] (List.getElem_mem hkc))
        have hll := HL.out
        rw [hll] at hR
        generalize l[k] = xx at y0 y1 hR
        obtain ⟨op, xn⟩ := xx
        simp only [] at y0 y1 hR
        clear hll
        have hlt' : (k : Int) < (n : Int) := by omega
        have HBN := hide (chain hbw.out (alloc_below wr (.cells #[.int .i64 op, .int .i64 xn] 39)))
        unfold Right at hR
        have hnc : ((n + 2 : Nat) : Int) = 2 + (n : Int) := by omega
        rw [hnc] at hR
        clear hnc
        rcases hR with hq | ⟨hq, hn1, hn2⟩ | ⟨hq, hn1, hn2⟩ | ⟨hq, hn1⟩ | ⟨⟨g1, g2⟩, ⟨z1, z5, z6, z14, z15, z16⟩, hn1⟩
        · subst hq
          go_wp2
          go_roundw
          case rel => exact ⟨HBN, k + 1, by omega, by go_num⟩
          case measure => simp [intOf]; omega
        · subst hq
          have hn1' : ¬ xn < 0 := by omega
          have hn2' : ¬ ((2 : Int) + (n : Int) ≤ xn) := by omega
          have hn3' : xn < (2 : Int) + (n : Int) := by omega
          clear hn1 hn2
          go_wp2
          go_roundw
          case rel => exact ⟨HBN, k + 1, by omega, by go_num⟩
          case measure => simp [intOf]; omega
        · subst hq
          have hn1' : ¬ xn < 0 := by omega
          have hn2' : ¬ ((2 : Int) + (n : Int) ≤ xn) := by omega
          have hn3' : xn < (2 : Int) + (n : Int) := by omega
          clear hn1 hn2
          go_wp2
          go_roundw
          case rel => exact ⟨HBN, k + 1, by omega, by go_num⟩
          case measure => simp [intOf]; omega
        · subst hq
          subst hn1
          go_wp2
          go_roundw
          case rel => exact ⟨HBN, k + 1, by omega, by go_num⟩
          case measure => simp [intOf]; omega
        · subst hn1
          have y1 : (op == 1) = false := by simp; omega
          have y5 : (op == 5) = false := by simp; omega
          have y6 : (op == 6) = false := by simp; omega
          have y14 : (op == 14) = false := by simp; omega
          have y15 : (op == 15) = false := by simp; omega
          have y16 : (op == 16) = false := by simp; omega
          have g1' : ¬ op < 1 := by omega
          have g2' : ¬ 19 < op := by omega
          clear z1 z5 z6 z14 z15 z16 g1 g2
          go_wp2
          go_roundw
          case rel => exact ⟨HBN, k + 1, by omega, by go_num⟩
          case measure => simp [intOf]; omega

      · have hlt' : ¬ (k : Int) < (n : Int) := by omega
        have hdl := HDL.out
        obtain ⟨db, doff, rfl, hcell⟩ := reads_at (HRD.out _ hbw.out) (show 0 < (deadD l).length by omega)
        have q0 := hcell.out 0 (.int .i64 0) rfl
        have q1 := hcell.out 1 (.int .i64 1) rfl
        have m0 : (0 : Int) < 2 + (n : Int) := by omega
        have m1 : (1 : Int) < 2 + (n : Int) := by omega
        have HRD2 := hide (fun W hb => HRD.out W (chain hbw.out hb))
        have HB9 := hide (chain HB8.out hbw.out)
        simp only [Nat.add_zero] at q0
        clear hcell hdl HRD
        go_wp2_with (first
          | (go_at_call 13; go_must (with_reducible refine (NM _ _).mono ?_; (rintro e w10 ⟨rfl, hw10⟩); replace hw10 := hw10.symm; subst hw10)))
        go_loopw [13] (fun i wq => Hid (wq = wr) ∧ ∃ k : Nat, 2 ≤ k ∧ k ≤ n + 2 ∧ i = .int .i64 (k : Nat)) (fun i _ => n + 2 - (intOf i).toNat)
        case atStart => exact ⟨rfl, 2, by omega, by omega, rfl⟩
        case round =>
          obtain ⟨hwq, q, hq1, hq2, rfl⟩ := hrel
          have hwq' := hwq.out
          subst hwq'
          by_cases hlq : q < n + 2
          · have hdl := HDL.out
            have hlq' : (q : Int) < 2 + (n : Int) := by omega
            obtain ⟨db2, doff2, hda, hcell⟩ := reads_at (HRD2.out _ (Below.refl _ _)) (show q < (deadD l).length by omega)
            simp at hda
            obtain ⟨rfl, rfl⟩ := hda
            have qc := hcell.out q (.int .i64 (-1)) (by
              obtain ⟨j, rfl⟩ : ∃ j, q = j + 2 := ⟨q - 2, by omega⟩
              have hj : j < l.length := by have := HL.out; omega
              simp [iV, deadD, hj])
            clear hcell hdl
            go_wp2
            go_roundw
            case rel => exact ⟨Lib.hid trivial, q + 1, by omega, by omega, by go_num⟩
            case measure => simp [intOf]; omega
          · have hlq' : ¬ (q : Int) < 2 + (n : Int) := by omega
            go_wp2
            go_ret
            exact ⟨rfl, HB9.out⟩
  · obtain ⟨e1, e2⟩ := dead_no l (by omega) k0 x0 hx0 hbef hbad
    have hW := wrong_of hbad
    have hk0 : k0 < n := by
      rcases Nat.lt_or_ge k0 l.length with h | h
      · omega
      · rw [List.getElem?_eq_none h] at hx0; cases hx0
    generalize insErr 0 (l.length + 2) 1 x0.1 x0.2 = E0 at e1 hW
    rw [e1, show ((k0 + 2 : Nat) : Int) = (k0 : Int) + 2 by omega] at C2
    have HD := hide e2
    have HBEF := hide hbef
    have HX0 := hide hx0
    have HW := hide hW
    clear e1 e2 hbef hbad hx0 hW
    simp only [oneJ, JV.cells] at C2 ⊢
    go_wp2_with (first
      | (go_at_call 11; go_must (with_reducible refine C2.mono ?_; (rintro e w6 ⟨rfl, hb6⟩)))
      | (go_at_call 17; refine Hid.out ?_))
    refine Lib.hid ?_
    have hb26 := chain hb3 hb6
    have hb06 := chain hb03 hb6
    refine (C1 _).mono ?_
    rintro e w7 ⟨h7, rfl, hrow7, hb7⟩
    have hb27 := chain hb26 hb7
    have hb07 := chain hb06 hb7
    have C3 := one_deps (deadC l) hrow7 HLC.out (HRC.out _ hb27) (hE.below hb07) (by omega)
    unfold DepsPost at C3
    rw [HD.out] at C3
    simp only [oneJ, JV.cells, List.length_nil] at C3 ⊢
    clear C1 C2 hrow7 HRC hb26 hb27 hb7 hb06 hb6 hb3 hb03 hb2
    go_wp2_with (go_at_call 15; go_must (with_reducible refine C3.mono ?_; (rintro e w8 ⟨da, dc, rfl, hrd, hb8⟩)))
    have HB8 := hide (chain hb07 hb8)
    clear C3 hrd hb8 hb07
    go_loopw [9] (fun i wr => Hid (Below w8.heap.size w8 wr) ∧ ∃ k : Nat, k ≤ k0 ∧ i = .int .i64 (k : Nat)) (fun i _ => n - (intOf i).toNat)
    case atStart => exact ⟨Below.refl _ _, 0, Nat.zero_le _, rfl⟩
    case round =>
      obtain ⟨hbw, k, hk, rfl⟩ := hrel
      have hlt : k < n := by omega
      have hkc : k < l.length := by have := HL.out; omega
      obtain ⟨cb, off, rfl, y0, y1⟩ := code_at (HRL.out _ (chain HB8.out hbw.out)) hkc
      have hlt' : (k : Int) < (n : Int) := by omega
      by_cases hkk : k < k0
      · have hR := right_of (HBEF.out l[k] (by
          rw [List.mem_take_iff_getElem]
          exact ⟨k, by omega, rfl⟩))
        have hll := HL.out
        rw [hll] at hR
        generalize l[k] = xx at y0 y1 hR
        obtain ⟨op, xn⟩ := xx
        simp only [] at y0 y1 hR
        clear hll
        have HBN := hide (chain hbw.out (alloc_below wr (.cells #[.int .i64 op, .int .i64 xn] 39)))
        unfold Right at hR
        have hnc : ((n + 2 : Nat) : Int) = 2 + (n : Int) := by omega
        rw [hnc] at hR
        clear hnc
        rcases hR with hq | ⟨hq, hn1, hn2⟩ | ⟨hq, hn1, hn2⟩ | ⟨hq, hn1⟩ | ⟨⟨g1, g2⟩, ⟨z1, z5, z6, z14, z15, z16⟩, hn1⟩
        · subst hq
          go_wp2
          go_roundw
          case rel => exact ⟨HBN, k + 1, by omega, by go_num⟩
          case measure => simp [intOf]; omega
        · subst hq
          have hn1' : ¬ xn < 0 := by omega
          have hn2' : ¬ ((2 : Int) + (n : Int) ≤ xn) := by omega
          have hn3' : xn < (2 : Int) + (n : Int) := by omega
          clear hn1 hn2
          go_wp2
          go_roundw
          case rel => exact ⟨HBN, k + 1, by omega, by go_num⟩
          case measure => simp [intOf]; omega
        · subst hq
          have hn1' : ¬ xn < 0 := by omega
          have hn2' : ¬ ((2 : Int) + (n : Int) ≤ xn) := by omega
          have hn3' : xn < (2 : Int) + (n : Int) := by omega
          clear hn1 hn2
          go_wp2
          go_roundw
          case rel => exact ⟨HBN, k + 1, by omega, by go_num⟩
          case measure => simp [intOf]; omega
        · subst hq
          subst hn1
          go_wp2
          go_roundw
          case rel => exact ⟨HBN, k + 1, by omega, by go_num⟩
          case measure => simp [intOf]; omega
        · subst hn1
          have y1 : (op == 1) = false := by simp; omega
          have y5 : (op == 5) = false := by simp; omega
          have y6 : (op == 6) = false := by simp; omega
          have y14 : (op == 14) = false := by simp; omega
          have y15 : (op == 15) = false := by simp; omega
          have y16 : (op == 16) = false := by simp; omega
          have g1' : ¬ op < 1 := by omega
          have g2' : ¬ 19 < op := by omega
          clear z1 z5 z6 z14 z15 z16 g1 g2
          go_wp2
          go_roundw
          case rel => exact ⟨HBN, k + 1, by omega, by go_num⟩
          case measure => simp [intOf]; omega
      · have hkq : k = k0 := by omega
        subst hkq
        have hxe : l[k] = x0 := by
          have := HX0.out
          rw [List.getElem?_eq_getElem hkc] at this
          exact Option.some.inj this
        rw [hxe] at y0 y1
        have hW := HW.out
        have hll := HL.out
        rw [hll] at hW
        obtain ⟨op, xn⟩ := x0
        simp only [] at y0 y1 hW
        have hnc : ((n + 2 : Nat) : Int) = 2 + (n : Int) := by omega
        rw [hnc] at hW
        have qk : wrap64 ((k : Int) + 2) = (k : Int) + 2 := IntWalk.wrap64_in _ (by omega)
        have HBN := hide (chain (chain HB8.out hbw.out) (alloc_below wr (.cells #[.int .i64 op, .int .i64 xn] 39)))
        clear hnc hll hxe HX0 HBEF HW hkk
        rcases hW with ⟨g1, rfl⟩ | ⟨g1, rfl⟩ | ⟨⟨g1, g2⟩, ⟨z1, z5, z6, z14, z15, z16⟩, hn1, rfl⟩ | ⟨rfl, rfl⟩ | ⟨rfl, rfl⟩ | ⟨rfl, hn1, rfl⟩ | ⟨rfl, hn1, hn2, rfl⟩ | ⟨rfl, hn1, rfl⟩ | ⟨rfl, hn1, hn2, rfl⟩ | ⟨rfl, hn1, rfl⟩
        · go_wp2_with (first
            | (go_at_call 13; go_must (with_reducible refine (NM _ _).mono ?_; (rintro e w10 ⟨rfl, hw10⟩); replace hw10 := hw10.symm; subst hw10)))
          go_ret
          exact ⟨rfl, HBN.out⟩
        · have g1' : ¬ op < 1 := by omega
          go_wp2_with (first
            | (go_at_call 13; go_must (with_reducible refine (NM _ _).mono ?_; (rintro e w10 ⟨rfl, hw10⟩); replace hw10 := hw10.symm; subst hw10)))
          go_ret
          exact ⟨rfl, HBN.out⟩
        · have y1 : (op == 1) = false := by simp; omega
          have y5 : (op == 5) = false := by simp; omega
          have y6 : (op == 6) = false := by simp; omega
          have y14 : (op == 14) = false := by simp; omega
          have y15 : (op == 15) = false := by simp; omega
          have y16 : (op == 16) = false := by simp; omega
          have g1' : ¬ op < 1 := by omega
          have g2' : ¬ 19 < op := by omega
          have hn1' : (xn != 0) = true := by simp; exact hn1
          clear z1 z5 z6 z14 z15 z16 g1 g2 hn1
          go_wp2_with (first
            | (go_at_call 13; go_must (with_reducible refine (NM _ _).mono ?_; (rintro e w10 ⟨rfl, hw10⟩); replace hw10 := hw10.symm; subst hw10)))
          go_ret
          exact ⟨rfl, HBN.out⟩
        · go_wp2_with (first
            | (go_at_call 13; go_must (with_reducible refine (NM _ _).mono ?_; (rintro e w10 ⟨rfl, hw10⟩); replace hw10 := hw10.symm; subst hw10)))
          go_ret
          exact ⟨rfl, HBN.out⟩
        · go_wp2_with (first
            | (go_at_call 13; go_must (with_reducible refine (NM _ _).mono ?_; (rintro e w10 ⟨rfl, hw10⟩); replace hw10 := hw10.symm; subst hw10)))
          go_ret
          exact ⟨rfl, HBN.out⟩
        · go_wp2_with (first
            | (go_at_call 13; go_must (with_reducible refine (NM _ _).mono ?_; (rintro e w10 ⟨rfl, hw10⟩); replace hw10 := hw10.symm; subst hw10)))
          go_ret
          exact ⟨rfl, HBN.out⟩
        · have hn1' : ¬ xn < 0 := by omega
          go_wp2_with (first
            | (go_at_call 13; go_must (with_reducible refine (NM _ _).mono ?_; (rintro e w10 ⟨rfl, hw10⟩); replace hw10 := hw10.symm; subst hw10)))
          go_ret
          exact ⟨rfl, HBN.out⟩
        · go_wp2_with (first
            | (go_at_call 13; go_must (with_reducible refine (NM _ _).mono ?_; (rintro e w10 ⟨rfl, hw10⟩); replace hw10 := hw10.symm; subst hw10)))
          go_ret
          exact ⟨rfl, HBN.out⟩
        · have hn1' : ¬ xn < 0 := by omega
          go_wp2_with (first
            | (go_at_call 13; go_must (with_reducible refine (NM _ _).mono ?_; (rintro e w10 ⟨rfl, hw10⟩); replace hw10 := hw10.symm; subst hw10)))
          go_ret
          exact ⟨rfl, HBN.out⟩
        · have hn1' : (xn != 0) = true := by simp; exact hn1
          clear hn1
          go_wp2_with (first
            | (go_at_call 13; go_must (with_reducible refine (NM _ _).mono ?_; (rintro e w10 ⟨rfl, hw10⟩); replace hw10 := hw10.symm; subst hw10)))
          go_ret
          exact ⟨rfl, HBN.out⟩
end Go.Proofs.YtfdgkeljnmamiaaDoor
