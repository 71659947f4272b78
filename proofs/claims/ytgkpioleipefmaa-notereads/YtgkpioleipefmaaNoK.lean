/- pack.List, at ints and at members. -/
import Derived.Test.YtgkpioleipefmaaNoL
namespace Go.Proofs.Ytgkpioleipefmaa
open Go.RowKit Go.ChangeShapes Go.WideShapes Go.ChangeAt Go.Deep

def lenV : Value → Nat
  | .slice _ l _ => l
  | _ => 0
theorem rdMany_go (k : Nat) (bs : List Nat) : rdMany (k + 1) (bs, false) = ((rdInt bs false).1 :: (rdMany k (rdInt bs false).2).1, (rdMany k (rdInt bs false).2).2) := by simp [rdMany]
theorem rdMany_end (k : Nat) (bs : List Nat) : rdMany k (bs, true) = ([], bs, true) := by cases k <;> simp [rdMany]
theorem rdMem_go (k : Nat) (bs : List Nat) : rdMem (k + 1) (bs, false) = (((rdInt bs false).1, (rdInt (rdInt bs false).2.1 (rdInt bs false).2.2).1) :: (rdMem k (rdInt (rdInt bs false).2.1 (rdInt bs false).2.2).2).1, (rdMem k (rdInt (rdInt bs false).2.1 (rdInt bs false).2.2).2).2) := by simp [rdMem]
theorem rdMem_end (k : Nat) (bs : List Nat) : rdMem k (bs, true) = ([], bs, true) := by cases k <;> simp [rdMem]
theorem own_keepc {w w' : World} {B t sz n c : Nat} {v : Value} {xs : List Value} (h : w.ownsRow B t sz v n xs) (hg : w.grownBy w' (some c)) (hc : c < B) : w'.ownsRow B t sz v n xs :=
  h.kept hg (by
    cases hv : v.ownBlock with
    | none => exact .inl rfl
    | some k => exact .inr (fun e => by simp at e; subst e; have := (h.lt k hv).1; omega))
theorem cur_own {w w' : World} {B T c B' t sz n : Nat} {bs : List Nat} {bad : Bool} {v : Value} {xs : List Value} (h : Cur w B T c bs bad) (ho : w.ownsRow B' t sz v n xs) (hg : w.grownBy w' v.ownBlock) (hT : T ≤ B') : Cur w' B T c bs bad :=
  h.keep hg.size (fun k _ hk => hg.block k (by have := h.hi.1; omega) (fun e => by have := (ho.lt k e.symm).1; omega))
theorem grown_own {w X w' : World} {c B t sz n : Nat} {v : Value} {xs : List Value} (h : w.grownBy X (some c)) (ho : X.ownsRow B t sz v n xs) (hg : X.grownBy w' v.ownBlock) (hB : w.heap.size ≤ B) : w.grownBy w' (some c) :=
  ⟨hg.os.trans h.os, hg.tape.trans h.tape, hg.output.trans h.output, Nat.le_trans h.size hg.size, fun k hk hr => (hg.block k (Nat.lt_of_lt_of_le hk h.size) (fun e => by have := (ho.lt k e.symm).1; omega)).trans (h.block k hk hr)⟩

def listIPost (B T c : Nat) (s : List Nat × Bool) (w : World) (e : Ending) (w' : World) : Prop :=
  ∃ v, e = .returned v ∧ w'.ownsRow w.heap.size 3 1 v (rdLi s).1.length (iV (rdLi s).1) ∧ Cur w' B T c (rdLi s).2.1 (rdLi s).2.2 ∧ w.grownBy w' (some c)
set_option maxRecDepth 100000 in
set_option maxHeartbeats 8000000 in
theorem listI_any (B T c : Nat) (bs : List Nat) (bad : Bool) (w : World) (h : Cur w B T c bs bad) (hlen : bs.length ≤ 1000000) :
    Calls Try.prog 50 #[.pointer (some ⟨c, 0, none⟩), .func (.func 48) #[.pointer (some ⟨c, 0, none⟩)] #[]] w (listIPost B T c (bs, bad) w) := by
  have hT := h.hi
  have hcl := rdCnt_le bs bad
  have hcn := rdCnt_len bs bad
  have KC := hide (count_any B T c bs bad w h)
  have HRL := hide (show rdLi (bs, bad) = if (rdMany (rdCnt bs bad).1 (rdCnt bs bad).2).2.2 = true then ([], (rdMany (rdCnt bs bad).1 (rdCnt bs bad).2).2) else rdMany (rdCnt bs bad).1 (rdCnt bs bad).2 from rfl)
  obtain ⟨⟨n, r0, b0⟩, e0⟩ : ∃ z, rdCnt bs bad = z := ⟨_, rfl⟩
  rw [e0] at KC HRL hcl hcn
  simp only at hcl hcn
  clear e0
  have hn : n ≤ 1000000 := by omega
  have KI := hide (fun W x y hW => curInt_any B T c x y W hW)
  unfold listIPost
  generalize rdLi (bs, bad) = R at HRL ⊢
  have HT := hide hT.1
  have hct := hT.2
  have HCT := hide (show c < w.heap.size by omega)
  clear hcl hcn hT h
  go_enter Try.func50, Try.ntmps50
  go_wp2_with (go_at_call 59; go_must ((with_reducible refine KC.out.mono ?_); rintro e w1 ⟨rfl, hC1, hg1⟩))
  have HG1 := hide hg1
  have HC1 := hide hC1
  clear hg1 hC1
  go_loopw [6] (fun v wr => Hid (w.grownBy wr (some c)) ∧ ∃ (l : List Int) (bs' : List Nat) (bad' : Bool), l.length ≤ n ∧ Hid (wr.ownsRow w.heap.size 3 1 v l.length (iV l)) ∧ Hid (Cur wr B T c bs' bad') ∧ Hid (rdMany n (r0, b0) = (l ++ (rdMany (n - l.length) (bs', bad')).1, (rdMany (n - l.length) (bs', bad')).2))) (fun v _ => n - lenV v)
  case atStart => exact ⟨HG1, [], r0, b0, Nat.zero_le _, hide (World.ownsRow_nil _ _ _ _), HC1, hide (by simp)⟩
  case round =>
    obtain ⟨hG, l, bs', bad', hl, hO, hC, hR⟩ := hrel
    have hO' := hO.out
    obtain ⟨a6, c6, rfl⟩ := own_open hO'
    obtain ⟨m, hm⟩ : ∃ m, m = l.length := ⟨_, rfl⟩
    rw [← hm] at hl hO hR hO'
    rw [← hm]
    have HM := hide hm
    clear hm
    have kb := hC.out.bad
    by_cases hlt : m < n
    · have hlt' : (m : Int) < (n : Int) := by omega
      cases bad' with
      | false =>
        obtain ⟨k, hk⟩ : ∃ k, n - m = k + 1 := ⟨n - m - 1, by omega⟩
        have HK := hide hk
        have CI := hide (KI.out wr bs' false hC.out)
        rw [HK.out, rdMany_go] at hR
        obtain ⟨⟨x1, r1, b1⟩, e1⟩ : ∃ z, rdInt bs' false = z := ⟨_, rfl⟩
        rw [e1] at CI hR
        clear e1
        clear kb
        have kb := hC.out.bad
        clear hO' hk
        go_wp2_with (first
          | (go_at_call 60; go_must ((with_reducible refine (bad_any c false _ kb).mono ?_); rintro e w2 ⟨rfl, rfl⟩))
          | (go_at_call 48; go_must ((with_reducible refine CI.out.mono ?_); rintro e w3 ⟨rfl, hC3, hg3⟩; have HO3 := hide (own_keepc hO.out hg3 HCT.out); have HG3 := hide (grown_trans hG.out hg3); have HO3' := hide (HO3.out.alloc (.cells #[.int .i64 x1] 3)); have HSZ := hide HG3.out.size))
          | (at_builtin; go_must (refine append_i rfl (.tmp 20) (.tmp 23) rfl w.heap.size (.slice a6 m c6) m l rfl HO3'.out (some ⟨w3.heap.size, 0, none⟩) 1 1 [x1] rfl (fun h => by cases h) rfl (reads_new w3 (iV [x1]) 3) (by omega) (by have := HSZ.out; simp; omega) ?_; intro v' w' ho hg; have HG4 := hide (grown_own (grown_below HG3.out (below_new w3 _)) HO3'.out hg (Nat.le_refl _)); have HC4 := hide (cur_own (hC3.below (below_new w3 _)) HO3'.out hg HT.out); have HO4 := hide ho)))
        go_roundw
        case rel => exact ⟨HG4, l ++ [x1], r1, b1, by simp; have := HM.out; omega, hide (by simpa [← HM.out] using HO4.out), HC4, hide (by
          rw [hR.out]
          have e : n - (l ++ [x1]).length = k := by have := HM.out; have := HK.out; simp; omega
          rw [e]; simp)⟩
        case measure =>
          obtain ⟨a7, c7, rfl⟩ := own_open HO4.out
          simp only [lenV]; omega
      | true =>
        have HF := hide (show rdMany n (r0, b0) = (l, bs', true) by rw [hR.out, rdMany_end]; simp)
        have HRR := hide (show R = ([], bs', true) by rw [HRL.out, HF.out]; rfl)
        clear hR HF HRL
        go_wp2_with (go_at_call 60; go_must (first | ((with_reducible refine (bad_any c true _ kb).mono ?_); rintro e w2 ⟨rfl, rfl⟩)))
        go_ret
        exact ⟨_, rfl, by rw [HRR.out]; exact World.ownsRow_nil _ _ _ _, by rw [HRR.out]; exact hC.out, hG.out⟩
    · have hlt' : ¬ (m : Int) < (n : Int) := by omega
      have e : n - m = 0 := by omega
      have HF := hide (show rdMany n (r0, b0) = (l, bs', bad') by rw [hR.out, e]; simp [rdMany])
      cases bad' with
      | false =>
        have HRR := hide (show R = (l, bs', false) by rw [HRL.out, HF.out]; rfl)
        clear hR HF HRL e
        go_wp2_with (go_at_call 60; go_must ((with_reducible refine (bad_any c false _ kb).mono ?_); rintro e w2 ⟨rfl, rfl⟩))
        go_ret
        exact ⟨_, rfl, by rw [HRR.out]; show _; rw [← HM.out]; exact hO.out, by rw [HRR.out]; exact hC.out, hG.out⟩
      | true =>
        have HRR := hide (show R = ([], bs', true) by rw [HRL.out, HF.out]; rfl)
        clear hR HF HRL e
        go_wp2_with (go_at_call 60; go_must ((with_reducible refine (bad_any c true _ kb).mono ?_); rintro e w2 ⟨rfl, rfl⟩))
        go_ret
        exact ⟨_, rfl, by rw [HRR.out]; exact World.ownsRow_nil _ _ _ _, by rw [HRR.out]; exact hC.out, hG.out⟩

def listMPost (B T c : Nat) (s : List Nat × Bool) (w : World) (e : Ending) (w' : World) : Prop :=
  ∃ v, e = .returned v ∧ w'.ownsRow w.heap.size 50 2 v (rdLm s).1.length (mV (rdLm s).1) ∧ Cur w' B T c (rdLm s).2.1 (rdLm s).2.2 ∧ w.grownBy w' (some c)
set_option maxRecDepth 100000 in
set_option maxHeartbeats 8000000 in
theorem listM_any (B T c : Nat) (bs : List Nat) (bad : Bool) (w : World) (h : Cur w B T c bs bad) (hlen : bs.length ≤ 1000000) :
    Calls Try.prog 61 #[.pointer (some ⟨c, 0, none⟩), .func (.func 62) #[.agg #[.pointer (some ⟨c, 0, none⟩)]] #[]] w (listMPost B T c (bs, bad) w) := by
  have hT := h.hi
  have hcl := rdCnt_le bs bad
  have hcn := rdCnt_len bs bad
  have KC := hide (count_any B T c bs bad w h)
  have HRL := hide (show rdLm (bs, bad) = if (rdMem (rdCnt bs bad).1 (rdCnt bs bad).2).2.2 = true then ([], (rdMem (rdCnt bs bad).1 (rdCnt bs bad).2).2) else rdMem (rdCnt bs bad).1 (rdCnt bs bad).2 from rfl)
  obtain ⟨⟨n, r0, b0⟩, e0⟩ : ∃ z, rdCnt bs bad = z := ⟨_, rfl⟩
  rw [e0] at KC HRL hcl hcn
  simp only at hcl hcn
  clear e0
  have hn : n ≤ 1000000 := by omega
  have KI := hide (fun W x y hW => member_any B T c x y W hW)
  unfold listMPost
  generalize rdLm (bs, bad) = R at HRL ⊢
  have HT := hide hT.1
  have hct := hT.2
  have HCT := hide (show c < w.heap.size by omega)
  clear hcl hcn hT h
  go_enter Try.func61, Try.ntmps61
  go_wp2_with (go_at_call 59; go_must ((with_reducible refine KC.out.mono ?_); rintro e w1 ⟨rfl, hC1, hg1⟩))
  have HG1 := hide hg1
  have HC1 := hide hC1
  clear hg1 hC1
  go_loopw [6] (fun v wr => Hid (w.grownBy wr (some c)) ∧ ∃ (l : List (Int × Int)) (bs' : List Nat) (bad' : Bool), l.length ≤ n ∧ Hid (wr.ownsRow w.heap.size 50 2 v l.length (mV l)) ∧ Hid (Cur wr B T c bs' bad') ∧ Hid (rdMem n (r0, b0) = (l ++ (rdMem (n - l.length) (bs', bad')).1, (rdMem (n - l.length) (bs', bad')).2))) (fun v _ => n - lenV v)
  case atStart => exact ⟨HG1, [], r0, b0, Nat.zero_le _, hide (World.ownsRow_nil _ _ _ _), HC1, hide (by simp)⟩
  case round =>
    obtain ⟨hG, l, bs', bad', hl, hO, hC, hR⟩ := hrel
    have hO' := hO.out
    obtain ⟨a6, c6, rfl⟩ := own_open hO'
    obtain ⟨m, hm⟩ : ∃ m, m = l.length := ⟨_, rfl⟩
    rw [← hm] at hl hO hR hO'
    rw [← hm]
    have HM := hide hm
    clear hm
    have kb := hC.out.bad
    by_cases hlt : m < n
    · have hlt' : (m : Int) < (n : Int) := by omega
      cases bad' with
      | false =>
        obtain ⟨k, hk⟩ : ∃ k, n - m = k + 1 := ⟨n - m - 1, by omega⟩
        have HK := hide hk
        have CI := hide (KI.out wr bs' false hC.out)
        rw [HK.out, rdMem_go] at hR
        unfold MemPost at CI
        obtain ⟨⟨x0, r0', b0'⟩, e1⟩ : ∃ z, rdInt bs' false = z := ⟨_, rfl⟩
        rw [e1] at CI hR
        obtain ⟨⟨x1, r1, b1⟩, e2⟩ : ∃ z, rdInt r0' b0' = z := ⟨_, rfl⟩
        simp only [e2] at CI hR
        clear e1 e2
        clear kb
        have kb := hC.out.bad
        clear hO' hk
        go_wp2_with (first
          | (go_at_call 60; go_must ((with_reducible refine (bad_any c false _ kb).mono ?_); rintro e w2 ⟨rfl, rfl⟩))
          | (go_at_call 62; go_must ((with_reducible refine CI.out.mono ?_); rintro e w3 ⟨rfl, hC3, hg3⟩; have HO3 := hide (own_keepc hO.out hg3 HCT.out); have HG3 := hide (grown_trans hG.out hg3); have HO3' := hide (HO3.out.alloc (.cells #[.int .i64 x0, .int .i64 x1] 50)); have HSZ := hide HG3.out.size))
          | (at_builtin; go_must (refine append_m rfl (.tmp 20) (.tmp 23) rfl w.heap.size (.slice a6 m c6) m l rfl HO3'.out (some ⟨w3.heap.size, 0, none⟩) 1 1 [(x0, x1)] rfl (fun h => by cases h) rfl (reads_new w3 (mV [(x0, x1)]) 50) (by omega) (by have := HSZ.out; simp; omega) ?_; intro v' w' ho hg; have HG4 := hide (grown_own (grown_below HG3.out (below_new w3 _)) HO3'.out hg (Nat.le_refl _)); have HC4 := hide (cur_own (hC3.below (below_new w3 _)) HO3'.out hg HT.out); have HO4 := hide ho)))
        go_roundw
        case rel => exact ⟨HG4, l ++ [(x0, x1)], r1, b1, by simp; have := HM.out; omega, hide (by simpa [← HM.out] using HO4.out), HC4, hide (by
          rw [hR.out]
          have e : n - (l ++ [(x0, x1)]).length = k := by have := HM.out; have := HK.out; simp; omega
          rw [e]; simp)⟩
        case measure =>
          obtain ⟨a7, c7, rfl⟩ := own_open HO4.out
          simp only [lenV]; omega
      | true =>
        have HF := hide (show rdMem n (r0, b0) = (l, bs', true) by rw [hR.out, rdMem_end]; simp)
        have HRR := hide (show R = ([], bs', true) by rw [HRL.out, HF.out]; rfl)
        clear hR HF HRL
        go_wp2_with (go_at_call 60; go_must (first | ((with_reducible refine (bad_any c true _ kb).mono ?_); rintro e w2 ⟨rfl, rfl⟩)))
        go_ret
        exact ⟨_, rfl, by rw [HRR.out]; exact World.ownsRow_nil _ _ _ _, by rw [HRR.out]; exact hC.out, hG.out⟩
    · have hlt' : ¬ (m : Int) < (n : Int) := by omega
      have e : n - m = 0 := by omega
      have HF := hide (show rdMem n (r0, b0) = (l, bs', bad') by rw [hR.out, e]; simp [rdMem])
      cases bad' with
      | false =>
        have HRR := hide (show R = (l, bs', false) by rw [HRL.out, HF.out]; rfl)
        clear hR HF HRL e
        go_wp2_with (go_at_call 60; go_must ((with_reducible refine (bad_any c false _ kb).mono ?_); rintro e w2 ⟨rfl, rfl⟩))
        go_ret
        exact ⟨_, rfl, by rw [HRR.out]; show _; rw [← HM.out]; exact hO.out, by rw [HRR.out]; exact hC.out, hG.out⟩
      | true =>
        have HRR := hide (show R = ([], bs', true) by rw [HRL.out, HF.out]; rfl)
        clear hR HF HRL e
        go_wp2_with (go_at_call 60; go_must ((with_reducible refine (bad_any c true _ kb).mono ?_); rintro e w2 ⟨rfl, rfl⟩))
        go_ret
        exact ⟨_, rfl, by rw [HRR.out]; exact World.ownsRow_nil _ _ _ _, by rw [HRR.out]; exact hC.out, hG.out⟩

end Go.Proofs.Ytgkpioleipefmaa
