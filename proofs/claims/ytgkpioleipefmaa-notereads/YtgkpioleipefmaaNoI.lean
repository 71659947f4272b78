/- reader.note. -/
import Derived.Test.YtgkpioleipefmaaNoN
namespace Go.Proofs.Ytgkpioleipefmaa
open Go.RowKit Go.ChangeShapes Go.WideShapes Go.ChangeAt Go.Deep

/-- What note answers. -/
def NotePost (B T c : Nat) (x : No × List Nat × Bool) (w : World) (e : Ending) (w' : World) : Prop :=
  ∃ s av mv, e = .returned (Nv x.1 s av mv) ∧ NM w.heap.size w' x.1 s av mv ∧ Cur w' B T c x.2.1 x.2.2 ∧ w.grownBy w' (some c)
theorem NI.below {B T c : Nat} {w : World} {x : No × List Nat × Bool} {wr w2 : World} (h : NI B T c w x wr) (hb : Below wr.heap.size wr w2) : NI B T c w x w2 := by
  obtain ⟨o, bs, b⟩ := x
  exact h.adv (h.2.1.below hb) (grown_of hb) h.1.2.2.2.2
set_option maxRecDepth 100000 in
set_option maxHeartbeats 8000000 in
theorem note_any (B T c : Nat) (bs : List Nat) (w : World) (h : Cur w B T c bs false) (hlen : bs.length ≤ 20000) :
    Calls Try.prog 30 #[.agg #[.pointer (some ⟨c, 0, none⟩)]] w (NotePost B T c (rdC bs) w) := by
  have hT := h.hi
  have K1 := hide (fun W hW => curInt_any B T c bs false W hW)
  have hil := rdInt_len bs false
  have HRC := hide (show rdC bs = rdPs (partsL (rdInt bs false).1) (⟨(rdInt bs false).1, 0, 0, 0, [], 0, [], 0, 0, 0, []⟩, (rdInt bs false).2) from rfl)
  obtain ⟨⟨kd, r0, b0⟩, e0⟩ : ∃ z, rdInt bs false = z := ⟨_, rfl⟩
  rw [e0] at K1 hil HRC
  clear e0
  simp only at K1 hil HRC
  have CP := hide (fun W => parts_any kd W)
  obtain ⟨ps, hps⟩ : ∃ ps, ps = partsL kd := ⟨_, rfl⟩
  unfold PartsPost at CP
  rw [← hps] at CP HRC
  have hp8 : ∀ p ∈ ps, p < 8 := by rw [hps]; exact parts_lt kd
  have hp5 : ps.length ≤ 5 := by rw [hps]; exact (parts_len kd).1
  clear hps
  generalize rdC bs = R at HRC ⊢
  have HSt := hide (fun k hk => rdPs_step ps (⟨kd, 0, 0, 0, [], 0, [], 0, 0, 0, []⟩, r0, b0) k hk)
  obtain ⟨hx1, hx2, hx3, hx4⟩ := box2 w [.pointer (some ⟨c, 0, none⟩)] [.int .i64 0, .int .i64 0, .int .i64 0, .int .i64 0, .string ⟨#[]⟩, .int .i64 0, .slice none 0 0, .int .i64 0, .int .i64 0, .int .i64 0, .slice none 0 0] 65 31
  obtain ⟨V, hV⟩ : ∃ V, V = (w.alloc (.cells #[.pointer (some ⟨c, 0, none⟩)] 65)).alloc (.cells #[.int .i64 0, .int .i64 0, .int .i64 0, .int .i64 0, .string ⟨#[]⟩, .int .i64 0, .slice none 0 0, .int .i64 0, .int .i64 0, .int .i64 0, .slice none 0 0] 31) := ⟨_, rfl⟩
  have HI0 := hide (show NI B T c w (no0, bs, false) V by
    rw [hV]
    exact ⟨⟨grown_of hx3, by omega, hT.1, Nat.le_of_eq hx4.symm, hlen⟩, h.below hx3, hx1, ⟨#[]⟩, none, 0, 0, none, 0, 0, hx2, rfl, (by show (0 : Nat) ≤ 20000; omega), (by show (0 : Nat) ≤ 20000; omega), (by show (0 : Nat) ≤ 20000; omega), RowV.nil _ _, RowV.nil _ _⟩)
  have HC0 := hide (show Cur V B T c bs false by rw [hV]; exact h.below hx3)
  have HS0 := hide (show w.heap.size + 2 ≤ V.heap.size by rw [hV]; exact Nat.le_of_eq hx4.symm)
  have HV := hide hV
  have hcw : c < w.heap.size := by omega
  clear hx1 hx2 hx3 hx4 hV h
  go_enter Try.func30, Try.ntmps30
  go_wp2_with (first
    | (go_at_call 48; go_must (rw [← HV.out]; (with_reducible refine (K1.out V HC0.out).mono ?_); rintro e w1 ⟨rfl, hC1, hg1⟩; have HI1 := hide (NI.adv HI0.out hC1 hg1 (by omega)); obtain ⟨-, -, -, s1, aa1, al1, ac1, ma1, ml1, mc1, y1, -⟩ := HI1.out; obtain ⟨d0, -⟩ := (show BoxL w1 (w.heap.size + 1) [.int .i64 0, .int .i64 0, .int .i64 0, .int .i64 0, .string s1, .int .i64 0, .slice aa1 al1 ac1, .int .i64 0, .int .i64 0, .int .i64 0, .slice ma1 ml1 mc1] from y1).c11; obtain ⟨f0, -⟩ := (show BoxL w1 (w.heap.size + 1) [.int .i64 0, .int .i64 0, .int .i64 0, .int .i64 0, .string s1, .int .i64 0, .slice aa1 al1 ac1, .int .i64 0, .int .i64 0, .int .i64 0, .slice ma1 ml1 mc1] from y1).f11; have HI1k := hide (HI1.out.kind kd); have HSZ1 := hide (show w.heap.size + 2 ≤ (w1.setCell ⟨w.heap.size + 1, 0, none⟩ (.int .i64 kd)).heap.size from HI1k.out.1.2.2.2.1); clear y1))
    | (go_at_call 23; go_must ((with_reducible refine (CP.out _).mono ?_); rintro e w2 ⟨v2, rfl, hrow2, hb2⟩; have HI2 := hide (HI1k.out.below hb2); have HP2 := hide (hrow2.mono HSZ1.out); obtain ⟨pa, pl, pc, rfl, hpl, -⟩ := hrow2)))
  have hpl' := hpl.out
  clear hpl
  have hpl5 : pl ≤ 5 := by omega
  go_loopw [13] (fun i wr => Hid (w.grownBy wr (some c)) ∧ ∃ (k : Nat), k ≤ pl ∧ i = .int .i64 (k : Nat) ∧ Hid (NI B T c w (rdPs (ps.take k) (⟨kd, 0, 0, 0, [], 0, [], 0, 0, 0, []⟩, r0, b0)) wr) ∧ Hid (RowV (w.heap.size + 2) wr (.slice pa pl pc) ps.length (pV ps))) (fun i _ => pl - (intOf i).toNat)
  case atStart => exact ⟨hide HI2.out.1.1, 0, Nat.zero_le _, rfl, HI2, HP2⟩
  case round =>
    obtain ⟨hG, k, hk, rfl, HI, hrp⟩ := hrel
    by_cases hlt : k < pl
    · have hkc : k < ps.length := by omega
      have hrp' := hrp.out
      obtain ⟨pa', pl', pc', ep, -, -, -, hrd, -⟩ := hrp'
      simp only [Value.slice.injEq] at ep
      obtain ⟨rfl, rfl, rfl⟩ := ep
      obtain ⟨cb, off, har, y0⟩ := part_at hrd hkc
      subst har
      have hq8 := hp8 ps[k] (List.getElem_mem _)
      have HN := hide (HSt.out k hkc)
      generalize ps[k] = p at y0 hq8 HN
      generalize rdPs (ps.take k) (⟨kd, 0, 0, 0, [], 0, [], 0, 0, 0, []⟩, r0, b0) = st at HI HN
      obtain ⟨⟨okind, onode, olife, oepoch, oid, ofunc, oargs, oerr, oval, ovep, omem⟩, s1, b1⟩ := st
      have hI := HI.out
      obtain ⟨⟨-, -, -, hwr, hs1⟩, hC, hX, -⟩ := hI
      simp only at hs1 hC
      have q0 := hX.c1
      have hlt' : (k : Int) < (pl : Int) := by omega
      clear HSt hX hrd
      rcases (by omega : p = 0 ∨ p = 1 ∨ p = 2 ∨ p = 3 ∨ p = 4 ∨ p = 5 ∨ p = 6 ∨ p = 7) with rfl | rfl | rfl | rfl | rfl | rfl | rfl | rfl

      · replace y0 : wr.cell? ⟨cb, off + k, none⟩ = some (.int .i64 0) := y0
        clear hq8
        have K := hide (curInt_any B T c s1 b1 wr hC)
        have hln := rdInt_len s1 b1
        obtain ⟨⟨x1, r1, c1⟩, e1⟩ : ∃ z, rdInt s1 b1 = z := ⟨_, rfl⟩
        simp only [rdPart, e1] at HN
        rw [e1] at K hln
        clear e1
        simp only at K hln
        go_wp2_with (go_at_call 48; go_must ((with_reducible refine K.out.mono ?_); rintro e w2 ⟨rfl, hC2, hg2⟩; have HI2 := hide (NI.adv HI.out hC2 hg2 (by omega)); obtain ⟨-, -, -, os2, oaa2, oal2, oac2, oma2, oml2, omc2, y2, -⟩ := HI2.out; obtain ⟨-, d1, -⟩ := (show BoxL w2 (w.heap.size + 1) [.int .i64 okind, .int .i64 onode, .int .i64 olife, .int .i64 oepoch, .string os2, .int .i64 ofunc, .slice oaa2 oal2 oac2, .int .i64 oerr, .int .i64 oval, .int .i64 ovep, .slice oma2 oml2 omc2] from y2).c11; obtain ⟨-, f1, -⟩ := (show BoxL w2 (w.heap.size + 1) [.int .i64 okind, .int .i64 onode, .int .i64 olife, .int .i64 oepoch, .string os2, .int .i64 ofunc, .slice oaa2 oal2 oac2, .int .i64 oerr, .int .i64 oval, .int .i64 ovep, .slice oma2 oml2 omc2] from y2).f11; clear y2; have HP2 := hide (hrp.out.keep (keep_grown hcw hg2)); have HIF := hide (HI2.out.node x1); have HPF := hide (HP2.out.keep (keep_put (w := w) (o := 1) (v := .int .i64 x1)))))
        go_roundw
        case rel => exact ⟨hide HIF.out.1.1, k + 1, by omega, by go_num, by rw [HN.out]; exact HIF, HPF⟩
        case measure => simp [intOf]; omega
      · replace y0 : wr.cell? ⟨cb, off + k, none⟩ = some (.int .i64 1) := y0
        clear hq8
        have K := hide (curInt_any B T c s1 b1 wr hC)
        have hln := rdInt_len s1 b1
        obtain ⟨⟨x1, r1, c1⟩, e1⟩ : ∃ z, rdInt s1 b1 = z := ⟨_, rfl⟩
        simp only [rdPart, e1] at HN
        rw [e1] at K hln
        clear e1
        simp only at K hln
        go_wp2_with (go_at_call 48; go_must ((with_reducible refine K.out.mono ?_); rintro e w2 ⟨rfl, hC2, hg2⟩; have HI2 := hide (NI.adv HI.out hC2 hg2 (by omega)); obtain ⟨-, -, -, os2, oaa2, oal2, oac2, oma2, oml2, omc2, y2, -⟩ := HI2.out; obtain ⟨-, -, d2, -⟩ := (show BoxL w2 (w.heap.size + 1) [.int .i64 okind, .int .i64 onode, .int .i64 olife, .int .i64 oepoch, .string os2, .int .i64 ofunc, .slice oaa2 oal2 oac2, .int .i64 oerr, .int .i64 oval, .int .i64 ovep, .slice oma2 oml2 omc2] from y2).c11; obtain ⟨-, -, f2, -⟩ := (show BoxL w2 (w.heap.size + 1) [.int .i64 okind, .int .i64 onode, .int .i64 olife, .int .i64 oepoch, .string os2, .int .i64 ofunc, .slice oaa2 oal2 oac2, .int .i64 oerr, .int .i64 oval, .int .i64 ovep, .slice oma2 oml2 omc2] from y2).f11; clear y2; have HP2 := hide (hrp.out.keep (keep_grown hcw hg2)); have HIF := hide (HI2.out.life x1); have HPF := hide (HP2.out.keep (keep_put (w := w) (o := 2) (v := .int .i64 x1)))))
        go_roundw
        case rel => exact ⟨hide HIF.out.1.1, k + 1, by omega, by go_num, by rw [HN.out]; exact HIF, HPF⟩
        case measure => simp [intOf]; omega
      · replace y0 : wr.cell? ⟨cb, off + k, none⟩ = some (.int .i64 2) := y0
        clear hq8
        have K := hide (curInt_any B T c s1 b1 wr hC)
        have hln := rdInt_len s1 b1
        obtain ⟨⟨x1, r1, c1⟩, e1⟩ : ∃ z, rdInt s1 b1 = z := ⟨_, rfl⟩
        simp only [rdPart, e1] at HN
        rw [e1] at K hln
        clear e1
        simp only at K hln
        go_wp2_with (go_at_call 48; go_must ((with_reducible refine K.out.mono ?_); rintro e w2 ⟨rfl, hC2, hg2⟩; have HI2 := hide (NI.adv HI.out hC2 hg2 (by omega)); obtain ⟨-, -, -, os2, oaa2, oal2, oac2, oma2, oml2, omc2, y2, -⟩ := HI2.out; obtain ⟨-, -, -, d3, -⟩ := (show BoxL w2 (w.heap.size + 1) [.int .i64 okind, .int .i64 onode, .int .i64 olife, .int .i64 oepoch, .string os2, .int .i64 ofunc, .slice oaa2 oal2 oac2, .int .i64 oerr, .int .i64 oval, .int .i64 ovep, .slice oma2 oml2 omc2] from y2).c11; obtain ⟨-, -, -, f3, -⟩ := (show BoxL w2 (w.heap.size + 1) [.int .i64 okind, .int .i64 onode, .int .i64 olife, .int .i64 oepoch, .string os2, .int .i64 ofunc, .slice oaa2 oal2 oac2, .int .i64 oerr, .int .i64 oval, .int .i64 ovep, .slice oma2 oml2 omc2] from y2).f11; clear y2; have HP2 := hide (hrp.out.keep (keep_grown hcw hg2)); have HIF := hide (HI2.out.epoch x1); have HPF := hide (HP2.out.keep (keep_put (w := w) (o := 3) (v := .int .i64 x1)))))
        go_roundw
        case rel => exact ⟨hide HIF.out.1.1, k + 1, by omega, by go_num, by rw [HN.out]; exact HIF, HPF⟩
        case measure => simp [intOf]; omega
      · replace y0 : wr.cell? ⟨cb, off + k, none⟩ = some (.int .i64 3) := y0
        clear hq8
        have K := hide (curBytes_any B T c s1 b1 wr hC)
        have hln := rdBytes_le s1 b1
        have hby := hC.byt
        obtain ⟨⟨x1, r1, c1⟩, e1⟩ : ∃ z, rdBytes s1 b1 = z := ⟨_, rfl⟩
        have hbx := rdBytes_byt hby e1
        simp only [rdPart, e1] at HN
        rw [e1] at K hln
        clear e1
        simp only at K hln
        go_wp2_with (go_at_call 49; go_must ((with_reducible refine K.out.mono ?_); rintro e w2 ⟨v2, rfl, ho2, hC2, hg2⟩; have HI2 := hide (NI.adv HI.out hC2 hg2 (by omega)); obtain ⟨a3, c3, m3, rfl, hm3, hr3⟩ := reads_own_any ho2; have kc := run_strT (t := 22) Try.underlying22 w2 a3 m3 c3 x1 hm3.out hr3; obtain ⟨-, -, -, os2, oaa2, oal2, oac2, oma2, oml2, omc2, y2, -⟩ := HI2.out; obtain ⟨-, -, -, -, d4, -⟩ := (show BoxL w2 (w.heap.size + 1) [.int .i64 okind, .int .i64 onode, .int .i64 olife, .int .i64 oepoch, .string os2, .int .i64 ofunc, .slice oaa2 oal2 oac2, .int .i64 oerr, .int .i64 oval, .int .i64 ovep, .slice oma2 oml2 omc2] from y2).c11; obtain ⟨-, -, -, -, f4, -⟩ := (show BoxL w2 (w.heap.size + 1) [.int .i64 okind, .int .i64 onode, .int .i64 olife, .int .i64 oepoch, .string os2, .int .i64 ofunc, .slice oaa2 oal2 oac2, .int .i64 oerr, .int .i64 oval, .int .i64 ovep, .slice oma2 oml2 omc2] from y2).f11; clear y2; have HP2 := hide (hrp.out.keep (keep_grown hcw hg2)); have HIF := hide (HI2.out.id (bstr x1) x1 (by rw [bstr_size hbx]; omega) (bstr_uN hbx)); have HPF := hide (HP2.out.keep (keep_put (w := w) (o := 4) (v := .string (bstr x1))))))
        go_roundw
        case rel => exact ⟨hide HIF.out.1.1, k + 1, by omega, by go_num, by rw [HN.out]; exact HIF, HPF⟩
        case measure => simp [intOf]; omega
      · replace y0 : wr.cell? ⟨cb, off + k, none⟩ = some (.int .i64 4) := y0
        clear hq8
        have K := hide (curInt_any B T c s1 b1 wr hC)
        have hln := rdInt_len s1 b1
        obtain ⟨⟨x1, r1, c1⟩, e1⟩ : ∃ z, rdInt s1 b1 = z := ⟨_, rfl⟩
        simp only [rdPart, e1] at HN
        rw [e1] at K hln
        clear e1
        simp only at K hln
        go_wp2_with (go_at_call 48; go_must ((with_reducible refine K.out.mono ?_); rintro e w2 ⟨rfl, hC2, hg2⟩; have HI2 := hide (NI.adv HI.out hC2 hg2 (by omega)); obtain ⟨-, -, -, os2, oaa2, oal2, oac2, oma2, oml2, omc2, y2, -⟩ := HI2.out; obtain ⟨-, -, -, -, -, d5, -⟩ := (show BoxL w2 (w.heap.size + 1) [.int .i64 okind, .int .i64 onode, .int .i64 olife, .int .i64 oepoch, .string os2, .int .i64 ofunc, .slice oaa2 oal2 oac2, .int .i64 oerr, .int .i64 oval, .int .i64 ovep, .slice oma2 oml2 omc2] from y2).c11; obtain ⟨-, -, -, -, -, f5, -⟩ := (show BoxL w2 (w.heap.size + 1) [.int .i64 okind, .int .i64 onode, .int .i64 olife, .int .i64 oepoch, .string os2, .int .i64 ofunc, .slice oaa2 oal2 oac2, .int .i64 oerr, .int .i64 oval, .int .i64 ovep, .slice oma2 oml2 omc2] from y2).f11; clear y2; have HP2 := hide (hrp.out.keep (keep_grown hcw hg2)); have HIF := hide (HI2.out.func x1); have HPF := hide (HP2.out.keep (keep_put (w := w) (o := 5) (v := .int .i64 x1)))))
        go_roundw
        case rel => exact ⟨hide HIF.out.1.1, k + 1, by omega, by go_num, by rw [HN.out]; exact HIF, HPF⟩
        case measure => simp [intOf]; omega
      · replace y0 : wr.cell? ⟨cb, off + k, none⟩ = some (.int .i64 5) := y0
        clear hq8
        have K := hide (listI_any B T c s1 b1 wr hC (by omega))
        unfold listIPost at K
        have hln := rdLi_le (s1, b1)
        obtain ⟨⟨x1, r1, c1⟩, e1⟩ : ∃ z, rdLi (s1, b1) = z := ⟨_, rfl⟩
        simp only [rdPart, e1] at HN
        rw [e1] at K hln
        clear e1
        simp only at K hln
        go_wp2_with (go_at_call 50; go_must ((with_reducible refine K.out.mono ?_); rintro e w2 ⟨v2, rfl, ho2, hC2, hg2⟩; have HI2 := hide (NI.adv HI.out hC2 hg2 (by omega)); obtain ⟨a3, c3, rfl⟩ := own_open ho2; have HRW := hide ((owng_row ho2).mono hwr); obtain ⟨-, -, -, os2, oaa2, oal2, oac2, oma2, oml2, omc2, y2, -⟩ := HI2.out; obtain ⟨-, -, -, -, -, -, d6, -⟩ := (show BoxL w2 (w.heap.size + 1) [.int .i64 okind, .int .i64 onode, .int .i64 olife, .int .i64 oepoch, .string os2, .int .i64 ofunc, .slice oaa2 oal2 oac2, .int .i64 oerr, .int .i64 oval, .int .i64 ovep, .slice oma2 oml2 omc2] from y2).c11; obtain ⟨-, -, -, -, -, -, f6, -⟩ := (show BoxL w2 (w.heap.size + 1) [.int .i64 okind, .int .i64 onode, .int .i64 olife, .int .i64 oepoch, .string os2, .int .i64 ofunc, .slice oaa2 oal2 oac2, .int .i64 oerr, .int .i64 oval, .int .i64 ovep, .slice oma2 oml2 omc2] from y2).f11; clear y2; have HP2 := hide (hrp.out.keep (keep_grown hcw hg2)); have HIF := hide (HI2.out.args x1 (by omega) HRW.out); have HPF := hide (HP2.out.keep (keep_put (w := w) (o := 6) (v := .slice a3 x1.length c3)))))
        go_roundw
        case rel => exact ⟨hide HIF.out.1.1, k + 1, by omega, by go_num, by rw [HN.out]; exact HIF, HPF⟩
        case measure => simp [intOf]; omega
      · replace y0 : wr.cell? ⟨cb, off + k, none⟩ = some (.int .i64 6) := y0
        clear hq8
        have K := hide (rresult_any B T c s1 b1 wr hC)
        unfold MemPost at K
        have hln := rdInt_len s1 b1
        obtain ⟨⟨x1, r1, c1⟩, e1⟩ : ∃ z, rdInt s1 b1 = z := ⟨_, rfl⟩
        rw [e1] at K hln
        simp only [rdPart, e1] at HN
        have hln2 := rdInt_len r1 c1
        obtain ⟨⟨x2, r2, c2⟩, e2⟩ : ∃ z, rdInt r1 c1 = z := ⟨_, rfl⟩
        simp only [e2] at K hln2 HN
        clear e1 e2
        simp only at hln
        go_wp2_with (go_at_call 51; go_must ((with_reducible refine K.out.mono ?_); rintro e w2 ⟨rfl, hC2, hg2⟩; have HI2 := hide (NI.adv HI.out hC2 hg2 (by omega)); obtain ⟨-, -, -, os2, oaa2, oal2, oac2, oma2, oml2, omc2, y2, -⟩ := HI2.out; obtain ⟨-, -, -, -, -, -, -, d7, d8, -⟩ := (show BoxL w2 (w.heap.size + 1) [.int .i64 okind, .int .i64 onode, .int .i64 olife, .int .i64 oepoch, .string os2, .int .i64 ofunc, .slice oaa2 oal2 oac2, .int .i64 oerr, .int .i64 oval, .int .i64 ovep, .slice oma2 oml2 omc2] from y2).c11; obtain ⟨-, -, -, -, -, -, -, f7, f8, -⟩ := (show BoxL w2 (w.heap.size + 1) [.int .i64 okind, .int .i64 onode, .int .i64 olife, .int .i64 oepoch, .string os2, .int .i64 ofunc, .slice oaa2 oal2 oac2, .int .i64 oerr, .int .i64 oval, .int .i64 ovep, .slice oma2 oml2 omc2] from y2).f11; clear y2; have HP2 := hide (hrp.out.keep (keep_grown hcw hg2)); have HIF := hide (HI2.out.res x1 x2); have HPF := hide ((HP2.out.keep (keep_put (w := w) (o := 7) (v := .int .i64 x1))).keep (keep_put (w := w) (o := 8) (v := .int .i64 x2)))))
        go_roundw
        case rel => exact ⟨hide HIF.out.1.1, k + 1, by omega, by go_num, by rw [HN.out]; exact HIF, HPF⟩
        case measure => simp [intOf]; omega
      · replace y0 : wr.cell? ⟨cb, off + k, none⟩ = some (.int .i64 7) := y0
        clear hq8
        have K := hide (view_any B T c s1 b1 wr hC (by omega))
        unfold ViewPost at K
        have hln := rdInt_len s1 b1
        obtain ⟨⟨x1, r1, c1⟩, e1⟩ : ∃ z, rdInt s1 b1 = z := ⟨_, rfl⟩
        rw [e1] at K hln
        simp only [rdPart, e1] at HN
        simp only at hln
        have hln2 := rdLm_le (r1, c1)
        obtain ⟨⟨x2, r2, c2⟩, e2⟩ : ∃ z, rdLm (r1, c1) = z := ⟨_, rfl⟩
        simp only [e2] at K hln2 HN
        clear e1 e2
        go_wp2_with (go_at_call 52; go_must ((with_reducible refine K.out.mono ?_); rintro e w2 ⟨v2, rfl, ho2, hC2, hg2⟩; have HI2 := hide (NI.adv HI.out hC2 hg2 (by omega)); obtain ⟨a3, c3, rfl⟩ := own_open ho2; have HRW := hide ((owng_row ho2).mono hwr); obtain ⟨-, -, -, os2, oaa2, oal2, oac2, oma2, oml2, omc2, y2, -⟩ := HI2.out; obtain ⟨-, -, -, -, -, -, -, -, -, d9, d10⟩ := (show BoxL w2 (w.heap.size + 1) [.int .i64 okind, .int .i64 onode, .int .i64 olife, .int .i64 oepoch, .string os2, .int .i64 ofunc, .slice oaa2 oal2 oac2, .int .i64 oerr, .int .i64 oval, .int .i64 ovep, .slice oma2 oml2 omc2] from y2).c11; obtain ⟨-, -, -, -, -, -, -, -, -, f9, f10⟩ := (show BoxL w2 (w.heap.size + 1) [.int .i64 okind, .int .i64 onode, .int .i64 olife, .int .i64 oepoch, .string os2, .int .i64 ofunc, .slice oaa2 oal2 oac2, .int .i64 oerr, .int .i64 oval, .int .i64 ovep, .slice oma2 oml2 omc2] from y2).f11; clear y2; have HP2 := hide (hrp.out.keep (keep_grown hcw hg2)); have HIF := hide (HI2.out.view x1 x2 (by omega) HRW.out); have HPF := hide ((HP2.out.keep (keep_put (w := w) (o := 9) (v := .int .i64 x1))).keep (keep_put (w := w) (o := 10) (v := .slice a3 x2.length c3)))))
        go_roundw
        case rel => exact ⟨hide HIF.out.1.1, k + 1, by omega, by go_num, by rw [HN.out]; exact HIF, HPF⟩
        case measure => simp [intOf]; omega
    · have HT := hide (show ps.take k = ps from List.take_of_length_le (by omega))
      rw [HT.out, ← HRC.out] at HI
      clear HRC HSt
      obtain ⟨⟨okind, onode, olife, oepoch, oid, ofunc, oargs, oerr, oval, ovep, omem⟩, s1, b1⟩ := R
      have hI := HI.out
      obtain ⟨⟨h1, h2, h3, h4, h5⟩, h6, h7, os, oaa, oal, oac, oma, oml, omc, h8, h9⟩ := hI
      obtain ⟨d0, d1, d2, d3, d4, d5, d6, d7, d8, d9, d10⟩ := (show BoxL wr (w.heap.size + 1) [.int .i64 okind, .int .i64 onode, .int .i64 olife, .int .i64 oepoch, .string os, .int .i64 ofunc, .slice oaa oal oac, .int .i64 oerr, .int .i64 oval, .int .i64 ovep, .slice oma oml omc] from h8).c11
      obtain ⟨u0, u1, u2, u3, u4, u5, u6, u7, u8, u9, u10⟩ := (show BoxL wr (w.heap.size + 1) [.int .i64 okind, .int .i64 onode, .int .i64 olife, .int .i64 oepoch, .string os, .int .i64 ofunc, .slice oaa oal oac, .int .i64 oerr, .int .i64 oval, .int .i64 ovep, .slice oma oml omc] from h8).f11
      go_wp2
      have HX8 := hide (put11_box (show BoxL wr (w.heap.size + 1) [.int .i64 okind, .int .i64 onode, .int .i64 olife, .int .i64 oepoch, .string os, .int .i64 ofunc, .slice oaa oal oac, .int .i64 oerr, .int .i64 oval, .int .i64 ovep, .slice oma oml omc] from h8) (.int .i64 okind) (.int .i64 onode) (.int .i64 olife) (.int .i64 oepoch) (.string os) (.int .i64 ofunc) (.slice oaa oal oac) (.int .i64 oerr) (.int .i64 oval) (.int .i64 ovep) (.slice oma oml omc))
      have HG8 := hide (put11_grown (g := w.heap.size + 1) h1 (by omega) (.int .i64 okind) (.int .i64 onode) (.int .i64 olife) (.int .i64 oepoch) (.string os) (.int .i64 ofunc) (.slice oaa oal oac) (.int .i64 oerr) (.int .i64 oval) (.int .i64 ovep) (.slice oma oml omc))
      have HN8 := hide (h9.keep (w' := put11 wr (w.heap.size + 1) (.int .i64 okind) (.int .i64 onode) (.int .i64 olife) (.int .i64 oepoch) (.string os) (.int .i64 ofunc) (.slice oaa oal oac) (.int .i64 oerr) (.int .i64 oval) (.int .i64 ovep) (.slice oma oml omc)) (fun k h1 h2 => put11_keep (by omega) (.int .i64 okind) (.int .i64 onode) (.int .i64 olife) (.int .i64 oepoch) (.string os) (.int .i64 ofunc) (.slice oaa oal oac) (.int .i64 oerr) (.int .i64 oval) (.int .i64 ovep) (.slice oma oml omc)))
      have HC8 := hide (h6.keep (w' := put11 wr (w.heap.size + 1) (.int .i64 okind) (.int .i64 onode) (.int .i64 olife) (.int .i64 oepoch) (.string os) (.int .i64 ofunc) (.slice oaa oal oac) (.int .i64 oerr) (.int .i64 oval) (.int .i64 ovep) (.slice oma oml omc)) (by simp [put11, World.setCell]) (fun k _ h2 => put11_keep (by omega) (.int .i64 okind) (.int .i64 onode) (.int .i64 olife) (.int .i64 oepoch) (.string os) (.int .i64 ofunc) (.slice oaa oal oac) (.int .i64 oerr) (.int .i64 oval) (.int .i64 ovep) (.slice oma oml omc)))
      obtain ⟨X, hX⟩ : ∃ X, X = put11 wr (w.heap.size + 1) (.int .i64 okind) (.int .i64 onode) (.int .i64 olife) (.int .i64 oepoch) (.string os) (.int .i64 ofunc) (.slice oaa oal oac) (.int .i64 oerr) (.int .i64 oval) (.int .i64 ovep) (.slice oma oml omc) := ⟨_, rfl⟩
      rw [← hX] at HX8 HG8 HN8 HC8
      unfold put11 at hX
      rw [← hX]
      clear hX
      obtain ⟨x0, x1, x2, x3, x4, x5, x6, x7, x8, x9, x10⟩ := HX8.out.c11
      refine bodyPost_ret (v := .agg #[.int .i64 okind, .int .i64 onode, .int .i64 olife, .int .i64 oepoch, .string os, .int .i64 ofunc, .slice oaa oal oac, .int .i64 oerr, .int .i64 oval, .int .i64 ovep, .slice oma oml omc]) (by simp [results, Try.results30, go_sem, x0, x1, x2, x3, x4, x5, x6, x7, x8, x9, x10]) rfl ?_
      exact ⟨os, .slice oaa oal oac, .slice oma oml omc, rfl, HN8.out.mono (by omega), HC8.out, HG8.out⟩

end Go.Proofs.Ytgkpioleipefmaa
