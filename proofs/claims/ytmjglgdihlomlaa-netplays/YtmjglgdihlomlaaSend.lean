/- (*net.Net).Send. -/
import Derived.Test.YtmjglgdihlomlaaStep
namespace Go.Proofs.Ytmjglgdihlomlaa
open Go.RowKit Go.ChangeShapes Go.WideShapes Go.ChangeAt Go.Deep

theorem wp_append_run {w w' : World} {o : Oper} {a : Act} {K : Act → World → Prop} {Q : Exit → Act → World → Prop} {v vx v' : Value} (s x : Operand)
    (ho : o.op = .call { callee := .builtin .append, args := #[s, x], argTypes := #[28, 28] }) (hs : a.eval s = v) (hx : a.eval x = vx)
    (hrun : (Builtin.append_ #[28, 28] o.type #[v, vx]).run Try.prog w = .ok v' w') (h : K (a.put o.dst v') w') : Oper.wp Try.prog o a w K Q := by
  unfold Oper.wp
  simp [execOp, ho, resolve, invoke, builtin, hs, hx, hrun, Result.andThen]
  exact h

def SendPost (D : Nat → Prop) (w : World) (cb : Nat) (L ps : List Pc) (e : Ending) (w' : World) : Prop :=
  e = .returned (.int .i64 ((min ps.length (10000 - L.length) : Nat) : Int)) ∧ NetP (Ex D w w') w' cb (L ++ ps.take (10000 - L.length)) ∧ Kp D w w'

theorem take_map_snoc {l : List Pm} {k : Nat} (h : k < l.length) : (l.map Pm.p).take (k + 1) = (l.map Pm.p).take k ++ [l[k].p] := by
  rw [List.take_succ_eq_append_getElem (by simpa using h)]; simp
/-- A round's end: the net has one parcel more. -/
theorem send_next {D : Nat → Prop} {w wr V w' w2 : World} {cb : Nat} {lr : List Pm} {y : Pm} {L ps : List Pc} {k : Nat} (hk : Kp D w wr) (hV : Below wr.heap.size wr V) (hnew : NetM (Ex (Ex D w V) V w') w2 cb (lr ++ [y])) (hkp : Kp (Ex D w V) V w2) (hs : w2.heap.size = w'.heap.size) (hL : lr.map Pm.p = L ++ ps.take k) (hy : ps.take (k + 1) = ps.take k ++ [y.p]) :
    NetP (Ex D w w2) w2 cb (L ++ ps.take (k + 1)) ∧ Kp D w w2 := by
  have hw2 : Kp D w w2 := (hk.below hV).trans' hkp (fun i hi => hi.elim .inl fun h => .inr h.1)
  refine ⟨⟨lr ++ [y], by rw [List.map_append, hL, hy]; simp, hnew.mono (fun i hi => ?_) (fun i hi => ?_)⟩, hw2⟩
  · have h1 := hkp.size
    have h2 := hV.size
    have h3 := hk.size
    rcases hi with (hi | hi) | hi
    · exact .inl hi
    · exact .inr ⟨hi.1, by omega⟩
    · exact .inr ⟨by omega, by omega⟩
  · rcases hi with hi | hi
    · exact hnew.1.2.2 i (.inl (.inl hi))
    · exact hi.2
theorem netM_ex {D : Nat → Prop} {w wr V : World} {cb : Nat} {lr : List Pm} (h : NetM (Ex D w wr) wr cb lr) (hV : Below wr.heap.size wr V) : NetM (Ex D w V) V cb lr :=
  (h.below hV).mono (fun _ hk => hk.elim .inl fun q => .inr ⟨q.1, Nat.lt_of_lt_of_le q.2 hV.size⟩) (fun k hk => hk.elim (fun q => Nat.lt_of_lt_of_le (h.1.2.2 k (.inl q)) hV.size) fun q => q.2)

set_option linter.unusedSimpArgs false in
set_option maxRecDepth 100000 in
set_option maxHeartbeats 4000000 in
theorem send_any (D A : Nat → Prop) (w : World) (cb : Nat) (L : List Pc) (aa : Option Addr) (m cc : Nat) (l : List Pm) (hN : NetP D w cb L) (hL : L.length ≤ 10000) (hA : RowP A w aa m cc l) (hAD : ∀ k, A k → ¬ D k) (hm : m ≤ 100000) (hb : ∀ x ∈ l, x.n ≤ 1000000) :
    Calls Try.prog 10 #[.pointer (some ⟨cb, 0, none⟩), .slice aa m cc] w (SendPost D w cb L (l.map Pm.p)) := by
  have HN0 := hide hN
  obtain ⟨l0, hl0, hNM⟩ := hN
  have HNM := hide (show NetM (Ex D w w) w cb l0 from hNM.mono (fun k hk => .inl hk) (fun k hk => hk.elim (hNM.1.2.2 k) fun q => q.2))
  obtain ⟨⟨hc1, hc2, hc3⟩, a, n, c, hcell, hro, -⟩ := hNM
  have hn : L.length = n := by rw [← hl0, List.length_map]; exact hro.1.1
  unfold SendPost
  obtain ⟨q, hq⟩ : ∃ q, q = min (l.map Pm.p).length (10000 - L.length) := ⟨_, rfl⟩
  obtain ⟨R, hR⟩ : ∃ R, R = L ++ (l.map Pm.p).take (10000 - L.length) := ⟨_, rfl⟩
  have hml := hA.1
  have hmc := hA.2.1
  rw [← hq, ← hR]
  have hq1 : q ≤ m := by rw [hq, List.length_map, hml]; omega
  have HQ2 := hide (show q ≤ 10000 - n by rw [hq]; omega)
  have HQ3 := hide (show q = m ∧ m ≤ 10000 - n ∨ q = 10000 - n ∧ 10000 - n ≤ m by rw [hq, List.length_map, hml, hn]; omega)
  have HR := hide (show R = L ++ (l.map Pm.p).take q by
    rw [hR]
    congr 1
    rcases HQ3.out with ⟨e1, e2⟩ | ⟨e1, e2⟩
    · rw [e1, List.take_of_length_le (by rw [List.length_map]; omega), List.take_of_length_le (by rw [List.length_map]; omega)]
    · rw [e1, hn])
  have HL := hide hn
  have HL0 := hide hl0
  have HA := hide hA
  have HB := hide hb
  have HAD := hide hAD
  have HML := hide hml
  clear hq hR hn hl0 hml hA hb hAD hro hc1 hc3
  have hn2 : n ≤ 10000 := by have := HL.out; omega
  have hq4 : q ≤ 100000 := by omega
  unfold maxLen at hmc
  go_enter Try.func10, Try.ntmps10
  go_upto_region 1 with fail
  go_cut [5] from 8 (fun v wc => w = wc ∧ v = .slice aa q cc)
  case first =>
    go_wp2_with fail
    all_goals
      have e3 := HQ3.out
      go_meet
      exact ⟨rfl, by first | (congr 1; omega) | (rcases e3 with ⟨rfl, _⟩ | ⟨rfl, _⟩ <;> first | rfl | (congr 1; omega))⟩
  case rest =>
    obtain ⟨rfl, rfl⟩ := hcut
    go_wp2
    go_loopw [21] (fun i wr => Hid (Kp D w wr) ∧ ∃ k : Nat, k ≤ q ∧ i = .int .i64 (k : Nat) ∧ Hid (NetP (Ex D w wr) wr cb (L ++ (l.map Pm.p).take k))) (fun i _ => q - (intOf i).toNat)
    case atStart => exact ⟨hide (Kp.refl _ _), 0, Nat.zero_le _, rfl, hide ⟨l0, by rw [HL0.out]; simp, HNM.out⟩⟩
    case round =>
      obtain ⟨HK, k, hk, rfl, HP⟩ := hrel
      by_cases hlt : k < q
      · have hkl : k < l.length := by have := HML.out; omega
        have HTS := hide (take_map_snoc hkl)
        have hrow := HA.out.keep (w' := wr) (fun i h1 h2 => HK.out.block i h2 (HAD.out i h1))
        obtain ⟨b, off, har, y0, y1, y2⟩ := hrow.at hkl
        subst har
        have hok := hrow.2.2.2.2.2 l[k] (List.getElem_mem _)
        have hxb := HB.out l[k] (List.getElem_mem _)
        have CK := hide (fun W (hb : Below wr.heap.size wr W) => copy_any l[k].p l[k].a l[k].n l[k].c W hok.1 (hok.2.2.2.2.1.below hb) hok.2.2.2.1 hxb)
        have HBy := hide hok.2.1
        obtain ⟨lr, hlr, hnr⟩ := HP.out
        have HLR := hide hlr
        obtain ⟨⟨⟨f, t, bs⟩, xa, xn, xc⟩, hx⟩ : ∃ x, x = l[k] := ⟨_, rfl⟩
        rw [← hx] at y0 y1 y2 CK HBy HTS
        simp only at y0 y1 y2 CK HBy HTS
        have hV := below_new wr (.cells #[.int .i64 f, .int .i64 t, .slice xa xn xc] 37)
        have hBox := BoxL.new wr [.int .i64 f, .int .i64 t, .slice xa xn xc] 37
        have HZ := hide (show (wr.alloc (.cells #[.int .i64 f, .int .i64 t, .slice xa xn xc] 37)).heap.size = wr.heap.size + 1 by simp)
        clear hx hok hxb hrow hlr
        have HNE := hide (netM_ex hnr hV)
        clear hnr
        go_wp2
        generalize (wr.alloc (.cells #[.int .i64 f, .int .i64 t, .slice xa xn xc] 37)) = V at HZ hV hBox HNE ⊢
        have HVB := hide hV
        obtain ⟨hcc, ar, nr, cr, hcr, hror, hner, hxsr⟩ := HNE.out
        have hnr3 : nr = n + k := by
          have e1 := hror.1.1
          have e2 : lr.length = (L ++ (l.map Pm.p).take k).length := by rw [← HLR.out, List.length_map]
          rw [List.length_append, List.length_take, List.length_map, HML.out, HL.out] at e2
          omega
        have hnr2 : nr ≤ 20000 := by have := HQ2.out; omega
        have HCC := hide hcc
        have HROR := hide hror
        have HNER := hide hner
        have HXSR := hide hxsr
        obtain ⟨z0, z1, z2⟩ := hBox.c3
        have hz0 : V.drew.cell? ⟨wr.heap.size, 0, none⟩ = some (.int .i64 f) := z0
        have hz1 : V.drew.cell? ⟨wr.heap.size, 1, none⟩ = some (.int .i64 t) := z1
        have hz2 : V.drew.cell? ⟨wr.heap.size, 2, none⟩ = some (.slice xa xn xc) := z2
        clear z0 z1 z2
        have hs0 : V.drew.cell? ⟨cb, 0, none⟩ = some (.slice ar nr cr) := hcr
        have HCR := hide hcr
        clear hcc hror hner hxsr y0 y1 y2 hV hBox hcell hc2 hnr3
        refine wp_region_noPanic ?_
        refine wp_region_held_drew (S := fun _ => True) (by kernel_rfl) trivial (fun _ => ?_)
        refine takeD (i := 0) (d := some 25) (v := ?_) rfl rfl (by kernel_rfl) (by kernel_rfl) (by kernel_rfl) (fun _ _ _ h => h) (Or.inl ⟨by rfl, ?_⟩) trivial ?_
        rotate_left
        · intro w hSw
          go_simp
          try (with_reducible rfl)
        try simp only [Act.put, List.setIfInBounds_toArray, List.set_cons_zero, List.set_cons_succ]
        refine takeD (i := 1) (d := some 26) (v := ?_) rfl rfl (by kernel_rfl) (by kernel_rfl) (by kernel_rfl) (fun _ _ _ h => h) (Or.inl ⟨by rfl, ?_⟩) trivial ?_
        rotate_left
        · intro w hSw
          go_simp
          try (with_reducible rfl)
        try simp only [Act.put, List.setIfInBounds_toArray, List.set_cons_zero, List.set_cons_succ]
        refine takeD (i := 2) (d := some 27) (v := ?_) rfl rfl (by kernel_rfl) (by kernel_rfl) (by kernel_rfl) (fun _ _ _ h => h) (Or.inl ⟨by rfl, ?_⟩) trivial ?_
        rotate_left
        · intro w hSw
          go_simp
          try (with_reducible rfl)
        try simp only [Act.put, List.setIfInBounds_toArray, List.set_cons_zero, List.set_cons_succ]
        refine takeD (i := 3) (d := some 28) (v := ?_) rfl rfl (by kernel_rfl) (by kernel_rfl) (by kernel_rfl) (fun _ _ _ h => h) (Or.inl ⟨by rfl, ?_⟩) trivial ?_
        rotate_left
        · intro w hSw
          go_simp
          try (with_reducible rfl)
        try simp only [Act.put, List.setIfInBounds_toArray, List.set_cons_zero, List.set_cons_succ]
        refine wpAnyH_ready (rs := [4, 5]) (by kernel_rfl) (by simp) ?_
        refine AllReadyH.cons rfl (fun K hK => ?_) (AllReadyH.cons rfl (fun K hK => ?_) AllReadyH.nil)
        · go_simp
          go_wp2_with fail
          refine hK.out _ _ trivial (fun _ => ?_)
          clear hK K
          try simp only [Act.put, List.setIfInBounds_toArray, List.set_cons_zero, List.set_cons_succ]
          refine wpAnyH_ready (rs := [5]) (by kernel_rfl) (by simp) ?_
          refine AllReadyH.cons rfl (fun K hK => ?_) AllReadyH.nil
          go_simp
          go_wp2_with fail
          refine hK.out _ _ trivial (fun _ => ?_)
          clear hK K
          try simp only [Act.put, List.setIfInBounds_toArray, List.set_cons_zero, List.set_cons_succ]
          refine wpAnyH_ready (rs := [6]) (by kernel_rfl) (by simp) ?_
          refine AllReadyH.cons rfl (fun K hK => ?_) AllReadyH.nil
          go_simp
          (with_reducible refine (CK.out V.drew HVB.out.drew).mono ?_)
          rintro e w1 ⟨a1, n1, c1, rfl, ho1, hb1⟩
          obtain ⟨v9, w9, hrun9, hc9, hf9, ⟨a2, c2, e9⟩, hn9, hk9⟩ := send_step (w2 := w1.alloc (.cells #[.int .i64 f, .int .i64 t, .slice a1 n1 c1] 37)) (x := (f, t, bs)) HCC.out HCR.out HROR.out HNER.out HXSR.out ho1 HBy.out (below_undrew hb1) hnr2 rfl 28
          subst e9
          have HN9 := hide hn9
          have HK9 := hide hk9
          have hs1 := keep_cell hs0 hb1
          have hs2 : (w1.alloc (.cells #[.int .i64 f, .int .i64 t, .slice a1 n1 c1] 37)).cell? ⟨cb, 0, none⟩ = some (.slice ar nr cr) := keep_cell hs1 (below_new _ _)
          clear hn9 hk9 ho1 hb1
          go_wp2_with fail
          refine hK.out _ _ trivial (fun _ => ?_)
          clear hK K
          try simp only [Act.put, List.setIfInBounds_toArray, List.set_cons_zero, List.set_cons_succ]
          refine wpAnyH_ready (rs := [7]) (by kernel_rfl) (by simp) ?_
          refine AllReadyH.cons rfl (fun K hK => ?_) AllReadyH.nil
          go_simp
          go_wp2_with fail
          refine hK.out _ _ trivial (fun _ => ?_)
          clear hK K
          try simp only [Act.put, List.setIfInBounds_toArray, List.set_cons_zero, List.set_cons_succ]
          refine wpAnyH_ready (rs := [8]) (by kernel_rfl) (by simp) ?_
          refine AllReadyH.cons rfl (fun K hK => ?_) AllReadyH.nil
          refine wp_append_run (.tmp 29) (.tmp 32) rfl rfl rfl hrun9 ?_
          refine hK.out _ _ trivial (fun _ => ?_)
          clear hK K
          try simp only [Act.put, List.setIfInBounds_toArray, List.set_cons_zero, List.set_cons_succ]
          refine takeD (i := 9) (d := some 34) (v := ?_) rfl rfl (by kernel_rfl) (by kernel_rfl) (by kernel_rfl) (fun _ _ _ h => h) (Or.inl ⟨by rfl, ?_⟩) trivial ?_
          rotate_left
          · intro w hSw
            go_simp
            try (with_reducible rfl)
          try simp only [Act.put, List.setIfInBounds_toArray, List.set_cons_zero, List.set_cons_succ]
          refine takeD (i := 10) (d := some 35) (v := ?_) rfl rfl (by kernel_rfl) (by kernel_rfl) (by kernel_rfl) (fun _ _ _ h => h) (Or.inl ⟨by rfl, ?_⟩) trivial ?_
          rotate_left
          · intro w hSw
            go_simp
            try (with_reducible rfl)
          try simp only [Act.put, List.setIfInBounds_toArray, List.set_cons_zero, List.set_cons_succ]
          refine wpAnyH_ready (rs := [11]) (by kernel_rfl) (by simp) ?_
          refine AllReadyH.cons rfl (fun K hK => ?_) AllReadyH.nil
          go_simp
          go_wp2_with fail
          refine hK.out _ _ trivial (fun _ => ?_)
          clear hK K
          try simp only [Act.put, List.setIfInBounds_toArray, List.set_cons_zero, List.set_cons_succ]
          refine wpAnyH_done (by kernel_rfl) ?_ _
          refine NoPanic.normal ?_
          have HE := hide (send_next (ps := l.map Pm.p) (k := k) HK.out HVB.out HN9.out HK9.out (by simp [World.setCell]) HLR.out HTS.out)
          generalize w9.setCell ⟨cb, 0, none⟩ (.slice a2 (nr + 1) c2) = w10 at HE ⊢
          clear hrun9 hc9 hf9 hs1 hs2 hs0 hz0 hz1 hz2
          go_wp2
          go_roundw
          case rel => exact ⟨hide HE.out.2, k + 1, by omega, by go_num, hide HE.out.1⟩
          case measure => simp [intOf]; omega
        · go_simp
          go_wp2_with fail
          refine hK.out _ _ trivial (fun _ => ?_)
          clear hK K
          try simp only [Act.put, List.setIfInBounds_toArray, List.set_cons_zero, List.set_cons_succ]
          refine wpAnyH_ready (rs := [4, 6]) (by kernel_rfl) (by simp) ?_
          refine AllReadyH.cons rfl (fun K hK => ?_) (AllReadyH.cons rfl (fun K hK => ?_) AllReadyH.nil)
          · go_simp
            go_wp2_with fail
            refine hK.out _ _ trivial (fun _ => ?_)
            clear hK K
            try simp only [Act.put, List.setIfInBounds_toArray, List.set_cons_zero, List.set_cons_succ]
            refine wpAnyH_ready (rs := [6]) (by kernel_rfl) (by simp) ?_
            refine AllReadyH.cons rfl (fun K hK => ?_) AllReadyH.nil
            go_simp
            (with_reducible refine (CK.out V.drew HVB.out.drew).mono ?_)
            rintro e w1 ⟨a1, n1, c1, rfl, ho1, hb1⟩
            obtain ⟨v9, w9, hrun9, hc9, hf9, ⟨a2, c2, e9⟩, hn9, hk9⟩ := send_step (w2 := w1.alloc (.cells #[.int .i64 f, .int .i64 t, .slice a1 n1 c1] 37)) (x := (f, t, bs)) HCC.out HCR.out HROR.out HNER.out HXSR.out ho1 HBy.out (below_undrew hb1) hnr2 rfl 28
            subst e9
            have HN9 := hide hn9
            have HK9 := hide hk9
            have hs1 := keep_cell hs0 hb1
            have hs2 : (w1.alloc (.cells #[.int .i64 f, .int .i64 t, .slice a1 n1 c1] 37)).cell? ⟨cb, 0, none⟩ = some (.slice ar nr cr) := keep_cell hs1 (below_new _ _)
            clear hn9 hk9 ho1 hb1
            go_wp2_with fail
            refine hK.out _ _ trivial (fun _ => ?_)
            clear hK K
            try simp only [Act.put, List.setIfInBounds_toArray, List.set_cons_zero, List.set_cons_succ]
            refine wpAnyH_ready (rs := [7]) (by kernel_rfl) (by simp) ?_
            refine AllReadyH.cons rfl (fun K hK => ?_) AllReadyH.nil
            go_simp
            go_wp2_with fail
            refine hK.out _ _ trivial (fun _ => ?_)
            clear hK K
            try simp only [Act.put, List.setIfInBounds_toArray, List.set_cons_zero, List.set_cons_succ]
            refine wpAnyH_ready (rs := [8]) (by kernel_rfl) (by simp) ?_
            refine AllReadyH.cons rfl (fun K hK => ?_) AllReadyH.nil
            refine wp_append_run (.tmp 29) (.tmp 32) rfl rfl rfl hrun9 ?_
            refine hK.out _ _ trivial (fun _ => ?_)
            clear hK K
            try simp only [Act.put, List.setIfInBounds_toArray, List.set_cons_zero, List.set_cons_succ]
            refine takeD (i := 9) (d := some 34) (v := ?_) rfl rfl (by kernel_rfl) (by kernel_rfl) (by kernel_rfl) (fun _ _ _ h => h) (Or.inl ⟨by rfl, ?_⟩) trivial ?_
            rotate_left
            · intro w hSw
              go_simp
              try (with_reducible rfl)
            try simp only [Act.put, List.setIfInBounds_toArray, List.set_cons_zero, List.set_cons_succ]
            refine takeD (i := 10) (d := some 35) (v := ?_) rfl rfl (by kernel_rfl) (by kernel_rfl) (by kernel_rfl) (fun _ _ _ h => h) (Or.inl ⟨by rfl, ?_⟩) trivial ?_
            rotate_left
            · intro w hSw
              go_simp
              try (with_reducible rfl)
            try simp only [Act.put, List.setIfInBounds_toArray, List.set_cons_zero, List.set_cons_succ]
            refine wpAnyH_ready (rs := [11]) (by kernel_rfl) (by simp) ?_
            refine AllReadyH.cons rfl (fun K hK => ?_) AllReadyH.nil
            go_simp
            go_wp2_with fail
            refine hK.out _ _ trivial (fun _ => ?_)
            clear hK K
            try simp only [Act.put, List.setIfInBounds_toArray, List.set_cons_zero, List.set_cons_succ]
            refine wpAnyH_done (by kernel_rfl) ?_ _
            refine NoPanic.normal ?_
            have HE := hide (send_next (ps := l.map Pm.p) (k := k) HK.out HVB.out HN9.out HK9.out (by simp [World.setCell]) HLR.out HTS.out)
            generalize w9.setCell ⟨cb, 0, none⟩ (.slice a2 (nr + 1) c2) = w10 at HE ⊢
            clear hrun9 hc9 hf9 hs1 hs2 hs0 hz0 hz1 hz2
            go_wp2
            go_roundw
            case rel => exact ⟨hide HE.out.2, k + 1, by omega, by go_num, hide HE.out.1⟩
            case measure => simp [intOf]; omega
          · go_simp
            (with_reducible refine (CK.out V.drew HVB.out.drew).mono ?_)
            rintro e w1 ⟨a1, n1, c1, rfl, ho1, hb1⟩
            obtain ⟨v9, w9, hrun9, hc9, hf9, ⟨a2, c2, e9⟩, hn9, hk9⟩ := send_step (w2 := w1.alloc (.cells #[.int .i64 f, .int .i64 t, .slice a1 n1 c1] 37)) (x := (f, t, bs)) HCC.out HCR.out HROR.out HNER.out HXSR.out ho1 HBy.out (below_undrew hb1) hnr2 rfl 28
            subst e9
            have HN9 := hide hn9
            have HK9 := hide hk9
            have hs1 := keep_cell hs0 hb1
            have hs2 : (w1.alloc (.cells #[.int .i64 f, .int .i64 t, .slice a1 n1 c1] 37)).cell? ⟨cb, 0, none⟩ = some (.slice ar nr cr) := keep_cell hs1 (below_new _ _)
            clear hn9 hk9 ho1 hb1
            go_wp2_with fail
            refine hK.out _ _ trivial (fun _ => ?_)
            clear hK K
            try simp only [Act.put, List.setIfInBounds_toArray, List.set_cons_zero, List.set_cons_succ]
            refine wpAnyH_ready (rs := [4, 7]) (by kernel_rfl) (by simp) ?_
            refine AllReadyH.cons rfl (fun K hK => ?_) (AllReadyH.cons rfl (fun K hK => ?_) AllReadyH.nil)
            · go_simp
              go_wp2_with fail
              refine hK.out _ _ trivial (fun _ => ?_)
              clear hK K
              try simp only [Act.put, List.setIfInBounds_toArray, List.set_cons_zero, List.set_cons_succ]
              refine wpAnyH_ready (rs := [7]) (by kernel_rfl) (by simp) ?_
              refine AllReadyH.cons rfl (fun K hK => ?_) AllReadyH.nil
              go_simp
              go_wp2_with fail
              refine hK.out _ _ trivial (fun _ => ?_)
              clear hK K
              try simp only [Act.put, List.setIfInBounds_toArray, List.set_cons_zero, List.set_cons_succ]
              refine wpAnyH_ready (rs := [8]) (by kernel_rfl) (by simp) ?_
              refine AllReadyH.cons rfl (fun K hK => ?_) AllReadyH.nil
              refine wp_append_run (.tmp 29) (.tmp 32) rfl rfl rfl hrun9 ?_
              refine hK.out _ _ trivial (fun _ => ?_)
              clear hK K
              try simp only [Act.put, List.setIfInBounds_toArray, List.set_cons_zero, List.set_cons_succ]
              refine takeD (i := 9) (d := some 34) (v := ?_) rfl rfl (by kernel_rfl) (by kernel_rfl) (by kernel_rfl) (fun _ _ _ h => h) (Or.inl ⟨by rfl, ?_⟩) trivial ?_
              rotate_left
              · intro w hSw
                go_simp
                try (with_reducible rfl)
              try simp only [Act.put, List.setIfInBounds_toArray, List.set_cons_zero, List.set_cons_succ]
              refine takeD (i := 10) (d := some 35) (v := ?_) rfl rfl (by kernel_rfl) (by kernel_rfl) (by kernel_rfl) (fun _ _ _ h => h) (Or.inl ⟨by rfl, ?_⟩) trivial ?_
              rotate_left
              · intro w hSw
                go_simp
                try (with_reducible rfl)
              try simp only [Act.put, List.setIfInBounds_toArray, List.set_cons_zero, List.set_cons_succ]
              refine wpAnyH_ready (rs := [11]) (by kernel_rfl) (by simp) ?_
              refine AllReadyH.cons rfl (fun K hK => ?_) AllReadyH.nil
              go_simp
              go_wp2_with fail
              refine hK.out _ _ trivial (fun _ => ?_)
              clear hK K
              try simp only [Act.put, List.setIfInBounds_toArray, List.set_cons_zero, List.set_cons_succ]
              refine wpAnyH_done (by kernel_rfl) ?_ _
              refine NoPanic.normal ?_
              have HE := hide (send_next (ps := l.map Pm.p) (k := k) HK.out HVB.out HN9.out HK9.out (by simp [World.setCell]) HLR.out HTS.out)
              generalize w9.setCell ⟨cb, 0, none⟩ (.slice a2 (nr + 1) c2) = w10 at HE ⊢
              clear hrun9 hc9 hf9 hs1 hs2 hs0 hz0 hz1 hz2
              go_wp2
              go_roundw
              case rel => exact ⟨hide HE.out.2, k + 1, by omega, by go_num, hide HE.out.1⟩
              case measure => simp [intOf]; omega
            · go_simp
              go_wp2_with fail
              refine hK.out _ _ trivial (fun _ => ?_)
              clear hK K
              try simp only [Act.put, List.setIfInBounds_toArray, List.set_cons_zero, List.set_cons_succ]
              refine wpAnyH_ready (rs := [4]) (by kernel_rfl) (by simp) ?_
              refine AllReadyH.cons rfl (fun K hK => ?_) AllReadyH.nil
              go_simp
              go_wp2_with fail
              refine hK.out _ _ trivial (fun _ => ?_)
              clear hK K
              try simp only [Act.put, List.setIfInBounds_toArray, List.set_cons_zero, List.set_cons_succ]
              refine wpAnyH_ready (rs := [8]) (by kernel_rfl) (by simp) ?_
              refine AllReadyH.cons rfl (fun K hK => ?_) AllReadyH.nil
              refine wp_append_run (.tmp 29) (.tmp 32) rfl rfl rfl hrun9 ?_
              refine hK.out _ _ trivial (fun _ => ?_)
              clear hK K
              try simp only [Act.put, List.setIfInBounds_toArray, List.set_cons_zero, List.set_cons_succ]
              refine takeD (i := 9) (d := some 34) (v := ?_) rfl rfl (by kernel_rfl) (by kernel_rfl) (by kernel_rfl) (fun _ _ _ h => h) (Or.inl ⟨by rfl, ?_⟩) trivial ?_
              rotate_left
              · intro w hSw
                go_simp
                try (with_reducible rfl)
              try simp only [Act.put, List.setIfInBounds_toArray, List.set_cons_zero, List.set_cons_succ]
              refine takeD (i := 10) (d := some 35) (v := ?_) rfl rfl (by kernel_rfl) (by kernel_rfl) (by kernel_rfl) (fun _ _ _ h => h) (Or.inl ⟨by rfl, ?_⟩) trivial ?_
              rotate_left
              · intro w hSw
                go_simp
                try (with_reducible rfl)
              try simp only [Act.put, List.setIfInBounds_toArray, List.set_cons_zero, List.set_cons_succ]
              refine wpAnyH_ready (rs := [11]) (by kernel_rfl) (by simp) ?_
              refine AllReadyH.cons rfl (fun K hK => ?_) AllReadyH.nil
              go_simp
              go_wp2_with fail
              refine hK.out _ _ trivial (fun _ => ?_)
              clear hK K
              try simp only [Act.put, List.setIfInBounds_toArray, List.set_cons_zero, List.set_cons_succ]
              refine wpAnyH_done (by kernel_rfl) ?_ _
              refine NoPanic.normal ?_
              have HE := hide (send_next (ps := l.map Pm.p) (k := k) HK.out HVB.out HN9.out HK9.out (by simp [World.setCell]) HLR.out HTS.out)
              generalize w9.setCell ⟨cb, 0, none⟩ (.slice a2 (nr + 1) c2) = w10 at HE ⊢
              clear hrun9 hc9 hf9 hs1 hs2 hs0 hz0 hz1 hz2
              go_wp2
              go_roundw
              case rel => exact ⟨hide HE.out.2, k + 1, by omega, by go_num, hide HE.out.1⟩
              case measure => simp [intOf]; omega
      · obtain rfl : k = q := by omega
        go_wp2
        go_ret
        exact ⟨rfl, by rw [HR.out]; exact HP.out, HK.out⟩

end Go.Proofs.Ytmjglgdihlomlaa
