/- (*gleanerref10.Net).Send. -/
import Derived.Test.YtmjglgdihlomlaaRNet
namespace Go.Proofs.Ytmjglgdihlomlaa
open Go.RowKit Go.ChangeShapes Go.WideShapes Go.ChangeAt Go.Deep

theorem rsend_next {D : Nat → Prop} {w wr w' w1 : World} {cb : Nat} {lr : List Pm} {L ps : List Pc} {k : Nat} {x : Pc} {a : Option Addr} {n c : Nat} {a1 : Option Addr} {n1 c1 : Nat} {v : Value} (hk : Kp D w wr) (hN : NetM (Ex D w wr) wr cb lr) (hcell : wr.cell? ⟨cb, 0, none⟩ = some (.slice a n c)) (hE : Exc wr lr) (hb1 : Below wr.heap.size wr w1) (ho : w1.ownsRow wr.heap.size 5 1 (.slice a1 n1 c1) x.2.2.length (bV x.2.2)) (hB : Byt x.2.2) (hnew : NetM (Ex (Ex D w wr) wr w') (w'.setCell ⟨cb, 0, none⟩ v) cb (lr ++ [⟨x, a1, n1, c1⟩])) (hkp : Kp (Ex D w wr) wr (w'.setCell ⟨cb, 0, none⟩ v))
    (hX : ∀ k, k < w1.heap.size → (∀ ad, a = some ad → ad.block ≠ k) → k ≠ cb → (w'.setCell ⟨cb, 0, none⟩ v).heap[k]? = w1.heap[k]?) (hL : lr.map Pm.p = L ++ ps.take k) (hy : ps.take (k + 1) = ps.take k ++ [x]) :
    NetR (Ex D w (w'.setCell ⟨cb, 0, none⟩ v)) (w'.setCell ⟨cb, 0, none⟩ v) cb (L ++ ps.take (k + 1)) ∧ Kp D w (w'.setCell ⟨cb, 0, none⟩ v) := by
  have hs : (w'.setCell ⟨cb, 0, none⟩ v).heap.size = w'.heap.size := by simp [World.setCell]
  obtain ⟨hP, hK⟩ := send_next (ps := ps) (k := k) hk (Below.refl _ _) hnew hkp hs hL hy
  obtain ⟨hn1, _, hfr⟩ := pm_new ho hB
  have hnb := hN.blocks
  obtain ⟨hcc, a', n', c', hcell', hro, hne, hxs⟩ := hN
  rw [hcell] at hcell'
  simp only [Option.some.injEq, Value.slice.injEq] at hcell'
  obtain ⟨rfl, rfl, rfl⟩ := hcell'
  have hw2 := hcc.2.2
  refine ⟨⟨lr ++ [⟨x, a1, n1, c1⟩], by rw [List.map_append, hL, hy]; simp, ?_, ?_⟩, hK⟩
  · refine hnew.mono (fun i hi => ?_) (fun i hi => ?_)
    · have h1 := hkp.size
      have h3 := hk.size
      rcases hi with (hi | hi) | hi
      · exact .inl hi
      · exact .inr ⟨hi.1, by omega⟩
      · exact .inr ⟨by omega, by omega⟩
    · rcases hi with hi | hi
      · exact hnew.1.2.2 i (.inl (.inl hi))
      · exact hi.2
  · refine exc_more hE hnb hw2 hb1 ho hn1 (fun q hq hy => hX q hq (fun ad e => ?_) ?_)
    · obtain ⟨y, hy, ad', e', rfl⟩ := hy
      rw [List.mem_append, List.mem_singleton] at hy
      obtain ⟨g, off, e2, _, hap⟩ := hro.2 ad e
      rcases hy with hy | rfl
      · rw [e2]; exact fun h => hap y hy ad' e' h.symm
      · have h1 := hfr ad' e'
        have h2 := hw2 _ (hro.1.2.2.2.2.1 ad e)
        omega
    · obtain ⟨y, hy, ad', e', rfl⟩ := hy
      rw [List.mem_append, List.mem_singleton] at hy
      rcases hy with hy | rfl
      · exact hxs y hy ad' e'
      · have h1 := hfr ad' e'
        have h2 := hw2 cb hcc.1
        omega

set_option linter.unusedSimpArgs false in
set_option maxRecDepth 100000 in
set_option maxHeartbeats 4000000 in
theorem rsend_any (D A : Nat → Prop) (w : World) (cb : Nat) (L : List Pc) (aa : Option Addr) (m cc : Nat) (l : List Pm) (hN : NetR D w cb L) (hL : L.length ≤ 10000) (hA : RowP A w aa m cc l) (hAD : ∀ k, A k → ¬ D k) (hm : m ≤ 100000) (hb : ∀ x ∈ l, x.n ≤ 1000000) :
    Calls Try.prog 11 #[.pointer (some ⟨cb, 0, none⟩), .slice aa m cc] w (RSendPost D w cb L (l.map Pm.p)) := by
  have hml := hA.1
  have HN0 := hide (show NetR (Ex D w w) w cb (L ++ (l.map Pm.p).take 0) by
    obtain ⟨l0, e0, h1, h2⟩ := hN
    exact ⟨l0, by simpa using e0, h1.mono (fun k hk => .inl hk) (fun k hk => hk.elim (h1.1.2.2 k) fun q => q.2), h2⟩)
  unfold RSendPost
  obtain ⟨n, hn⟩ : ∃ n, n = L.length := ⟨_, rfl⟩
  have HLn := hide hn
  have HP := hide (show (l.map Pm.p).length = m by rw [List.length_map]; exact hml)
  have HA := hide hA
  have HB := hide hb
  have HAD := hide hAD
  have HML := hide hml
  have hn2 : n ≤ 10000 := by omega
  clear hn hml hA hb hAD hN hL
  go_enter Try.func11, Try.ntmps11
  go_wp2
  go_loopw [5] (fun i wr => Hid (Kp D w wr) ∧ ∃ k : Nat, k ≤ m ∧ n + k ≤ 10000 ∧ i = .int .i64 (k : Nat) ∧ Hid (NetR (Ex D w wr) wr cb (L ++ (l.map Pm.p).take k))) (fun i _ => m - (intOf i).toNat)
  case atStart => exact ⟨hide (Kp.refl _ _), 0, Nat.zero_le _, by omega, rfl, HN0⟩
  case round =>
    obtain ⟨HK, k, hk, hnk, rfl, HR⟩ := hrel
    obtain ⟨lr, hlr, hnr, hex⟩ := HR.out
    have HLR := hide hlr
    have HEX := hide hex
    have HNR := hide hnr
    obtain ⟨hcc, ar, nr, cr, hcr, hror, hner, hxsr⟩ := hnr
    have hnr3 : nr = n + k := by
      have e1 := hror.1.1
      have e2 : lr.length = (L ++ (l.map Pm.p).take k).length := by rw [← hlr, List.length_map]
      rw [List.length_append, List.length_take, HP.out, ← HLn.out] at e2
      omega
    subst hnr3
    have HCC := hide hcc
    have HROR := hide hror
    have HNER := hide hner
    have HXSR := hide hxsr
    have HCR := hide hcr
    clear hlr hex hcc hror hner hxsr
    by_cases hlt : k < m
    · by_cases hful : n + k = 10000
      · have hg : (10000 : Int) ≤ ((n + k : Nat) : Int) := by omega
        have hq : min (l.map Pm.p).length (10000 - L.length) = k := by rw [HP.out, ← HLn.out]; omega
        have hq2 : 10000 - L.length = k := by rw [← HLn.out]; omega
        have HQ := hide hq
        have HQ2 := hide hq2
        clear hq hq2 hful
        go_wp2
        go_ret
        exact ⟨by rw [HQ.out]; rfl, by rw [HQ2.out]; exact HR.out, HK.out⟩
      · have hg : ¬ (10000 : Int) ≤ ((n + k : Nat) : Int) := by omega
        have hkl : k < l.length := by have := HML.out; omega
        have HTS := hide (take_map_snoc hkl)
        have hrow := HA.out.keep (w' := wr) (fun i h1 h2 => HK.out.block i h2 (HAD.out i h1))
        obtain ⟨b, off, har, y0, y1, y2⟩ := hrow.at hkl
        subst har
        have hok := hrow.2.2.2.2.2 l[k] (List.getElem_mem _)
        have hxb := HB.out l[k] (List.getElem_mem _)
        have CK := hide (fun W (hb : Below wr.heap.size wr W) => parcel_any l[k].p l[k].a l[k].n l[k].c W hok.1 (hok.2.2.2.2.1.below hb) hok.2.2.2.1 hxb)
        have HBy := hide hok.2.1
        obtain ⟨⟨⟨f, t, bs⟩, xa, xn, xc⟩, hx⟩ : ∃ x, x = l[k] := ⟨_, rfl⟩
        rw [← hx] at y0 y1 y2 CK HBy HTS
        simp only at y0 y1 y2 CK HBy HTS
        have hs0 : wr.drew.cell? ⟨cb, 0, none⟩ = some (.slice ar (n + k) cr) := hcr
        have hz0 : wr.drew.cell? ⟨b, off + k * 3, none⟩ = some (.int .i64 f) := y0
        have hz1 : wr.drew.cell? ⟨b, off + k * 3 + 1, none⟩ = some (.int .i64 t) := y1
        have hz2 : wr.drew.cell? ⟨b, off + k * 3 + 2, none⟩ = some (.slice xa xn xc) := y2
        have hkm : (k : Int) < (m : Int) := by omega
        clear hx hok hxb hrow hful
        go_wp2
        refine wp_region_noPanic ?_
        refine wp_region_held_drew (S := fun _ => True) (by kernel_rfl) trivial (fun _ => ?_)
        refine takeD (i := 0) (d := some 19) (v := ?_) rfl rfl (by kernel_rfl) (by kernel_rfl) (by kernel_rfl) (fun _ _ _ h => h) (Or.inl ⟨by rfl, ?_⟩) trivial ?_
        rotate_left
        · intro w hSw
          go_simp
          try (with_reducible rfl)
        try simp only [Act.put, List.setIfInBounds_toArray, List.set_cons_zero, List.set_cons_succ]
        refine takeD (i := 1) (d := some 20) (v := ?_) rfl rfl (by kernel_rfl) (by kernel_rfl) (by kernel_rfl) (fun _ _ _ h => h) (Or.inl ⟨by rfl, ?_⟩) trivial ?_
        rotate_left
        · intro w hSw
          go_simp
          try (with_reducible rfl)
        try simp only [Act.put, List.setIfInBounds_toArray, List.set_cons_zero, List.set_cons_succ]
        refine takeD (i := 2) (d := some 21) (v := ?_) rfl rfl (by kernel_rfl) (by kernel_rfl) (by kernel_rfl) (fun _ _ _ h => h) (Or.inl ⟨by rfl, ?_⟩) trivial ?_
        rotate_left
        · intro w hSw
          go_simp
          try (with_reducible rfl)
        try simp only [Act.put, List.setIfInBounds_toArray, List.set_cons_zero, List.set_cons_succ]
        refine takeD (i := 3) (d := some 22) (v := ?_) rfl rfl (by kernel_rfl) (by kernel_rfl) (by kernel_rfl) (fun _ _ _ h => h) (Or.inl ⟨by rfl, ?_⟩) trivial ?_
        rotate_left
        · intro w hSw
          go_simp
          try (with_reducible rfl)
        try simp only [Act.put, List.setIfInBounds_toArray, List.set_cons_zero, List.set_cons_succ]
        refine takeD (i := 5) (d := some 24) (v := ?_) rfl rfl (by kernel_rfl) (by kernel_rfl) (by kernel_rfl) (fun _ _ _ h => h) (Or.inl ⟨by rfl, ?_⟩) trivial ?_
        rotate_left
        · intro w hSw
          go_simp
          try (with_reducible rfl)
        try simp only [Act.put, List.setIfInBounds_toArray, List.set_cons_zero, List.set_cons_succ]
        refine takeD (i := 6) (d := some 25) (v := ?_) rfl rfl (by kernel_rfl) (by kernel_rfl) (by kernel_rfl) (fun _ _ _ h => h) (Or.inl ⟨by rfl, ?_⟩) trivial ?_
        rotate_left
        · intro w hSw
          go_simp
          try (with_reducible rfl)
        try simp only [Act.put, List.setIfInBounds_toArray, List.set_cons_zero, List.set_cons_succ]
        refine takeD (i := 7) (d := some 26) (v := ?_) rfl rfl (by kernel_rfl) (by kernel_rfl) (by kernel_rfl) (fun _ _ _ h => h) (Or.inl ⟨by rfl, ?_⟩) trivial ?_
        rotate_left
        · intro w hSw
          go_simp
          try (with_reducible rfl)
        try simp only [Act.put, List.setIfInBounds_toArray, List.set_cons_zero, List.set_cons_succ]
        refine wpAnyH_ready (rs := [4, 8]) (by kernel_rfl) (by simp) ?_
        refine AllReadyH.cons rfl (fun K hK => ?_) (AllReadyH.cons rfl (fun K hK => ?_) AllReadyH.nil)
        · go_simp
          go_wp2_with fail
          refine hK.out _ _ trivial (fun _ => ?_)
          clear hK K
          try simp only [Act.put, List.setIfInBounds_toArray, List.set_cons_zero, List.set_cons_succ]
          refine wpAnyH_ready (rs := [8]) (by kernel_rfl) (by simp) ?_
          refine AllReadyH.cons rfl (fun K hK => ?_) AllReadyH.nil
          go_simp
          go_wp2_with fail
          refine hK.out _ _ trivial (fun _ => ?_)
          clear hK K
          try simp only [Act.put, List.setIfInBounds_toArray, List.set_cons_zero, List.set_cons_succ]
          refine wpAnyH_ready (rs := [9]) (by kernel_rfl) (by simp) ?_
          refine AllReadyH.cons rfl (fun K hK => ?_) AllReadyH.nil
          go_simp
          (with_reducible refine (CK.out wr.drew ((Below.refl _ _).drew)).mono ?_)
          rintro e w1 ⟨a1, n1, c1, rfl, ho1, hb1⟩
          obtain ⟨v9, w9, hrun9, hc9, hf9, ⟨a2, c2, e9⟩, hn9, hk9, hx9⟩ := send_stepX (w2 := w1.alloc (.cells #[.int .i64 f, .int .i64 t, .slice a1 n1 c1] 37)) (x := (f, t, bs)) HCC.out HCR.out HROR.out HNER.out HXSR.out ho1 HBy.out (below_undrew hb1) (by omega) rfl 28
          subst e9
          have HE9 := hide (rsend_next (x := (f, t, bs)) (ps := l.map Pm.p) (k := k) HK.out HNR.out HCR.out HEX.out (below_undrew hb1) ho1 HBy.out hn9 hk9 hx9 HLR.out HTS.out)
          have hs1 := keep_cell hs0 hb1
          have hs2 : (w1.alloc (.cells #[.int .i64 f, .int .i64 t, .slice a1 n1 c1] 37)).cell? ⟨cb, 0, none⟩ = some (.slice ar (n + k) cr) := keep_cell hs1 (below_new _ _)
          clear hn9 hk9 hx9 ho1 hb1
          go_wp2_with fail
          refine hK.out _ _ trivial (fun _ => ?_)
          clear hK K
          try simp only [Act.put, List.setIfInBounds_toArray, List.set_cons_zero, List.set_cons_succ]
          refine wpAnyH_ready (rs := [10]) (by kernel_rfl) (by simp) ?_
          refine AllReadyH.cons rfl (fun K hK => ?_) AllReadyH.nil
          go_simp
          go_wp2_with fail
          refine hK.out _ _ trivial (fun _ => ?_)
          clear hK K
          try simp only [Act.put, List.setIfInBounds_toArray, List.set_cons_zero, List.set_cons_succ]
          refine wpAnyH_ready (rs := [11]) (by kernel_rfl) (by simp) ?_
          refine AllReadyH.cons rfl (fun K hK => ?_) AllReadyH.nil
          refine wp_append_run (.tmp 23) (.tmp 29) rfl rfl rfl hrun9 ?_
          refine hK.out _ _ trivial (fun _ => ?_)
          clear hK K
          try simp only [Act.put, List.setIfInBounds_toArray, List.set_cons_zero, List.set_cons_succ]
          refine takeD (i := 12) (d := some 31) (v := ?_) rfl rfl (by kernel_rfl) (by kernel_rfl) (by kernel_rfl) (fun _ _ _ h => h) (Or.inl ⟨by rfl, ?_⟩) trivial ?_
          rotate_left
          · intro w hSw
            go_simp
            try (with_reducible rfl)
          try simp only [Act.put, List.setIfInBounds_toArray, List.set_cons_zero, List.set_cons_succ]
          refine takeD (i := 13) (d := some 32) (v := ?_) rfl rfl (by kernel_rfl) (by kernel_rfl) (by kernel_rfl) (fun _ _ _ h => h) (Or.inl ⟨by rfl, ?_⟩) trivial ?_
          rotate_left
          · intro w hSw
            go_simp
            try (with_reducible rfl)
          try simp only [Act.put, List.setIfInBounds_toArray, List.set_cons_zero, List.set_cons_succ]
          refine wpAnyH_ready (rs := [14]) (by kernel_rfl) (by simp) ?_
          refine AllReadyH.cons rfl (fun K hK => ?_) AllReadyH.nil
          go_simp
          go_wp2_with fail
          refine hK.out _ _ trivial (fun _ => ?_)
          clear hK K
          try simp only [Act.put, List.setIfInBounds_toArray, List.set_cons_zero, List.set_cons_succ]
          refine wpAnyH_done (by kernel_rfl) ?_ _
          refine NoPanic.normal ?_
          generalize w9.setCell ⟨cb, 0, none⟩ (.slice a2 (n + k + 1) c2) = w10 at HE9 ⊢
          clear hrun9 hc9 hf9 hs1 hs2 hs0 hz0 hz1 hz2 y0 y1 y2 hcr
          go_wp2
          go_roundw
          case rel => exact ⟨hide HE9.out.2, k + 1, by omega, by omega, by go_num, hide HE9.out.1⟩
          case measure => simp [intOf]; omega
        · go_simp
          go_wp2_with fail
          refine hK.out _ _ trivial (fun _ => ?_)
          clear hK K
          try simp only [Act.put, List.setIfInBounds_toArray, List.set_cons_zero, List.set_cons_succ]
          refine wpAnyH_ready (rs := [4, 9]) (by kernel_rfl) (by simp) ?_
          refine AllReadyH.cons rfl (fun K hK => ?_) (AllReadyH.cons rfl (fun K hK => ?_) AllReadyH.nil)
          · go_simp
            go_wp2_with fail
            refine hK.out _ _ trivial (fun _ => ?_)
            clear hK K
            try simp only [Act.put, List.setIfInBounds_toArray, List.set_cons_zero, List.set_cons_succ]
            refine wpAnyH_ready (rs := [9]) (by kernel_rfl) (by simp) ?_
            refine AllReadyH.cons rfl (fun K hK => ?_) AllReadyH.nil
            go_simp
            (with_reducible refine (CK.out wr.drew ((Below.refl _ _).drew)).mono ?_)
            rintro e w1 ⟨a1, n1, c1, rfl, ho1, hb1⟩
            obtain ⟨v9, w9, hrun9, hc9, hf9, ⟨a2, c2, e9⟩, hn9, hk9, hx9⟩ := send_stepX (w2 := w1.alloc (.cells #[.int .i64 f, .int .i64 t, .slice a1 n1 c1] 37)) (x := (f, t, bs)) HCC.out HCR.out HROR.out HNER.out HXSR.out ho1 HBy.out (below_undrew hb1) (by omega) rfl 28
            subst e9
            have HE9 := hide (rsend_next (x := (f, t, bs)) (ps := l.map Pm.p) (k := k) HK.out HNR.out HCR.out HEX.out (below_undrew hb1) ho1 HBy.out hn9 hk9 hx9 HLR.out HTS.out)
            have hs1 := keep_cell hs0 hb1
            have hs2 : (w1.alloc (.cells #[.int .i64 f, .int .i64 t, .slice a1 n1 c1] 37)).cell? ⟨cb, 0, none⟩ = some (.slice ar (n + k) cr) := keep_cell hs1 (below_new _ _)
            clear hn9 hk9 hx9 ho1 hb1
            go_wp2_with fail
            refine hK.out _ _ trivial (fun _ => ?_)
            clear hK K
            try simp only [Act.put, List.setIfInBounds_toArray, List.set_cons_zero, List.set_cons_succ]
            refine wpAnyH_ready (rs := [10]) (by kernel_rfl) (by simp) ?_
            refine AllReadyH.cons rfl (fun K hK => ?_) AllReadyH.nil
            go_simp
            go_wp2_with fail
            refine hK.out _ _ trivial (fun _ => ?_)
            clear hK K
            try simp only [Act.put, List.setIfInBounds_toArray, List.set_cons_zero, List.set_cons_succ]
            refine wpAnyH_ready (rs := [11]) (by kernel_rfl) (by simp) ?_
            refine AllReadyH.cons rfl (fun K hK => ?_) AllReadyH.nil
            refine wp_append_run (.tmp 23) (.tmp 29) rfl rfl rfl hrun9 ?_
            refine hK.out _ _ trivial (fun _ => ?_)
            clear hK K
            try simp only [Act.put, List.setIfInBounds_toArray, List.set_cons_zero, List.set_cons_succ]
            refine takeD (i := 12) (d := some 31) (v := ?_) rfl rfl (by kernel_rfl) (by kernel_rfl) (by kernel_rfl) (fun _ _ _ h => h) (Or.inl ⟨by rfl, ?_⟩) trivial ?_
            rotate_left
            · intro w hSw
              go_simp
              try (with_reducible rfl)
            try simp only [Act.put, List.setIfInBounds_toArray, List.set_cons_zero, List.set_cons_succ]
            refine takeD (i := 13) (d := some 32) (v := ?_) rfl rfl (by kernel_rfl) (by kernel_rfl) (by kernel_rfl) (fun _ _ _ h => h) (Or.inl ⟨by rfl, ?_⟩) trivial ?_
            rotate_left
            · intro w hSw
              go_simp
              try (with_reducible rfl)
            try simp only [Act.put, List.setIfInBounds_toArray, List.set_cons_zero, List.set_cons_succ]
            refine wpAnyH_ready (rs := [14]) (by kernel_rfl) (by simp) ?_
            refine AllReadyH.cons rfl (fun K hK => ?_) AllReadyH.nil
            go_simp
            go_wp2_with fail
            refine hK.out _ _ trivial (fun _ => ?_)
            clear hK K
            try simp only [Act.put, List.setIfInBounds_toArray, List.set_cons_zero, List.set_cons_succ]
            refine wpAnyH_done (by kernel_rfl) ?_ _
            refine NoPanic.normal ?_
            generalize w9.setCell ⟨cb, 0, none⟩ (.slice a2 (n + k + 1) c2) = w10 at HE9 ⊢
            clear hrun9 hc9 hf9 hs1 hs2 hs0 hz0 hz1 hz2 y0 y1 y2 hcr
            go_wp2
            go_roundw
            case rel => exact ⟨hide HE9.out.2, k + 1, by omega, by omega, by go_num, hide HE9.out.1⟩
            case measure => simp [intOf]; omega
          · go_simp
            (with_reducible refine (CK.out wr.drew ((Below.refl _ _).drew)).mono ?_)
            rintro e w1 ⟨a1, n1, c1, rfl, ho1, hb1⟩
            obtain ⟨v9, w9, hrun9, hc9, hf9, ⟨a2, c2, e9⟩, hn9, hk9, hx9⟩ := send_stepX (w2 := w1.alloc (.cells #[.int .i64 f, .int .i64 t, .slice a1 n1 c1] 37)) (x := (f, t, bs)) HCC.out HCR.out HROR.out HNER.out HXSR.out ho1 HBy.out (below_undrew hb1) (by omega) rfl 28
            subst e9
            have HE9 := hide (rsend_next (x := (f, t, bs)) (ps := l.map Pm.p) (k := k) HK.out HNR.out HCR.out HEX.out (below_undrew hb1) ho1 HBy.out hn9 hk9 hx9 HLR.out HTS.out)
            have hs1 := keep_cell hs0 hb1
            have hs2 : (w1.alloc (.cells #[.int .i64 f, .int .i64 t, .slice a1 n1 c1] 37)).cell? ⟨cb, 0, none⟩ = some (.slice ar (n + k) cr) := keep_cell hs1 (below_new _ _)
            clear hn9 hk9 hx9 ho1 hb1
            go_wp2_with fail
            refine hK.out _ _ trivial (fun _ => ?_)
            clear hK K
            try simp only [Act.put, List.setIfInBounds_toArray, List.set_cons_zero, List.set_cons_succ]
            refine wpAnyH_ready (rs := [4, 10]) (by kernel_rfl) (by simp) ?_
            refine AllReadyH.cons rfl (fun K hK => ?_) (AllReadyH.cons rfl (fun K hK => ?_) AllReadyH.nil)
            · go_simp
              go_wp2_with fail
              refine hK.out _ _ trivial (fun _ => ?_)
              clear hK K
              try simp only [Act.put, List.setIfInBounds_toArray, List.set_cons_zero, List.set_cons_succ]
              refine wpAnyH_ready (rs := [10]) (by kernel_rfl) (by simp) ?_
              refine AllReadyH.cons rfl (fun K hK => ?_) AllReadyH.nil
              go_simp
              go_wp2_with fail
              refine hK.out _ _ trivial (fun _ => ?_)
              clear hK K
              try simp only [Act.put, List.setIfInBounds_toArray, List.set_cons_zero, List.set_cons_succ]
              refine wpAnyH_ready (rs := [11]) (by kernel_rfl) (by simp) ?_
              refine AllReadyH.cons rfl (fun K hK => ?_) AllReadyH.nil
              refine wp_append_run (.tmp 23) (.tmp 29) rfl rfl rfl hrun9 ?_
              refine hK.out _ _ trivial (fun _ => ?_)
              clear hK K
              try simp only [Act.put, List.setIfInBounds_toArray, List.set_cons_zero, List.set_cons_succ]
              refine takeD (i := 12) (d := some 31) (v := ?_) rfl rfl (by kernel_rfl) (by kernel_rfl) (by kernel_rfl) (fun _ _ _ h => h) (Or.inl ⟨by rfl, ?_⟩) trivial ?_
              rotate_left
              · intro w hSw
                go_simp
                try (with_reducible rfl)
              try simp only [Act.put, List.setIfInBounds_toArray, List.set_cons_zero, List.set_cons_succ]
              refine takeD (i := 13) (d := some 32) (v := ?_) rfl rfl (by kernel_rfl) (by kernel_rfl) (by kernel_rfl) (fun _ _ _ h => h) (Or.inl ⟨by rfl, ?_⟩) trivial ?_
              rotate_left
              · intro w hSw
                go_simp
                try (with_reducible rfl)
              try simp only [Act.put, List.setIfInBounds_toArray, List.set_cons_zero, List.set_cons_succ]
              refine wpAnyH_ready (rs := [14]) (by kernel_rfl) (by simp) ?_
              refine AllReadyH.cons rfl (fun K hK => ?_) AllReadyH.nil
              go_simp
              go_wp2_with fail
              refine hK.out _ _ trivial (fun _ => ?_)
              clear hK K
              try simp only [Act.put, List.setIfInBounds_toArray, List.set_cons_zero, List.set_cons_succ]
              refine wpAnyH_done (by kernel_rfl) ?_ _
              refine NoPanic.normal ?_
              generalize w9.setCell ⟨cb, 0, none⟩ (.slice a2 (n + k + 1) c2) = w10 at HE9 ⊢
              clear hrun9 hc9 hf9 hs1 hs2 hs0 hz0 hz1 hz2 y0 y1 y2 hcr
              go_wp2
              go_roundw
              case rel => exact ⟨hide HE9.out.2, k + 1, by omega, by omega, by go_num, hide HE9.out.1⟩
              case measure => simp [intOf]; omega
            · go_simp
              go_wp2_with fail
              refine hK.out _ _ trivial (fun _ => ?_)
              clear hK K
              try simp only [Act.put, List.setIfInBounds_toArray, List.set_cons_zero, List.set_cons_succ]
              refine wpAnyH_ready (rs := [4]) (by kernel_rfl) (by simp) ?_
              refine AllReadyH.cons rfl (fun K hK => ?_) AllReadyH.nil
              go_simp
              go_wp2_with fail
              refine hK.out _ _ trivial (fun _ => ?_)
              clear hK K
              try simp only [Act.put, List.setIfInBounds_toArray, List.set_cons_zero, List.set_cons_succ]
              refine wpAnyH_ready (rs := [11]) (by kernel_rfl) (by simp) ?_
              refine AllReadyH.cons rfl (fun K hK => ?_) AllReadyH.nil
              refine wp_append_run (.tmp 23) (.tmp 29) rfl rfl rfl hrun9 ?_
              refine hK.out _ _ trivial (fun _ => ?_)
              clear hK K
              try simp only [Act.put, List.setIfInBounds_toArray, List.set_cons_zero, List.set_cons_succ]
              refine takeD (i := 12) (d := some 31) (v := ?_) rfl rfl (by kernel_rfl) (by kernel_rfl) (by kernel_rfl) (fun _ _ _ h => h) (Or.inl ⟨by rfl, ?_⟩) trivial ?_
              rotate_left
              · intro w hSw
                go_simp
                try (with_reducible rfl)
              try simp only [Act.put, List.setIfInBounds_toArray, List.set_cons_zero, List.set_cons_succ]
              refine takeD (i := 13) (d := some 32) (v := ?_) rfl rfl (by kernel_rfl) (by kernel_rfl) (by kernel_rfl) (fun _ _ _ h => h) (Or.inl ⟨by rfl, ?_⟩) trivial ?_
              rotate_left
              · intro w hSw
                go_simp
                try (with_reducible rfl)
              try simp only [Act.put, List.setIfInBounds_toArray, List.set_cons_zero, List.set_cons_succ]
              refine wpAnyH_ready (rs := [14]) (by kernel_rfl) (by simp) ?_
              refine AllReadyH.cons rfl (fun K hK => ?_) AllReadyH.nil
              go_simp
              go_wp2_with fail
              refine hK.out _ _ trivial (fun _ => ?_)
              clear hK K
              try simp only [Act.put, List.setIfInBounds_toArray, List.set_cons_zero, List.set_cons_succ]
              refine wpAnyH_done (by kernel_rfl) ?_ _
              refine NoPanic.normal ?_
              generalize w9.setCell ⟨cb, 0, none⟩ (.slice a2 (n + k + 1) c2) = w10 at HE9 ⊢
              clear hrun9 hc9 hf9 hs1 hs2 hs0 hz0 hz1 hz2 y0 y1 y2 hcr
              go_wp2
              go_roundw
              case rel => exact ⟨hide HE9.out.2, k + 1, by omega, by omega, by go_num, hide HE9.out.1⟩
              case measure => simp [intOf]; omega
    · obtain rfl : k = m := by omega
      have hq : min (l.map Pm.p).length (10000 - L.length) = k := by rw [HP.out, ← HLn.out]; omega
      have HQ := hide hq
      have HT := hide (show (l.map Pm.p).take (10000 - L.length) = (l.map Pm.p).take k by rw [List.take_of_length_le (by rw [HP.out, ← HLn.out]; omega), List.take_of_length_le (by rw [HP.out]; exact Nat.le_refl _)])
      clear hq
      go_wp2
      go_ret
      exact ⟨by rw [HQ.out]; rfl, by rw [HT.out]; exact HR.out, HK.out⟩
end Go.Proofs.Ytmjglgdihlomlaa
