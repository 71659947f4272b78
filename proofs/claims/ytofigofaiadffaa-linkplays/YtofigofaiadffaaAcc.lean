/- accept. -/
import Derived.Test.YtofigofaiadffaaOrd
namespace Go.Proofs.Ytofigofaiadffaa
open Go.RowKit Go.ChangeShapes Go.WideShapes Go.ChangeAt Go.Deep

/-- A load that came early is kept. -/
theorem Rel.keepE {s : Lk} {m : Lm} (h : Rel s m) {n : Nat} (h1 : s.came < n) (h2 : n ≤ s.came + 8) (hh : (m.es (n % 8)).here = false) (t : Txt) : Rel { s with ea := keepE s.ea n t.bs } { m with es := upd m.es (n % 8) ⟨t, true⟩ } := by
  have hn : s.ea n = none := by
    have := h.ea (n - s.came - 1) (by omega)
    rw [show s.came + 1 + (n - s.came - 1) = n by omega, hh] at this
    simpa using this
  have he : Go.Proofs.Ytofigofaiadffaa.keepE s.ea n t.bs = upd s.ea n (some t.bs) := by unfold Go.Proofs.Ytofigofaiadffaa.keepE; simp [hn]
  refine ⟨h.last, h.used, h.acked, h.came, h.owed, h.self, h.peer, h.life, h.theirs, h.len, h.op, h.opb, fun i hi => ?_, fun k hk => ?_⟩
  · simp only [he]
    by_cases e : s.came + 1 + i = n
    · rw [e]
      simp [upd_same]
    · rw [upd_ne _ _ _ _ e, upd_ne _ _ _ _ (by omega)]
      exact h.ea i hi
  · simp only [he]
    rw [upd_ne _ _ _ _ (by simp only at hk; omega)]
    exact h.far k hk
theorem Rel.hereE {s : Lk} {m : Lm} (h : Rel s m) {n : Nat} (h1 : s.came < n) (h2 : n ≤ s.came + 8) (hh : (m.es (n % 8)).here = true) (xs : List Nat) : Go.Proofs.Ytofigofaiadffaa.keepE s.ea n xs = s.ea := by
  have := h.ea (n - s.came - 1) (by omega)
  rw [show s.came + 1 + (n - s.came - 1) = n by omega, hh] at this
  unfold Go.Proofs.Ytofigofaiadffaa.keepE
  simp [this]
/-- The store of an early load. -/
theorem keep_put {D : Nat → Prop} {w w2 : World} {g : Nat} {s : Lk} {xs : List Nat} {a1 : Option Addr} {q c1 n : Nat} (h : LinkP D w g s) (h1 : s.came < n) (h2 : n ≤ s.came + 8) (hh : w.cell? ⟨g, 28 + (n % 8) * 2 + 1, none⟩ = some (.bool false))
    (hb : Below w.heap.size w w2) (hw : w2.ownsRow w.heap.size 5 1 (.slice a1 q c1) q (bV xs)) (hB : Byt xs) (hq : q ≤ 4096) :
    (∃ v0 v1, w2.cell? ⟨g, 28 + (n % 8) * 2, none⟩ = some v0 ∧ w2.cell? ⟨g, 28 + (n % 8) * 2 + 1, none⟩ = some v1) ∧ (∀ j, j < 49 → w2.frozen? ⟨g, j, none⟩ = false) ∧ LinkP (Ex D w w2) (put2 w2 g (28 + (n % 8) * 2) (.slice a1 q c1) (.bool true)) g { s with ea := keepE s.ea n xs } ∧ Kp (fun k => k = g) w (put2 w2 g (28 + (n % 8) * 2) (.slice a1 q c1) (.bool true)) := by
  have hL := h.lt
  obtain ⟨m, hc, ho, hr⟩ := h
  have h8 : n % 8 < 8 := Nat.mod_lt _ (by omega)
  have hhe : (m.es (n % 8)).here = false := by
    have := hc.e1 _ h8
    rw [hh] at this
    simpa using this.symm
  have hc2 := hc.keep hb.size (hb.block g hc.lt)
  have ho2 : OwnL (Ex D w w2) w2 g m := (ho.keep hb.size fun k hd _ => hb.block k (ho.dl k hd)).mono (fun k hk => .inl hk) (fun k hk => hk.elim (fun h => Nat.lt_of_lt_of_le (ho.dl k h) hb.size) fun h => h.2)
  have hc3 := hc2.put_e _ h8 ⟨⟨a1, q, c1, xs⟩, true⟩
  obtain ⟨a', c', e', hT⟩ := txo_new (W := w) hw hB hq
  simp only [Value.slice.injEq, true_and] at e'
  obtain ⟨rfl, rfl⟩ := e'
  have ho3 := ho2.put_e (n % 8) ⟨⟨a1, q, c1, xs⟩, true⟩ (hT.mono fun k hk => .inr hk) (fun ad e => by have := hT.2.2 ad e; have := hc.lt; omega)
  refine ⟨⟨_, _, hc2.e0 _ h8, hc2.e1 _ h8⟩, hc2.fz, ⟨_, hc3, ?_, hr.keepE h1 h2 hhe ⟨a1, q, c1, xs⟩⟩, ?_⟩
  · have h4 := ho3.keep (w' := put2 w2 g (28 + (n % 8) * 2) (.slice a1 q c1) (.bool true)) (by rw [put2_size]; exact Nat.le_refl _) (fun k _ hk => put2_keep hk _ _)
    exact h4
  · unfold put2
    exact ((Kp.of_below (D := fun k => k = g) hb).put (.inl rfl) _).put (.inl rfl) _
/-- What accept leaves. -/
def AccQ (D : Nat → Prop) (w : World) (g : Nat) (s : Lk) (n : Int) (xs : List Nat) (e : Ending) (w' : World) : Prop :=
  ∃ a m c l, e = .returned (.slice a m c) ∧ RowT (fun k => Ex D w w' k ∧ k ≠ g) w.heap.size w' a m c l ∧ l.map Txt.bs = accF s n xs ∧ LinkP (Ex D w w') w' g (accL s n xs) ∧ Kp (fun k => k = g) w w'
theorem LinkP.toEx {D : Nat → Prop} {w w' : World} {g : Nat} {s : Lk} (h : LinkP D w' g s) : LinkP (Ex D w w') w' g s := h.mono (fun _ hk => .inl hk) (fun k hk => hk.elim (h.lt k) fun h1 => h1.2)
/-- accept's end: behind inOrder. -/
theorem acc_end {D : Nat → Prop} {w w3 w' : World} {g : Nat} {s : Lk} {n : Nat} {xs : List Nat} {e : Ending} (h1 : s.came < n) (h2 : n ≤ s.came + 8) (hK : Kp (fun k => k = g) w w3) (hO : OrdQ (Ex D w w3) w3 g { s with owed := true, ea := keepE s.ea n xs } e w') : AccQ D w g s (n : Int) xs e w' := by
  obtain ⟨a, m, c, l, rfl, hR, hl, hP, hK'⟩ := hO
  have hs := hK.size
  have hs' := hK'.size
  have hE : ∀ k, Ex D w w3 k → Ex D w w' k := fun k hk => hk.elim .inl fun h => .inr ⟨h.1, by omega⟩
  have hcond : ¬ ((n : Int) ≤ (s.came : Int) ∨ (s.came : Int) + 8 < (n : Int)) := by omega
  refine ⟨a, m, c, l, rfl, hR.mono (fun k hk => ⟨hE k hk.1, hk.2⟩) hs, ?_, ?_, hK.trans hK'⟩
  · unfold accF
    rw [if_neg hcond, Int.toNat_natCast]
    exact hl
  · unfold accL
    rw [if_neg hcond, Int.toNat_natCast]
    exact hP.mono hE (fun k hk => hk.elim (fun h => hP.lt k (.inl h)) fun h => h.2)
set_option linter.unusedSimpArgs false in
set_option maxRecDepth 100000 in
set_option maxHeartbeats 4000000 in
theorem accept_any (D : Nat → Prop) (g : Nat) (s : Lk) (n : Int) (a : Option Addr) (q c : Nat) (xs : List Nat) (w : World) (h : LinkP D w g s) (hu : s.came ≤ 1000000) (hn : 0 ≤ n) (hl : xs.length = q) (hq : q ≤ 4096) (hB : Byt xs) (hr : Reads w a (bV xs)) (hnil : a = none → q = 0 ∧ c = 0) (hne : ∀ ad, a = some ad → 0 < q → ad.block ≠ g) :
    Calls Try.prog 35 #[.pointer (some ⟨g, 27, none⟩), .int .i64 n, .slice a q c] w (AccQ D w g s n xs) := by
  have H1 := hide (h.owed true)
  obtain ⟨v44, y44⟩ : ∃ v, w.cell? ⟨g, 44, none⟩ = some v := by obtain ⟨m, hc, _, _⟩ := h; exact ⟨_, hc.owed⟩
  have f44 : w.frozen? ⟨g, 44, none⟩ = false := by obtain ⟨m, hc, _, _⟩ := h; exact hc.fz 44 (by omega)
  have HK1 := hide (show Kp (fun k => k = g) w (w.setCell ⟨g, 44, none⟩ (.bool true)) from (Kp.refl (fun k => k = g) w).put (.inl rfl) _)
  have HR1 := hide (show Reads (w.setCell ⟨g, 44, none⟩ (.bool true)) a (bV xs) from hr.setg hl hne)
  have HSZ := hide (show (w.setCell ⟨g, 44, none⟩ (.bool true)).heap.size = w.heap.size from size_set _ _ _)
  obtain ⟨W, hW⟩ : ∃ W, W = w.setCell ⟨g, 44, none⟩ (.bool true) := ⟨_, rfl⟩
  rw [← hW] at H1 HK1 HR1 HSZ
  obtain ⟨C, hC⟩ : ∃ C, C = s.came := ⟨_, rfl⟩
  have HC := hide hC
  have hcb : C ≤ 1000000 := by omega
  have yc : W.cell? ⟨g, 27, none⟩ = some (.int .i64 (C : Int)) := by
    obtain ⟨m, hc, _, hr⟩ := H1.out
    rw [hc.came, hr.came, hC]
  have HW := hide hW
  have HB := hide hB
  have HL := hide hl
  have HNL := hide hnil
  clear h hu hl hB hr hnil hne hC hW
  by_cases h1 : n ≤ (C : Int)
  · have HF := hide (show accF s n xs = [] from by unfold accF; rw [if_pos (.inl (HC.out ▸ h1))])
    have HA := hide (show accL s n xs = { s with owed := true } from by unfold accL; rw [if_pos (.inl (HC.out ▸ h1))])
    unfold AccQ
    go_enter Try.func35, Try.ntmps35
    go_upto_region 2 with fail
    rw [← HW.out]
    have q1 : decide (n ≤ (C : Int)) = true := by simpa using h1
    go_wp2
    go_ret
    first | exact ⟨_, _, _, rfl, [], RowT.nil _ _ _, by rw [HF.out]; rfl, by rw [HA.out]; exact H1.out.toEx, HK1.out⟩ | exact ⟨_, _, _, [], rfl, RowT.nil _ _ _, by rw [HF.out]; rfl, by rw [HA.out]; exact H1.out.toEx, HK1.out⟩
  · by_cases h2 : (C : Int) + 8 < n
    · have HF := hide (show accF s n xs = [] from by unfold accF; rw [if_pos (.inr (HC.out ▸ h2))])
      have HA := hide (show accL s n xs = { s with owed := true } from by unfold accL; rw [if_pos (.inr (HC.out ▸ h2))])
      unfold AccQ
      go_enter Try.func35, Try.ntmps35
      go_upto_region 2 with fail
      rw [← HW.out]
      have q1 : decide (n ≤ (C : Int)) = false := by simpa using h1
      go_wp2
      go_ret
      first | exact ⟨_, _, _, rfl, [], RowT.nil _ _ _, by rw [HF.out]; rfl, by rw [HA.out]; exact H1.out.toEx, HK1.out⟩ | exact ⟨_, _, _, [], rfl, RowT.nil _ _ _, by rw [HF.out]; rfl, by rw [HA.out]; exact H1.out.toEx, HK1.out⟩
    · obtain ⟨N, rfl⟩ : ∃ N : Nat, n = (N : Int) := ⟨n.toNat, by omega⟩
      have HN1 := hide (show s.came < N from by have := HC.out; omega)
      have HN2 := hide (show N ≤ s.came + 8 from by have := HC.out; omega)
      have C39 := hide (spot_any g N W)
      have h8 : N % 8 < 8 := Nat.mod_lt _ (by omega)
      obtain ⟨hb, yh⟩ : ∃ hb, W.cell? ⟨g, 28 + (N % 8) * 2 + 1, none⟩ = some (.bool hb) := by
        obtain ⟨m, hc, _, _⟩ := H1.out
        exact ⟨_, hc.e1 _ h8⟩
      cases hb with
      | true =>
        have HP := hide (show LinkP D W g { s with owed := true, ea := keepE s.ea N xs } from by
          have hP := H1.out
          have hP' := hP
          obtain ⟨m, hc, _, hrr⟩ := hP'
          have h9 := hc.e1 _ h8
          rw [yh] at h9
          have h10 := hrr.hereE HN1.out HN2.out (by simpa using h9.symm) xs
          simp only at h10
          rw [h10]
          exact hP)
        have C40 := hide (order_any (Ex D w W) g _ W HP.out.toEx (show s.came ≤ 1000000 by have := HC.out; omega))
        have HEND := hide (fun e w' hO => acc_end (D := D) (w := w) (w3 := W) (w' := w') (g := g) (s := s) (n := N) (xs := xs) (e := e) HN1.out HN2.out HK1.out hO)
        generalize N % 8 = kk at C39 yh h8
        go_enter Try.func35, Try.ntmps35
        go_upto_region 2 with fail
        rw [← HW.out]
        have q1 : decide ((N : Int) ≤ (C : Int)) = false := by simpa using h1
        go_wp2_with (first
          | (go_at_call 39; go_must ((with_reducible refine C39.out.mono ?_); rintro e w9 ⟨rfl, hw⟩; have hw' : W = w9 := hw.symm; subst hw'))
          | (go_at_call 40; go_must ((with_reducible refine C40.out.mono ?_); rintro e w9 hO; have HO := hide (HEND.out _ _ hO); obtain ⟨a9, m9, c9, l9, rfl, -⟩ := hO)))
        go_ret
        exact HO.out
      | false =>
        have C26 := hide (clone_any a q c xs W HL.out HR1.out HNL.out (by omega))
        have HKE := hide (fun w2 a1 c1 => keep_put (w2 := w2) (xs := xs) (a1 := a1) (q := q) (c1 := c1) (n := N) H1.out HN1.out HN2.out yh)
        have HEND := hide (fun w3 (hk : Kp (fun k => k = g) w w3) e w' hO => acc_end (D := D) (w := w) (w3 := w3) (w' := w') (g := g) (s := s) (n := N) (xs := xs) (e := e) HN1.out HN2.out hk hO)
        have HCB := hide (show s.came ≤ 1000000 by have := HC.out; omega)
        generalize N % 8 = kk at C39 yh h8 HKE
        go_enter Try.func35, Try.ntmps35
        go_upto_region 2 with fail
        rw [← HW.out]
        have q1 : decide ((N : Int) ≤ (C : Int)) = false := by simpa using h1
        go_upto_region 7 with (first
          | (go_at_call 39; go_must ((with_reducible refine C39.out.mono ?_); rintro e w9 ⟨rfl, hw⟩; have hw' : W = w9 := hw.symm; subst hw'))
          | (go_at_call 26; go_must ((with_reducible refine C26.out.mono ?_); rintro e w2 ⟨v2, rfl, ho2, hb2⟩; obtain ⟨a2, c2, rfl⟩ := open5 ho2; obtain ⟨⟨v0, v1, x0, x1⟩, hf, hLP, hKP⟩ := HKE.out w2 a2 c2 hb2 ho2 HB.out hq; have f0 := hf (28 + kk * 2) (by omega); have f1 := hf (28 + kk * 2 + 1) (by omega); have HLP := hide hLP; have HKP := hide (HK1.out.trans hKP); clear hf hLP hKP ho2 hb2)))
        have HS2 := hide (put2_size w2 g (28 + kk * 2) (.slice a2 q c2) (.bool true))
        obtain ⟨w3, hw3⟩ : ∃ w3, w3 = put2 w2 g (28 + kk * 2) (.slice a2 q c2) (.bool true) := ⟨_, rfl⟩
        rw [← hw3] at HLP HKP HS2
        unfold put2 at hw3
        rw [← hw3]
        have C40 := hide (order_any (Ex D w w3) g _ w3 (HLP.out.mono (fun k hk => hk.elim .inl fun h => .inr ⟨by have := HSZ.out; omega, by have := HS2.out; omega⟩) (fun k hk => hk.elim (fun h => HLP.out.lt k (.inl h)) fun h => h.2)) HCB.out)
        clear hw3 x0 x1 f0 f1
        go_wp2_with (go_at_call 40; go_must ((with_reducible refine C40.out.mono ?_); rintro e w9 hO; have HO := hide (HEND.out w3 HKP.out _ _ hO); obtain ⟨a9, m9, c9, l9, rfl, -⟩ := hO))
        go_ret
        exact HO.out
end Go.Proofs.Ytofigofaiadffaa
