/- Send. -/
import Derived.Test.YtofigofaiadffaaSen
namespace Go.Proofs.Ytofigofaiadffaa
open Go.RowKit Go.ChangeShapes Go.WideShapes Go.ChangeAt Go.Deep

theorem Reads.setg {w : World} {a : Option Addr} {n g o : Nat} {xs : List Nat} {v : Value} (h : Reads w a (bV xs)) (hl : xs.length = n) (hne : ∀ ad, a = some ad → 0 < n → ad.block ≠ g) : Reads (w.setCell ⟨g, o, none⟩ v) a (bV xs) := by
  rcases h with h | ⟨b, off, rfl, h⟩
  · exact .inl h
  · by_cases h0 : 0 < n
    · exact Reads.keepN (g := g) (.inr ⟨b, off, rfl, h⟩) (fun ad e => hne ad e h0) (fun k hk _ => Below.heap_setCell _ _ _ _ hk)
    · exact .inl (by rw [List.eq_nil_of_length_eq_zero (show xs.length = 0 by omega)]; rfl)
/-- What Send leaves. -/
def SendQ (D : Nat → Prop) (w : World) (g : Nat) (s : Lk) (xs : List Nat) (e : Ending) (w' : World) : Prop := e = .returned (.int .i64 (sendE s xs)) ∧ LinkP (Ex D w w') w' g (sendL s xs) ∧ Kp (fun k => k = g) w w'
theorem link_stay {D : Nat → Prop} {w w' : World} {g : Nat} {s : Lk} (h : LinkP D w g s) (hb : Below w.heap.size w w') : LinkP (Ex D w w') w' g s ∧ Kp (fun k => k = g) w w' :=
  ⟨(h.below hb).mono (fun _ hk => .inl hk) (fun k hk => hk.elim (fun h1 => Nat.lt_of_lt_of_le (h.lt k h1) hb.size) fun h1 => h1.2), .of_below hb⟩
/-- What was left from a later world on. -/
theorem link_from {D : Nat → Prop} {w w1 w' : World} {g : Nat} {s : Lk} (hb : Below w.heap.size w w1) (h : LinkP (Ex D w1 w') w' g s) (hk : Kp (fun k => k = g) w1 w') : LinkP (Ex D w w') w' g s ∧ Kp (fun k => k = g) w w' :=
  ⟨h.mono (fun _ hq => hq.elim .inl fun h1 => .inr ⟨by have := hb.size; omega, h1.2⟩) (fun k hq => hq.elim (fun h1 => h.lt k (.inl h1)) fun h1 => h1.2), (Kp.of_below hb).trans hk⟩
/-- The store of a new open load. -/
theorem send_put {D : Nat → Prop} {w w2 : World} {g : Nat} {s : Lk} {m : Lm} {xs : List Nat} {a1 : Option Addr} {n c1 : Nat} (hc : LinkC w g m) (ho : OwnL D w g m) (hr : Rel s m) (hl : s.op.length < 8) (hx : sendE s xs = 0)
    (hb : Below (w.setCell ⟨g, 1, none⟩ (.int .i64 ((s.acked + s.op.length + 1 : Nat) : Int))).heap.size (w.setCell ⟨g, 1, none⟩ (.int .i64 ((s.acked + s.op.length + 1 : Nat) : Int))) w2) (hw : w2.ownsRow w.heap.size 5 1 (.slice a1 n c1) n (bV xs)) (hB : Byt xs) (hn : n ≤ 4096) :
    LinkC w2 g { m with used := ((s.acked + s.op.length + 1 : Nat) : Int) } ∧ LinkP (Ex D w (put3 w2 g (3 + ((s.acked + s.op.length + 1) % 8) * 3) (.slice a1 n c1) (.int .i64 0) (.int .i64 0))) (put3 w2 g (3 + ((s.acked + s.op.length + 1) % 8) * 3) (.slice a1 n c1) (.int .i64 0) (.int .i64 0)) g (sendL s xs) ∧ Kp (fun k => k = g) w (put3 w2 g (3 + ((s.acked + s.op.length + 1) % 8) * 3) (.slice a1 n c1) (.int .i64 0) (.int .i64 0)) := by
  have hs1 : (w.setCell ⟨g, 1, none⟩ (.int .i64 ((s.acked + s.op.length + 1 : Nat) : Int))).heap.size = w.heap.size := size_set _ _ _
  have hk1 : Kp (fun k => k = g) w (w.setCell ⟨g, 1, none⟩ (.int .i64 ((s.acked + s.op.length + 1 : Nat) : Int))) := (Kp.refl (fun k => k = g) w).put (.inl rfl) _
  have hc1 := hc.put_used ((s.acked + s.op.length + 1 : Nat) : Int)
  generalize w.setCell ⟨g, 1, none⟩ (.int .i64 ((s.acked + s.op.length + 1 : Nat) : Int)) = w1 at hb hs1 hk1 hc1
  have hc2 : LinkC w2 g { m with used := ((s.acked + s.op.length + 1 : Nat) : Int) } := hc1.keep hb.size (hb.block g hc1.lt)
  have hk2 : Kp (fun k => k = g) w w2 := hk1.below hb
  have hsz := hk2.size
  have ho2 : OwnL D w2 g m := ho.keep hsz fun k hd hne => hk2.block k (ho.dl k hd) hne
  have hmd : (s.acked + s.op.length + 1) % 8 < 8 := Nat.mod_lt _ (by omega)
  have hc3 := hc2.put_o _ hmd ⟨⟨a1, n, c1, xs⟩, 0, 0⟩
  obtain ⟨a', c', e', hT⟩ := txo_new (W := w) hw hB hn
  simp only [Value.slice.injEq, true_and] at e'
  obtain ⟨rfl, rfl⟩ := e'
  have hne : ∀ ad, a1 = some ad → ad.block ≠ g := fun ad e => by have := hT.2.2 ad e; have := hc.lt; omega
  have ho3 : OwnL (Ex D w w2) w2 g { m with used := ((s.acked + s.op.length + 1 : Nat) : Int), os := upd m.os ((s.acked + s.op.length + 1) % 8) ⟨⟨a1, n, c1, xs⟩, 0, 0⟩ } := by
    have h1 : OwnL (Ex D w w2) w2 g m := ho2.mono (fun k hk => .inl hk) (fun k hk => hk.elim (fun h => Nat.lt_of_lt_of_le (ho.dl k h) hsz) fun h => h.2)
    have h2 := h1.put_o ((s.acked + s.op.length + 1) % 8) ⟨⟨a1, n, c1, xs⟩, 0, 0⟩ (hT.mono fun k hk => .inr hk) hne
    exact ⟨h2.dg, h2.dl, h2.o, h2.e⟩
  generalize hw3 : put3 w2 g (3 + ((s.acked + s.op.length + 1) % 8) * 3) (.slice a1 n c1) (.int .i64 0) (.int .i64 0) = w3 at hc3 ⊢
  have hs3 : w3.heap.size = w2.heap.size := by rw [← hw3]; exact put3_size _ _ _ _ _ _
  have hk3 : Kp (fun k => k = g) w w3 := by
    rw [← hw3]
    unfold put3
    exact ((hk2.put (.inl rfl) _).put (.inl rfl) _).put (.inl rfl) _
  have hk23 : ∀ k, k ≠ g → w3.heap[k]? = w2.heap[k]? := fun k hk => by rw [← hw3]; exact put3_keep hk _ _ _
  refine ⟨hc2, ⟨_, hc3, ?_, ?_⟩, hk3⟩
  · refine (ho3.keep (by omega) fun k _ hne => hk23 k hne).mono (fun k hk => hk.elim .inl fun h => .inr ⟨h.1, by omega⟩) (fun k hk => hk.elim (fun h => by have := ho.dl k h; omega) fun h => h.2)
  · unfold sendL
    rw [if_pos hx]
    exact hr.send hl ⟨a1, n, c1, xs⟩
theorem sendE_0 {s : Lk} {x : List Nat} (h1 : ¬ 4096 < x.length) (h2 : ¬ s.last ≤ (s.used : Int)) (h3 : ¬ 8 ≤ s.op.length) : sendE s x = 0 := by simp [sendE, h1, h2, h3]

set_option linter.unusedSimpArgs false in
set_option maxRecDepth 100000 in
set_option maxHeartbeats 1000000 in
theorem send_any (D : Nat → Prop) (g : Nat) (s : Lk) (a : Option Addr) (n c : Nat) (xs : List Nat) (w : World) (h : LinkP D w g s) (hu : s.used ≤ 1000000) (hl : xs.length = n) (hB : Byt xs) (hr : Reads w a (bV xs)) (hnil : a = none → n = 0 ∧ c = 0) (hne : ∀ ad, a = some ad → 0 < n → ad.block ≠ g) :
    Calls Try.prog 12 #[.pointer (some ⟨g, 0, none⟩), .slice a n c] w (SendQ D w g s xs) := by
  have HP := hide h
  obtain ⟨m, hc, ho, hrl⟩ := h
  have HRl := hide hrl
  unfold SendQ
  by_cases h1 : 4096 < n
  · have h1' : (4096 : Int) < (n : Int) := by omega
    have HE := hide (show sendE s xs = 3 by simp [sendE, hl, h1])
    have HL := hide (show sendL s xs = s by unfold sendL; rw [HE.out]; simp)
    clear hc ho hrl hr hl hB hnil hne hu
    go_enter Try.func12, Try.ntmps12
    go_wp2
    go_ret
    exact ⟨by rw [HE.out]; rfl, by rw [HL.out]; exact (link_stay HP.out (Below.refl _ _)).1, Kp.refl _ _⟩
  · have h1' : ¬ (4096 : Int) < (n : Int) := by omega
    have y0 := hc.last
    have y1 := hc.used
    rw [hrl.last] at y0
    rw [hrl.used] at y1
    by_cases h2 : s.last ≤ ((s.acked + s.op.length : Nat) : Int)
    · have HE := hide (show sendE s xs = 32 by unfold sendE Lk.used; rw [hl, if_neg h1, if_pos h2])
      have HL := hide (show sendL s xs = s by unfold sendL; rw [HE.out]; simp)
      generalize s.acked + s.op.length = u at y1 h2
      generalize s.last = la at y0 h2
      clear hc ho hrl hr hl hB hnil hne hu
      go_enter Try.func12, Try.ntmps12
      go_wp2_with fail
      go_big_quiet (fail)
      go_wp2_with fail
      go_ret
      exact ⟨by rw [HE.out]; rfl, by rw [HL.out]; exact (link_stay HP.out (below_drewN (Below.refl _ _) _)).1, .of_below (below_drewN (Below.refl _ _) _)⟩
    · have C21 := hide (fun W (hb : Below w.heap.size w W) => open_any D g s W (HP.out.below hb) hu)
      have HU := hide hu
      by_cases h3 : 8 ≤ s.op.length
      · have HE := hide (show sendE s xs = 31 by unfold sendE Lk.used; rw [hl, if_neg h1, if_neg h2, if_pos h3])
        have HL := hide (show sendL s xs = s by unfold sendL; rw [HE.out]; simp)
        have h3' : (8 : Int) ≤ (s.op.length : Int) := by omega
        generalize s.acked + s.op.length = u at y1 h2
        generalize s.last = la at y0 h2
        generalize s.op.length = q at C21 h3 h3'
        clear hc ho hrl hr hl hB hnil hne hu HRl
        go_enter Try.func12, Try.ntmps12
        go_wp2_with fail
        go_big_quiet (fail)
        have HX := hide (below_drewN (Below.refl w.heap.size w) nq)
        generalize w.drewN nq = X at HX ⊢
        go_wp2_with (go_at_call 21; go_must ((with_reducible refine (C21.out X HX.out).mono ?_); rintro e w1 ⟨rfl, hb1⟩; have HB1 := hide (HX.out.trans (hb1.mono HX.out.size)); clear hb1))
        go_ret
        exact ⟨by rw [HE.out]; rfl, by rw [HL.out]; exact (link_stay HP.out HB1.out).1, .of_below HB1.out⟩
      · have HE := hide (show sendE s xs = 0 by unfold sendE Lk.used; rw [hl, if_neg h1, if_neg h2, if_neg h3])
        have h3' : ¬ (8 : Int) ≤ (s.op.length : Int) := by omega
        obtain ⟨u, hu2⟩ : ∃ u, u = s.acked + s.op.length := ⟨_, rfl⟩
        have HUU := hide hu2
        rw [← hu2] at y1 h2
        have hub : u ≤ 1000000 := by have h := HU.out; unfold Lk.used at h; omega
        have hq : ((u + 1 : Nat) : Int) = (u : Int) + 1 := by omega
        have C27 := hide (fun W => show Calls Try.prog 27 #[.pointer (some ⟨g, 0, none⟩), .int .i64 ((u : Int) + 1)] W fun e w' => e = .returned (.pointer (some ⟨g, 3 + ((u + 1) % 8) * 3, none⟩)) ∧ w' = W from hq ▸ place_any g (u + 1) W)
        have hk8 : (u + 1) % 8 < 8 := Nat.mod_lt _ (by omega)
        have HCL := hide hc
        have HOW := hide ho
        have HR := hide hr
        have HL := hide hl
        have HB := hide hB
        have HN := hide hnil
        have HNE := hide hne
        have HS := hide (show s.op.length < 8 by omega)
        generalize s.last = la at y0 h2
        generalize s.op.length = q at C21 h3'
        clear hc ho hrl hr hl hB hnil hne hu h3 hu2 hq
        go_enter Try.func12, Try.ntmps12
        go_wp2_with fail
        go_big_quiet (fail)
        have HX := hide (below_drewN (Below.refl w.heap.size w) nq)
        generalize w.drewN nq = X at HX ⊢
        go_upto_region 7 with (go_at_call 21; go_must ((with_reducible refine (C21.out X HX.out).mono ?_); rintro e w1 ⟨rfl, hb1⟩; have HB1 := hide (HX.out.trans (hb1.mono HX.out.size)); clear hb1))
        have HC1 := hide (HCL.out.keep HB1.out.size (HB1.out.block g HCL.out.lt))
        have HO1 := hide (HOW.out.keep HB1.out.size fun k hd _ => HB1.out.block k (HOW.out.dl k hd))
        have z1 : w1.cell? ⟨g, 1, none⟩ = some (.int .i64 (u : Int)) := keep_cell y1 HB1.out
        have f1 := HC1.out.fz 1 (by omega)
        have hq : ((s.acked + s.op.length + 1 : Nat) : Int) = (u : Int) + 1 := by have := HUU.out; omega
        have hq2 : s.acked + s.op.length + 1 = u + 1 := by have := HUU.out; omega
        have HSP := hide (fun w2 a1 c1 => send_put (w := w1) (w2 := w2) (xs := xs) (a1 := a1) (n := n) (c1 := c1) HC1.out HO1.out HRl.out HS.out HE.out)
        rw [hq, hq2] at HSP
        have HC2 := hide (HC1.out.put_used ((u : Int) + 1))
        have z2 := HC2.out.used
        have HRD := hide (show Reads (w1.setCell ⟨g, 1, none⟩ (.int .i64 ((u : Int) + 1))) a (bV xs) from (HR.out.below HB1.out).setg HL.out HNE.out)
        have HSZ := hide (show (w1.setCell ⟨g, 1, none⟩ (.int .i64 ((u : Int) + 1))).heap.size = w1.heap.size from size_set _ _ _)
        have C26 := hide (fun W (e : W = w1.setCell ⟨g, 1, none⟩ (.int .i64 ((u : Int) + 1))) => clone_any a n c xs W HL.out (e ▸ HRD.out) HN.out (by omega))
        clear hq hq2 y0 y1
        generalize hk : (u + 1) % 8 = k at C27 HSP hk8
        clear hk
        generalize hw1 : w1.setCell ⟨g, 1, none⟩ (.int .i64 ((u : Int) + 1)) = w1s at HSP HC2 z2 HRD HSZ C26
        have HW1 := hide hw1
        clear hw1
        go_wp2_with (first
          | (go_at_call 27; go_must (rw [HW1.out]; (with_reducible refine (C27.out w1s).mono ?_); rintro e w2 ⟨rfl, hw2⟩; have hw2' : w1s = w2 := hw2.symm; subst hw2'))
          | (go_at_call 26; go_must ((with_reducible refine (C26.out w1s rfl).mono ?_); rintro e w2 ⟨v2, rfl, ho2, hb2⟩; obtain ⟨a2, c2, rfl⟩ := open5 ho2; rw [HSZ.out] at ho2; have HS2 := hide (HSP.out w2 a2 c2 hb2 ho2 HB.out (by omega)); have x0 := HS2.out.1.o0 k hk8; have x1 := HS2.out.1.o1 k hk8; have x2 := HS2.out.1.o2 k hk8; have g0 := HS2.out.1.fz (3 + k * 3) (by omega); have g1 := HS2.out.1.fz (3 + k * 3 + 1) (by omega); have g2 := HS2.out.1.fz (3 + k * 3 + 2) (by omega); clear ho2 hb2)))
        obtain ⟨-, hP, hK⟩ := HS2.out
        have HP2 := hide (link_from HB1.out hP hK)
        clear hP hK
        unfold put3 at HP2
        go_ret
        exact ⟨by rw [HE.out]; rfl, HP2.out.1, HP2.out.2⟩
end Go.Proofs.Ytofigofaiadffaa
