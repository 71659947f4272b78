/- dueAt. -/
import Derived.Test.YtofigofaiadffaaDue
namespace Go.Proofs.Ytofigofaiadffaa
open Go.RowKit Go.ChangeShapes Go.WideShapes Go.ChangeAt Go.Deep

/-- The open loads when i of them were looked at. -/
def opI (now : Int) (l : List Op) (i : Nat) : List Op := (l.take i).map (dueO now) ++ l.drop i
theorem opI_len (now : Int) (l : List Op) (i : Nat) : (opI now l i).length = l.length := by
  unfold opI
  simp
  omega
theorem opI_at (now : Int) (l : List Op) (i : Nat) (h : i < l.length) : (opI now l i)[i]'(by rw [opI_len]; exact h) = l[i] := by
  unfold opI
  rw [List.getElem_append_right (by simp; omega)]
  simp [show min i l.length = i by omega]
theorem opI_zero (now : Int) (l : List Op) : opI now l 0 = l := by simp [opI]
theorem opI_end (now : Int) (l : List Op) : opI now l l.length = l.map (dueO now) := by simp [opI]
theorem opI_yes (now : Int) (l : List Op) (i : Nat) (h : i < l.length) (hd : dueB l[i] now = true) : opI now l (i + 1) = (opI now l i).set i (goO l[i] now) := by
  unfold opI
  rw [List.take_succ_eq_append_getElem h, List.set_append_right _ _ (by simp; omega), List.map_append, List.drop_eq_getElem_cons (i := i) h]
  simp only [List.length_map, List.length_take, show min i l.length = i by omega, Nat.sub_self, List.set_cons_zero, List.append_assoc, List.map_cons, List.map_nil, List.singleton_append, dueO, hd, if_true]
theorem opI_no (now : Int) (l : List Op) (i : Nat) (h : i < l.length) (hd : dueB l[i] now = false) : opI now l (i + 1) = opI now l i := by
  unfold opI
  rw [List.take_succ_eq_append_getElem h, List.map_append, List.drop_eq_getElem_cons (i := i) h]
  simp [dueO, hd]
theorem dueF_snoc (now : Int) (l : List Op) (o : Op) : ∀ n, dueF now n (l ++ [o]) = dueF now n l ++ (if dueB o now then [(n + l.length, o.x)] else []) := by
  induction l with
  | nil => intro n; simp [dueF]
  | cons a r ih => intro n; simp only [List.cons_append, dueF, ih, List.append_assoc, List.length_cons]; rw [show n + 1 + r.length = n + (r.length + 1) by omega]
theorem dueF_len (now : Int) (l : List Op) : ∀ n, (dueF now n l).length ≤ l.length := by
  induction l with
  | nil => intro n; simp [dueF]
  | cons a r ih => intro n; have := ih (n + 1); simp only [dueF, List.length_append, List.length_cons]; split <;> simp <;> omega
def zf (p : Nat × List Nat) : Fr := ⟨0, 0, 0, p.1, 0, p.2⟩
/-- What dueAt leaves. -/
def DueQ (D : Nat → Prop) (w : World) (g : Nat) (s : Lk) (now : Int) (e : Ending) (w' : World) : Prop :=
  ∃ a n c l, e = .returned (.slice a n c) ∧ RowF w.heap.size w' a n c l ∧ l.map Fm.p = (dueF now (s.acked + 1) s.op).map zf ∧ LinkP D w' g { s with op := s.op.map (dueO now) } ∧ Kp (fun k => k = g) w w'
theorem Kp.grown {D : Nat → Prop} {w w1 w2 : World} {row : Option Nat} (h : Kp D w w1) (hg : w1.grownBy w2 row) (hr : ∀ k, row = some k → w.heap.size ≤ k) : Kp D w w2 :=
  ⟨hg.os.trans h.os, hg.tape.trans h.tape, hg.output.trans h.output, Nat.le_trans h.size hg.size, fun k hk hd => (hg.block k (Nat.lt_of_lt_of_le hk h.size) (fun e => by have := hr k e.symm; omega)).trans (h.block k hk hd)⟩
theorem below_grown {w w1 w2 : World} {row : Option Nat} (h : Below w.heap.size w w1) (hg : w1.grownBy w2 row) : w.grownBy w2 row :=
  ⟨hg.os.trans h.os, hg.tape.trans h.tape, hg.output.trans h.output, Nat.le_trans h.size hg.size, fun k hk hr => (hg.block k (Nat.lt_of_lt_of_le hk h.size) hr).trans (h.block k hk)⟩
/-- The state in dueAt's loop. -/
def DueS (D : Nat → Prop) (w wr : World) (g A : Nat) (s : Lk) (now : Int) (k : Nat) (av : Option Addr) (q cv : Nat) : Prop := ∃ l, RowF w.heap.size wr av q cv l ∧ l.map Fm.p = (dueF now (A + 1) (s.op.take k)).map zf ∧ LinkP D wr g { s with op := opI now s.op k } ∧ Kp (fun k => k = g) w wr
theorem DueS.no {D : Nat → Prop} {w wr w1 : World} {g A : Nat} {s : Lk} {now : Int} {k q cv : Nat} {av : Option Addr} (h : DueS D w wr g A s now k av q cv) (hb : Below wr.heap.size wr w1) (hk : k < s.op.length) (hd : dueB s.op[k] now = false) : DueS D w w1 g A s now (k + 1) av q cv := by
  obtain ⟨l, h1, h2, h3, h4⟩ := h
  refine ⟨l, h1.below hb, ?_, by rw [opI_no now s.op k hk hd]; exact h3.below hb, h4.below hb⟩
  rw [h2, List.take_succ_eq_append_getElem hk, dueF_snoc, hd]
  simp
/-- Behind isDue: the load is due. -/
theorem DueS.yes {D : Nat → Prop} {w wr w1 : World} {g A : Nat} {s : Lk} {now : Int} {k q cv : Nat} {av : Option Addr} (h : DueS D w wr g A s now k av q cv) (hb : Below wr.heap.size wr w1) (hA : A = s.acked) (hk : k < s.op.length) (hd : dueB s.op[k] now = true) (hn : I64 now) (hD : ∀ k, D k → k < w.heap.size) :
    ∃ t : Txt, t.bs = s.op[k].x ∧ w1.cell? ⟨g, 3 + ((A + 1 + k) % 8) * 3 + 1, none⟩ = some (.int .i64 s.op[k].tm) ∧ w1.cell? ⟨g, 3 + ((A + 1 + k) % 8) * 3 + 2, none⟩ = some (.int .i64 s.op[k].wt) ∧ w1.frozen? ⟨g, 3 + ((A + 1 + k) % 8) * 3 + 1, none⟩ = false ∧ w1.frozen? ⟨g, 3 + ((A + 1 + k) % 8) * 3 + 2, none⟩ = false ∧
    ∃ w2, w2 = (w1.setCell ⟨g, 3 + ((A + 1 + k) % 8) * 3 + 1, none⟩ (.int .i64 now)).setCell ⟨g, 3 + ((A + 1 + k) % 8) * 3 + 2, none⟩ (.int .i64 (min (max 4 (2 * s.op[k].wt)) 64)) ∧ TxO D w2 t ∧ w2.cell? ⟨g, 3 + ((A + 1 + k) % 8) * 3, none⟩ = some (.slice t.a t.len t.cap) ∧
    ∃ l, RowF w.heap.size w2 av q cv l ∧ l.map Fm.p = (dueF now (A + 1) (s.op.take k)).map zf ∧ LinkP D w2 g { s with op := opI now s.op (k + 1) } ∧ Kp (fun k => k = g) w w2 := by
  obtain ⟨l, h1, h2, ⟨m, hc, ho, hr⟩, h4⟩ := h
  subst hA
  have hgl : g < w.heap.size := hD g ho.dg
  have h8 : (s.acked + 1 + k) % 8 < 8 := Nat.mod_lt _ (by omega)
  have hk' : k < (opI now s.op k).length := by rw [opI_len]; exact hk
  have hop := hr.op k hk'
  have hat := opI_at now s.op k hk
  simp only [hat] at hop
  have hc1 := hc.keep hb.size (hb.block g hc.lt)
  have ho1 := ho.keep hb.size fun j hj _ => hb.block j (ho.dl j hj)
  have hg2 := hr.goOut hk' hn
  simp only [hat] at hg2
  have hc2 := hc1.put_t _ h8 now (min (max 4 (2 * s.op[k].wt)) 64)
  have ho2 := ho1.put_t _ h8 now (min (max 4 (2 * s.op[k].wt)) 64)
  have z1 := hc1.o1 _ h8
  have z2 := hc1.o2 _ h8
  have z0 := hc2.o0 _ h8
  rw [hop.2.1] at z1
  rw [hop.2.2] at z2
  simp only [upd_same] at z0
  unfold put2t at hc2 z0
  refine ⟨(m.os ((s.acked + 1 + k) % 8)).t, hop.1, z1, z2, hc1.fz _ (by omega), hc1.fz _ (by omega), _, rfl, ?_⟩
  generalize hw2 : (w1.setCell ⟨g, 3 + ((s.acked + 1 + k) % 8) * 3 + 1, none⟩ (.int .i64 now)).setCell ⟨g, 3 + ((s.acked + 1 + k) % 8) * 3 + 2, none⟩ (.int .i64 (min (max 4 (2 * s.op[k].wt)) 64)) = w2 at hc2 z0 ⊢
  have hs2 : w2.heap.size = w1.heap.size := by rw [← hw2, size_set, size_set]
  have hk2 : ∀ j, j ≠ g → w2.heap[j]? = w1.heap[j]? := fun j hj => by rw [← hw2, Below.heap_setCell _ _ _ _ (by exact hj), Below.heap_setCell _ _ _ _ (by exact hj)]
  have ho3 := ho2.keep (w' := w2) (by omega) fun j _ hj => hk2 j hj
  refine ⟨(ho1.o _ h8).1.keep fun ad e => hk2 _ ((ho1.o _ h8).2 ad e), z0, l, (h1.below hb).keep (by omega) (fun j hj _ => hk2 j (by omega)), h2, ⟨_, hc2, ho3, ?_⟩, ?_⟩
  · rw [opI_yes now s.op k hk hd]
    exact hg2
  · rw [← hw2]
    exact ((h4.below hb).put (.inl rfl) _).put (.inl rfl) _
/-- Behind the append. -/
theorem DueS.more {D : Nat → Prop} {w w2 w5 : World} {g A : Nat} {s : Lk} {now : Int} {k q c5 : Nat} {row : Option Nat} {a5 : Option Addr} {l : List Fm} {y : Fm} (hk : k < s.op.length) (hd : dueB s.op[k] now = true) (hD : ∀ k, D k → k < w.heap.size)
    (hlm : l.map Fm.p = (dueF now (A + 1) (s.op.take k)).map zf) (hy : y.p = zf (A + 1 + k, s.op[k].x)) (hP : LinkP D w2 g { s with op := opI now s.op (k + 1) }) (hK : Kp (fun k => k = g) w w2) (hg : w2.grownBy w5 row) (hr : ∀ k, row = some k → w.heap.size ≤ k) (hR : RowF w.heap.size w5 a5 (q + 1) c5 (l ++ [y])) : DueS D w w5 g A s now (k + 1) a5 (q + 1) c5 := by
  refine ⟨_, hR, ?_, hP.keep hg.size fun j hj => hg.block j (hP.lt j hj) (fun e => by have := hr j e.symm; have := hD j hj; omega), hK.grown hg hr⟩
  rw [List.map_append, hlm, List.take_succ_eq_append_getElem hk, dueF_snoc, hd]
  simp [hy, show min k s.op.length = k by omega]
theorem nat_succ_cast (x : Nat) : ((x + 1 : Nat) : Int) = (x : Int) + 1 := by omega

set_option linter.unusedSimpArgs false in
set_option maxRecDepth 100000 in
set_option maxHeartbeats 4000000 in
theorem due_any (D : Nat → Prop) (g : Nat) (s : Lk) (now : Int) (w : World) (h : LinkP D w g s) (hu : s.used ≤ 1000000) (hn : I64 now) :
    Calls Try.prog 28 #[.pointer (some ⟨g, 0, none⟩), .int .i64 now] w (DueQ D w g s now) := by
  have HP := hide h
  obtain ⟨m, hc, ho, hr⟩ := h
  have y2 := hc.acked
  rw [hr.acked] at y2
  have hl8 := hr.len
  obtain ⟨A, hA⟩ : ∃ A, A = s.acked := ⟨_, rfl⟩
  obtain ⟨n, hN⟩ : ∃ n, n = s.op.length := ⟨_, rfl⟩
  have hub : A + n ≤ 1000000 := by unfold Lk.used at hu; omega
  rw [← hA] at y2
  have HA := hide hA
  have HN := hide hN
  have H0 := hide (show DueS D w w g A s now 0 none 0 0 from ⟨[], RowF.nil _ _, by simp [dueF], by rw [opI_zero]; exact HP.out, Kp.refl _ _⟩)
  have HI := hide hn
  have hn8 : n ≤ 8 := by omega
  have HD := hide HP.out.lt
  clear hc ho hr hl8 hu hA hN hn
  unfold DueQ
  go_enter Try.func28, Try.ntmps28
  go_wp2_with fail
  go_loopw [5, 6] (fun v i wr => ∃ (k q : Nat) (av : Option Addr) (cv : Nat), k ≤ n ∧ q ≤ k ∧ i = .int .i64 ((A + 1 + k : Nat) : Int) ∧ v = .slice av q cv ∧ Hid (DueS D w wr g A s now k av q cv)) (fun _ i _ => (A + 1 + n) - (intOf i).toNat)
  case atStart => exact ⟨0, 0, none, 0, Nat.zero_le _, Nat.le_refl _, by go_num, rfl, H0⟩
  case round =>
    obtain ⟨k, q, av, cv, hk, hqk, rfl, rfl, HS⟩ := hrel
    obtain ⟨l, hRF, hlm, ⟨m, hc, ho, hr⟩, hKP⟩ := HS.out
    have y1 := hc.used
    rw [hr.used] at y1
    simp only [opI_len] at y1
    rw [← HA.out, ← HN.out] at y1
    obtain ⟨u, hu⟩ : ∃ u, u = A + n := ⟨_, rfl⟩
    obtain ⟨i, hi⟩ : ∃ i, i = A + 1 + k := ⟨_, rfl⟩
    rw [← hu] at y1
    rw [← hi]
    have HU := hide hu
    have HII := hide hi
    by_cases hlt : k < n
    · have hkl : k < s.op.length := by have := HN.out; omega
      have hle : (i : Int) ≤ (u : Int) := by omega
      have hib : i ≤ 1000000 := by omega
      have C27 := hide (place_any g i wr)
      have h8 : i % 8 < 8 := Nat.mod_lt _ (by omega)
      have C37 := hide (show Calls Try.prog 37 #[.pointer (some ⟨g, 3 + (i % 8) * 3, none⟩), .int .i64 now] wr fun e w' => e = .returned (.bool (dueB s.op[k] now)) ∧ Below wr.heap.size wr w' from by
        have hop := hr.op k (by simp only [opI_len]; exact hkl)
        have hob := hr.opb k (by simp only [opI_len]; exact hkl)
        simp only [opI_at now s.op k hkl] at hop hob
        rw [← HA.out, ← HII.out] at hop
        exact isDue_any g _ s.op[k] now wr hob HI.out (by rw [hc.o1 _ h8, hop.2.1]) (by rw [hc.o2 _ h8, hop.2.2]))
      have HWT := hide (show 0 ≤ s.op[k].wt ∧ s.op[k].wt ≤ 64 from by
        have hob := hr.opb k (by simp only [opI_len]; exact hkl)
        simp only [opI_at now s.op k hkl] at hob
        exact hob.2)
      clear hRF hlm hc ho hr hKP hu hi l
      by_cases hd : dueB s.op[k] now = true
      · have HY := hide (fun w1 (hb : Below wr.heap.size wr w1) => HS.out.yes hb HA.out hkl hd HI.out HD.out)
        have HMO := hide (fun (w2 w5 : World) row a5 c5 l y => DueS.more (D := D) (w := w) (w2 := w2) (w5 := w5) (g := g) (A := A) (s := s) (now := now) (k := k) (q := q) (c5 := c5) (row := row) (a5 := a5) (l := l) (y := y) hkl hd HD.out)
        rw [hd] at C37
        rw [← HII.out] at HY HMO
        generalize s.op[k] = o at HY HMO HWT C37
        clear hd hkl
        generalize i % 8 = kk at C27 C37 HY h8
        go_wp2_with (first
          | (go_at_call 27; go_must ((with_reducible refine C27.out.mono ?_); rintro e w1 ⟨rfl, hw⟩; have hw' : wr = w1 := hw.symm; subst hw'))
          | (go_at_call 37; go_must ((with_reducible refine C37.out.mono ?_); rintro e w1 ⟨rfl, hb1⟩; obtain ⟨t, htb, x1, x2, g1, g2, w2, hw2, hT, hcl, l, hRF, hlm, hLP, hKP⟩ := HY.out w1 hb1; have C38 := hide (goOut_any g (3 + kk * 3) o.tm o.wt now w1 HWT.out x1 x2 g1 g2); rw [← hw2] at C38; have HT := hide hT; have HTB := hide htb; have HRF := hide hRF; have HLM := hide hlm; have HLP := hide hLP; have HKP := hide hKP; clear hb1 x1 x2 g1 g2 hw2 hT htb hRF hlm hLP hKP))
          | (go_at_call 38; go_must ((with_reducible refine C38.out.mono ?_); rintro e w2' ⟨rfl, hw⟩; have hw' : w2 = w2' := hw.symm; subst hw'; have C26 := hide (clone_any t.a t.len t.cap t.bs w2 HT.out.1.1 HT.out.reads.1 HT.out.reads.2.1 (by have := HT.out.1.2.2; omega))))
          | (go_at_call 26; go_must ((with_reducible refine C26.out.mono ?_); rintro e w3 ⟨v3, rfl, ho3, hb3⟩; obtain ⟨a3, c3, e3, hT3⟩ := txo_new ho3 HT.out.1.2.1 HT.out.1.2.2; subst e3; have hb4 := hb3.trans ((below_new w3 (.cells #[.int .i64 0, .int .i64 0, .int .i64 0, .int .i64 (i : Int), .int .i64 0, .slice a3 t.len c3] 34)).mono hb3.size); have HB4 := hide hb4; have HT4 := hide ((hT3.below (below_new w3 (.cells #[.int .i64 0, .int .i64 0, .int .i64 0, .int .i64 (i : Int), .int .i64 0, .slice a3 t.len c3] 34))).mono (D' := fun k => w.heap.size ≤ k ∧ k < (w3.alloc (.cells #[.int .i64 0, .int .i64 0, .int .i64 0, .int .i64 (i : Int), .int .i64 0, .slice a3 t.len c3] 34)).heap.size) (fun k hk => ⟨Nat.le_trans HKP.out.size hk.1, by have := hk.2; simp; omega⟩)); have HRF4 := hide (HRF.out.below hb4); have HRD := hide (reads_new w3 (Fm.cs ⟨0, 0, 0, (i : Int), 0, ⟨a3, t.len, c3, t.bs⟩⟩) 34); clear ho3 hb3 hT3 hb4))
          | (at_builtin; go_must (refine append_f rfl (.tmp 30) (.tmp 38) rfl w.heap.size av q cv l rfl HRF4.out (by omega) (Nat.le_trans HKP.out.size HB4.out.size) w3.heap.size ⟨0, 0, 0, (i : Int), 0, ⟨a3, t.len, c3, t.bs⟩⟩ rfl HRD.out HT4.out ?_; intro a5 c5 w5 hR5 hg5 hrow)))
        have HS5 := hide (HMO.out w2 w5 (Value.slice av q cv).ownBlock a5 c5 l ⟨0, 0, 0, (i : Int), 0, ⟨a3, t.len, c3, t.bs⟩⟩ HLM.out (by unfold Fm.p zf; simp only [HTB.out]) HLP.out HKP.out (below_grown HB4.out hg5) (fun k hk => by
          cases av with
          | none => cases hk
          | some ad => simp only [Value.ownBlock, Option.some.injEq] at hk; rw [← hk]; exact hrow ad rfl) hR5)
        clear hR5 hg5 hrow
        go_wp2
        go_roundw
        case rel => exact ⟨k + 1, q + 1, a5, c5, by omega, by omega, by have := HII.out; go_num, rfl, HS5⟩
        case measure => have := HII.out; simp [intOf]; omega
      · have hd2 : dueB s.op[k] now = false := by simpa using hd
        have HY := hide (fun w1 (hb : Below wr.heap.size wr w1) => HS.out.no hb hkl hd2)
        rw [hd2] at C37
        generalize i % 8 = kk at C27 C37 h8
        clear hd hd2 HWT hkl
        go_wp2_with (first
          | (go_at_call 27; go_must ((with_reducible refine C27.out.mono ?_); rintro e w1 ⟨rfl, hw⟩; have hw' : wr = w1 := hw.symm; subst hw'))
          | (go_at_call 37; go_must ((with_reducible refine C37.out.mono ?_); rintro e w2 ⟨rfl, hb2⟩; have HY2 := hide (HY.out w2 hb2); clear hb2)))
        go_roundw
        case rel => exact ⟨k + 1, q, av, cv, by omega, by omega, by have := HII.out; go_num, rfl, HY2⟩
        case measure => have := HII.out; simp [intOf]; omega
    · obtain rfl : k = n := by omega
      have hle : ¬ (i : Int) ≤ (u : Int) := by omega
      have HF := hide (show ∃ l, RowF w.heap.size wr av q cv l ∧ l.map Fm.p = (dueF now (s.acked + 1) s.op).map zf ∧ LinkP D wr g { s with op := s.op.map (dueO now) } ∧ Kp (fun k => k = g) w wr from by
        obtain ⟨l, h1, h2, h3, h4⟩ := HS.out
        rw [HN.out, List.take_length, HA.out] at h2
        rw [HN.out, opI_end] at h3
        exact ⟨l, h1, h2, h3, h4⟩)
      clear hRF hlm hc ho hr hKP hu hi l
      go_wp2
      go_ret
      obtain ⟨l, h⟩ := HF.out
      exact ⟨_, _, _, rfl, l, h⟩
end Go.Proofs.Ytofigofaiadffaa
