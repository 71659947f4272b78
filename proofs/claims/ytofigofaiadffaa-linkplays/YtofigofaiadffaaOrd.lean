/- inOrder. -/
import Derived.Test.YtofigofaiadffaaCls
namespace Go.Proofs.Ytofigofaiadffaa
open Go.RowKit Go.ChangeShapes Go.WideShapes Go.ChangeAt Go.Deep

theorem ordF_lt (ea : Nat → Option (List Nat)) : ∀ f c i (h : i < (ordF ea f c).length), ea (c + 1 + i) = some (ordF ea f c)[i] := by
  intro f
  induction f with
  | zero => intro c i h; simp [ordF] at h
  | succ f ih =>
    intro c i h
    cases he : ea (c + 1) with
    | none => simp [ordF, he] at h
    | some x =>
      have e : ordF ea (f + 1) c = x :: ordF ea f (c + 1) := by simp [ordF, he]
      simp only [e] at h ⊢
      cases i with
      | zero => simpa using he
      | succ i =>
        have := ih (c + 1) i (by simpa using h)
        rw [List.getElem_cons_succ, ← this]
        congr 1
        omega
theorem ordF_end (ea : Nat → Option (List Nat)) : ∀ f c, (ordF ea f c).length < f → ea (c + 1 + (ordF ea f c).length) = none := by
  intro f
  induction f with
  | zero => intro c h; omega
  | succ f ih =>
    intro c h
    cases he : ea (c + 1) with
    | none => simp [ordF, he]
    | some x =>
      have e : ordF ea (f + 1) c = x :: ordF ea f (c + 1) := by simp [ordF, he]
      rw [e] at h ⊢
      simp only [List.length_cons] at h ⊢
      have := ih (c + 1) (by omega)
      rw [← this]
      congr 1
      omega
theorem ordF_len (ea : Nat → Option (List Nat)) : ∀ f c, (ordF ea f c).length ≤ f := by
  intro f
  induction f with
  | zero => intro c; simp [ordF]
  | succ f ih =>
    intro c
    cases he : ea (c + 1) with
    | none => simp [ordF, he]
    | some x => have := ih (c + 1); simp [ordF, he]; omega
/-- The next load in order is told. -/
theorem Rel.took {s : Lk} {m : Lm} (h : Rel s m) : Rel { s with came := s.came + 1 } { m with came := ((s.came + 1 : Nat) : Int), es := upd m.es ((s.came + 1) % 8) em0 } := by
  refine ⟨h.last, h.used, h.acked, rfl, h.owed, h.self, h.peer, h.life, h.theirs, h.len, h.op, h.opb, fun i hi => ?_, fun n hn => h.far n (by simp only at hn; omega)⟩
  simp only
  by_cases e : i = 7
  · subst e
    rw [show (s.came + 1 + 1 + 7) % 8 = (s.came + 1) % 8 by omega]
    simp only [upd_same]
    exact h.far _ (by omega)
  · rw [upd_ne _ _ _ _ (by omega)]
    have := h.ea (i + 1) (by omega)
    rw [show s.came + 1 + (i + 1) = s.came + 1 + 1 + i by omega] at this
    exact this
/-- A row of loads: the row itself is one's own, from block B on; the loads lie in blocks of D. -/
def RowT (D : Nat → Prop) (B : Nat) (w : World) (a : Option Addr) (n c : Nat) (l : List Txt) : Prop :=
  l.length = n ∧ w.ownsRow B 32 1 (.slice a n c) n (sV l) ∧ ∀ t ∈ l, TxO D w t
theorem RowT.nil (D : Nat → Prop) (B : Nat) (w : World) : RowT D B w none 0 0 [] := ⟨rfl, World.ownsRow_nil _ _ _ _, fun x hx => by cases hx⟩
theorem RowT.keep {D : Nat → Prop} {B : Nat} {w w' : World} {a : Option Addr} {n c : Nat} {l : List Txt} (h : RowT D B w a n c l) (hk : ∀ k, B ≤ k → k < w.heap.size → w'.heap[k]? = w.heap[k]?) (hD : ∀ t ∈ l, ∀ ad, t.a = some ad → w'.heap[ad.block]? = w.heap[ad.block]?) : RowT D B w' a n c l :=
  ⟨h.1, own_keep h.2.1 fun ad e => by have := own_lt h.2.1 ad e; exact hk _ this.1 this.2, fun x hx => (h.2.2 x hx).keep (hD x hx)⟩
theorem RowT.below {D : Nat → Prop} {B : Nat} {w w' : World} {a : Option Addr} {n c : Nat} {l : List Txt} (h : RowT D B w a n c l) (hb : Below w.heap.size w w') : RowT D B w' a n c l := h.keep (fun k _ hk => hb.block k hk) (fun t ht ad e => hb.block _ ((h.2.2 t ht).lt ad e))
theorem RowT.mono {D D' : Nat → Prop} {B B' : Nat} {w : World} {a : Option Addr} {n c : Nat} {l : List Txt} (h : RowT D B w a n c l) (hD : ∀ k, D k → D' k) (hB : B' ≤ B) : RowT D' B' w a n c l := ⟨h.1, own_base h.2.1 hB, fun t ht => (h.2.2 t ht).mono hD⟩
theorem Try.info32 : (Try.prog.info? 32).map (fun i => (i.zero, i.size, i.bytes)) = some (some (.slice none 0 0), 1, 24) := by kernel_rfl
theorem sV_one (l : List Txt) : ∀ u ∈ sV l, u.oneCell' = true := fun u hu => by
  simp only [sV, List.mem_map] at hu
  obtain ⟨y, _, rfl⟩ := hu
  rfl
/-- One load is put behind a row of loads. -/
theorem append_t {w : World} {ops : Array Oper} {rest : List Oper} {o : Oper} {act : Act} {Q : Exit → Act → World → Prop} (hgd : o.guard = none) (s x : Operand)
    (ho : o.op = .call { callee := .builtin .append, args := #[s, x], argTypes := #[56, 56] }) (D : Nat → Prop) (B : Nat) (a : Option Addr) (n c : Nat) (l : List Txt) (hs : act.eval s = .slice a n c) (hR : RowT D B w a n c l) (hn : n ≤ 1000000) (hB : B ≤ w.heap.size)
    (bk : Nat) (y : Txt) (hx : act.eval x = .slice (some ⟨bk, 0, none⟩) 1 1) (hb : Reads w (some ⟨bk, 0, none⟩) [.slice y.a y.len y.cap]) (hy : TxO D w y)
    (h : ∀ a' c' w', RowT D B w' a' (n + 1) c' (l ++ [y]) → w.grownBy w' (Value.slice a n c).ownBlock → (∀ ad, a = some ad → B ≤ ad.block) → wpList Try.prog ops Q rest (act.put o.dst (.slice a' (n + 1) c')) w') : wpList Try.prog ops Q (o :: rest) act w := by
  obtain ⟨i0, hi, hz0, hz1, hz2⟩ := info_parts Try.info32
  have hbk : ∀ j u, ([.slice y.a y.len y.cap] : List Value)[j]? = some u → w.cell? ((⟨bk, 0, none⟩ : Addr).add j) = some u := by
    rcases hb with e | ⟨b, o, e, hr⟩
    · simp at e
    · simp only [Option.some.injEq, Addr.mk.injEq] at e
      obtain ⟨rfl, rfl, _⟩ := e
      intro j u hu
      rw [add_none]; exact hr j u hu
  refine wpList_append_own _ hgd s x 56 ho B 32 i0 (.slice none 0 0) 1 24 Try.underlying56 hi hz0 hz1 hz2 rfl (by omega) (.slice a n c) n (sV l) hs hR.2.1 ⟨bk, 0, none⟩ 1 1 [.slice y.a y.len y.cap] hx rfl hbk (fun u hu => sV_one [y] u (by simpa [sV, Txt.val] using hu)) (by unfold maxLen; omega) (by omega) hB ?_
  intro v' w' ho' hg' _
  obtain ⟨a', c', rfl⟩ := own_opens ho'
  have e : sV l ++ [.slice y.a y.len y.cap] = sV (l ++ [y]) := by simp [sV, Txt.val]
  rw [e] at ho'
  have hkp : ∀ z : Txt, TxO D w z → TxO D w' z := fun z hz => hz.keep fun ad e => hg'.block _ (hz.lt ad e) (fun e2 => by
    cases a with
    | none => simp [Value.ownBlock] at e2
    | some ad2 => simp only [Value.ownBlock, Option.some.injEq] at e2; exact own_apart hz.2.1 hR.2.1 (by decide) ad ad2 e rfl e2)
  refine h a' c' w' ⟨by simp [hR.1], ho', fun z hz => ?_⟩ hg' (fun ad e => (own_lt hR.2.1 ad e).1)
  rw [List.mem_append, List.mem_singleton] at hz
  rcases hz with hz | rfl
  · exact hkp _ (hR.2.2 z hz)
  · exact hkp _ hy
/-- The state of inOrder when i loads are told. -/
def OrdS (D : Nat → Prop) (w wr : World) (g : Nat) (s : Lk) (i : Nat) (a : Option Addr) (c : Nat) : Prop :=
  ∃ l, RowT (fun k => D k ∧ k ≠ g) w.heap.size wr a i c l ∧ l.map Txt.bs = (ordF s.ea 8 s.came).take i ∧ LinkP D wr g { s with came := s.came + i } ∧ Kp (fun k => k = g) w wr
theorem OrdS.here {D : Nat → Prop} {w wr : World} {g : Nat} {s : Lk} {i : Nat} {a : Option Addr} {c : Nat} (h : OrdS D w wr g s i a c) (hi : i ≤ (ordF s.ea 8 s.came).length) (hfar : ∀ n, s.came + 8 < n → s.ea n = none) : wr.cell? ⟨g, 28 + ((s.came + i + 1) % 8) * 2 + 1, none⟩ = some (.bool (decide (i < (ordF s.ea 8 s.came).length))) ∧ wr.cell? ⟨g, 27, none⟩ = some (.int .i64 ((s.came + i : Nat) : Int)) := by
  obtain ⟨l, _, _, ⟨m, hc, ho, hr⟩, _⟩ := h
  have h8 : (s.came + i + 1) % 8 < 8 := Nat.mod_lt _ (by omega)
  have h1 := hr.ea 0 (by omega)
  simp only [Nat.add_zero] at h1
  refine ⟨?_, by rw [hc.came, hr.came]⟩
  rw [hc.e1 _ h8]
  congr 2
  by_cases hlt : i < (ordF s.ea 8 s.came).length
  · have h2 := ordF_lt s.ea 8 s.came i hlt
    rw [show s.came + 1 + i = s.came + i + 1 by omega, h1] at h2
    simp only [hlt, decide_true]
    cases hh : (m.es ((s.came + i + 1) % 8)).here
    · simp [hh] at h2
    · rfl
  · have hie : i = (ordF s.ea 8 s.came).length := by omega
    have h2 : s.ea (s.came + 1 + i) = none := by
      by_cases h3 : (ordF s.ea 8 s.came).length < 8
      · rw [hie]; exact ordF_end s.ea 8 s.came h3
      · have := ordF_len s.ea 8 s.came
        exact hfar _ (by omega)
    rw [show s.came + 1 + i = s.came + i + 1 by omega, h1] at h2
    simp only [hlt, decide_false]
    cases hh : (m.es ((s.came + i + 1) % 8)).here
    · rfl
    · simp [hh] at h2
/-- A load in order: what its cells are, and what is there behind the stores. -/
theorem OrdS.next {D : Nat → Prop} {w wr w5 : World} {g : Nat} {s : Lk} {i : Nat} {a5 : Option Addr} {c5 : Nat} {row : Option Nat} {t : Txt} {l : List Txt} (h : LinkP D wr g { s with came := s.came + i }) (hi : i < (ordF s.ea 8 s.came).length) (hK : Kp (fun k => k = g) w wr) (hD : ∀ k, D k → k < w.heap.size)
    (hg : wr.grownBy w5 row) (hr : ∀ k, row = some k → w.heap.size ≤ k) (hl : l.map Txt.bs = (ordF s.ea 8 s.came).take i) (ht : t.bs = (ordF s.ea 8 s.came)[i]) (hR : RowT (fun k => D k ∧ k ≠ g) w.heap.size w5 a5 (i + 1) c5 (l ++ [t])) :
    ∃ v0 v1 v2 v3, w5.cell? ⟨g, 28 + ((s.came + i + 1) % 8) * 2, none⟩ = some v0 ∧ w5.cell? ⟨g, 28 + ((s.came + i + 1) % 8) * 2 + 1, none⟩ = some v1 ∧ w5.cell? ⟨g, 27, none⟩ = some (.int .i64 ((s.came + i : Nat) : Int)) ∧ (∀ j, j < 49 → w5.frozen? ⟨g, j, none⟩ = false) ∧
    ∃ W, W = put2 w5 g (28 + ((s.came + i + 1) % 8) * 2) (.slice none 0 0) (.bool false) ∧ W.cell? ⟨g, 27, none⟩ = some v2 ∧ v2 = .int .i64 ((s.came + i : Nat) : Int) ∧ W.frozen? ⟨g, 27, none⟩ = false ∧ (W.setCell ⟨g, 27, none⟩ (.int .i64 ((s.came + i + 1 : Nat) : Int))).cell? ⟨g, 27, none⟩ = some v3 ∧ v3 = .int .i64 ((s.came + i + 1 : Nat) : Int) ∧ OrdS D w (W.setCell ⟨g, 27, none⟩ (.int .i64 ((s.came + i + 1 : Nat) : Int))) g s (i + 1) a5 c5 := by
  have hgl := hD g h.dg
  have h5 := h.keep hg.size fun k hk => hg.block k (h.lt k hk) (fun e => by have := hr k e.symm; have := hD k hk; omega)
  have hK5 := hK.grown hg hr
  obtain ⟨m, hc, ho, hrl⟩ := h5
  have h8 : (s.came + i + 1) % 8 < 8 := Nat.mod_lt _ (by omega)
  have z := hc.came
  rw [hrl.came] at z
  have hc1 := hc.put_e _ h8 em0
  have z1 := hc1.came
  simp only [hrl.came] at z1
  have hc2 := hc1.put_came ((s.came + i + 1 : Nat) : Int)
  refine ⟨_, _, _, _, hc.e0 _ h8, hc.e1 _ h8, z, hc.fz, _, rfl, z1, rfl, hc1.fz 27 (by omega), hc2.came, rfl, l ++ [t], ?_, ?_, ⟨_, hc2, ?_, ?_⟩, ?_⟩
  · refine hR.keep (fun k hk _ => ?_) (fun t' ht' ad e => ?_)
    · show (World.setCell (put2 w5 g _ _ _) _ _).heap[k]? = _
      rw [Below.heap_setCell _ _ _ _ (by show k ≠ g; omega)]
      exact put2_keep (by omega) _ _
    · have h2 := (hR.2.2 t' ht').2.2 ad e
      have hne : ad.block ≠ g := h2.2
      show (World.setCell (put2 w5 g _ _ _) _ _).heap[ad.block]? = _
      rw [Below.heap_setCell _ _ _ _ (by exact hne)]
      exact put2_keep hne _ _
  · rw [List.map_append, hl, List.take_succ_eq_append_getElem hi]
    simp [ht]
  · have h1 := ho.keep (w' := (put2 w5 g (28 + ((s.came + i + 1) % 8) * 2) (.slice none 0 0) (.bool false)).setCell ⟨g, 27, none⟩ (.int .i64 ((s.came + i + 1 : Nat) : Int))) (by rw [size_set, put2_size]; exact Nat.le_refl _) (fun k _ hk => by rw [Below.heap_setCell _ _ _ _ (by exact hk)]; exact put2_keep hk _ _)
    have h2 := h1.put_e ((s.came + i + 1) % 8) em0 (TxO.nil _ _) (fun ad e => by cases e)
    exact ⟨h2.dg, h2.dl, h2.o, h2.e⟩
  · exact hrl.took
  · unfold put2
    exact ((hK5.put (.inl rfl) _).put (.inl rfl) _).put (.inl rfl) _
/-- The load that is next in order, in memory. -/
theorem OrdS.load {D : Nat → Prop} {w wr : World} {g : Nat} {s : Lk} {i : Nat} {a : Option Addr} {c : Nat} (h : OrdS D w wr g s i a c) (hi : i < (ordF s.ea 8 s.came).length) : ∃ t l, wr.cell? ⟨g, 28 + ((s.came + i + 1) % 8) * 2, none⟩ = some (.slice t.a t.len t.cap) ∧ TxO (fun k => D k ∧ k ≠ g) wr t ∧ t.bs = (ordF s.ea 8 s.came)[i] ∧ RowT (fun k => D k ∧ k ≠ g) w.heap.size wr a i c l ∧ l.map Txt.bs = (ordF s.ea 8 s.came).take i ∧ LinkP D wr g { s with came := s.came + i } ∧ Kp (fun k => k = g) w wr := by
  obtain ⟨l, h1, h2, h3, h4⟩ := h
  have h3' := h3
  obtain ⟨m, hc, ho, hr⟩ := h3
  have h8 : (s.came + i + 1) % 8 < 8 := Nat.mod_lt _ (by omega)
  have h5 := hr.ea 0 (by omega)
  simp only [Nat.add_zero] at h5
  have h6 := ordF_lt s.ea 8 s.came i hi
  rw [show s.came + 1 + i = s.came + i + 1 by omega, h5] at h6
  refine ⟨(m.es ((s.came + i + 1) % 8)).t, l, hc.e0 _ h8, ⟨(ho.e _ h8).1.1, (ho.e _ h8).1.2.1, fun ad e => ⟨(ho.e _ h8).1.2.2 ad e, (ho.e _ h8).2 ad e⟩⟩, ?_, h1, h2, h3', h4⟩
  cases hh : (m.es ((s.came + i + 1) % 8)).here
  · simp [hh] at h6
  · simpa [hh] using h6
/-- What inOrder leaves. -/
def OrdQ (D : Nat → Prop) (w : World) (g : Nat) (s : Lk) (e : Ending) (w' : World) : Prop :=
  ∃ a n c l, e = .returned (.slice a n c) ∧ RowT (fun k => D k ∧ k ≠ g) w.heap.size w' a n c l ∧ l.map Txt.bs = ordF s.ea 8 s.came ∧ LinkP D w' g { s with came := s.came + (ordF s.ea 8 s.came).length } ∧ Kp (fun k => k = g) w w'
set_option linter.unusedSimpArgs false in
set_option maxRecDepth 100000 in
set_option maxHeartbeats 4000000 in
theorem order_any (D : Nat → Prop) (g : Nat) (s : Lk) (w : World) (h : LinkP D w g s) (hu : s.came ≤ 1000000) :
    Calls Try.prog 40 #[.pointer (some ⟨g, 27, none⟩)] w (OrdQ D w g s) := by
  have HD := hide h.lt
  have HF := hide (show ∀ n, s.came + 8 < n → s.ea n = none from by obtain ⟨m, _, _, hr⟩ := h; exact hr.far)
  have H0 := hide (show OrdS D w w g s 0 none 0 from ⟨[], RowT.nil _ _ _, rfl, by simpa using h, Kp.refl _ _⟩)
  obtain ⟨n, hn⟩ : ∃ n, n = (ordF s.ea 8 s.came).length := ⟨_, rfl⟩
  have HN := hide hn
  have hn8 : n ≤ 8 := by rw [hn]; exact ordF_len _ _ _
  obtain ⟨C, hC⟩ : ∃ C, C = s.came := ⟨_, rfl⟩
  have HC := hide hC
  have hcb : C ≤ 1000000 := by omega
  have y0 : w.cell? ⟨g, 27, none⟩ = some (.int .i64 (C : Int)) := by
    obtain ⟨m, hc, _, hr⟩ := h
    rw [hc.came, hr.came, hC]
  have hq : ((C + 1 : Nat) : Int) = (C : Int) + 1 := by omega
  have C39 := hide (show Calls Try.prog 39 #[.pointer (some ⟨g, 27, none⟩), .int .i64 ((C : Int) + 1)] w fun e w' => e = .returned (.pointer (some ⟨g, 28 + ((C + 1) % 8) * 2, none⟩)) ∧ w' = w from hq ▸ spot_any g (C + 1) w)
  clear h hu hn hC hq
  unfold OrdQ
  go_enter Try.func40, Try.ntmps40
  go_wp2_with (go_at_call 39; go_must ((with_reducible refine C39.out.mono ?_); rintro e w9 ⟨rfl, hw⟩; have hw' : w = w9 := hw.symm; subst hw'))
  go_loopw [3, 4] (fun v p wr => ∃ (k : Nat) (av : Option Addr) (cv : Nat), k ≤ n ∧ v = .slice av k cv ∧ p = .pointer (some ⟨g, 28 + ((C + k + 1) % 8) * 2, none⟩) ∧ Hid (OrdS D w wr g s k av cv)) (fun v _ _ => n - (match v with | .slice _ k _ => k | _ => 0))
  case atStart => exact ⟨0, none, 0, Nat.zero_le _, rfl, rfl, H0⟩
  case round =>
    obtain ⟨k, av, cv, hk, rfl, rfl, HS⟩ := hrel
    obtain ⟨yh, yc⟩ := HS.out.here (by rw [← HN.out]; exact hk) HF.out
    rw [← HN.out, ← HC.out] at yh
    rw [← HC.out] at yc
    by_cases hlt : k < n
    · have yh' : wr.cell? ⟨g, 28 + ((C + k + 1) % 8) * 2 + 1, none⟩ = some (.bool true) := by rw [yh]; simp [hlt]
      obtain ⟨t, l, ys, hT, htb, hRT, hlm, hLP, hKP⟩ := HS.out.load (by rw [← HN.out]; exact hlt)
      rw [← HC.out] at ys
      have HNX := hide (fun w5 a5 c5 row hg hr hR => OrdS.next (D := D) (w := w) (wr := wr) (w5 := w5) (g := g) (s := s) (i := k) (a5 := a5) (c5 := c5) (row := row) (t := t) (l := l) hLP (by rw [← HN.out]; exact hlt) hKP HD.out hg hr hlm htb hR)
      have HT := hide hT
      have HRT := hide hRT
      have HKP := hide hKP
      clear yh hT htb hRT hlm hLP hKP
      have HX := hide (below_new wr (.cells #[.slice t.a t.len t.cap] 32))
      have HRD := hide (reads_new wr [.slice t.a t.len t.cap] 32)
      rw [← HC.out] at HNX
      obtain ⟨i, hi⟩ : ∃ i, i = C + k := ⟨_, rfl⟩
      rw [← hi] at HNX yc yh' ys ⊢
      have HI := hide hi
      clear hi
      have hib : i ≤ 2000000 := by have := HI.out; omega
      go_upto_region 6 with (at_builtin; go_must (refine append_t rfl (.tmp 23) (.tmp 28) rfl (fun k => D k ∧ k ≠ g) w.heap.size av k cv l rfl (HRT.out.below HX.out) (by omega) (Nat.le_trans HKP.out.size HX.out.size) wr.heap.size t rfl HRD.out (HT.out.below HX.out) ?_; intro a5 c5 w5 hR5 hg5 hrow))
      obtain ⟨v0, v1, v2, v3, x0, x1, -, hf, W, hW, z1, rfl, f27, z3, rfl, hOS⟩ := HNX.out w5 a5 c5 _ (below_grown HX.out hg5) (fun q hq => by
        cases av with
        | none => cases hq
        | some ad => simp only [Value.ownBlock, Option.some.injEq] at hq; rw [← hq]; exact hrow ad rfl) hR5
      have f0 := hf (28 + ((i + 1) % 8) * 2) (by omega)
      have f1 := hf (28 + ((i + 1) % 8) * 2 + 1) (by omega)
      have HOS := hide hOS
      have HK1 := hide (show (C + (k + 1) + 1) % 8 = (i + 1 + 1) % 8 from by rw [HI.out]; congr 1)
      have hq : ((i + 1 : Nat) : Int) = (i : Int) + 1 := by omega
      have hq2 : ((i + 1 + 1 : Nat) : Int) = (i : Int) + 1 + 1 := by omega
      have C39b := hide (fun W2 => show Calls Try.prog 39 #[.pointer (some ⟨g, 27, none⟩), .int .i64 ((i : Int) + 1 + 1)] W2 fun e w' => e = .returned (.pointer (some ⟨g, 28 + ((i + 1 + 1) % 8) * 2, none⟩)) ∧ w' = W2 from hq2 ▸ spot_any g (i + 1 + 1) W2)
      rw [hq] at z3 HOS
      clear hR5 hg5 hrow hf hOS hq hq2
      generalize (i + 1) % 8 = kk at x0 x1 hW f0 f1 yh' ys
      generalize (i + 1 + 1) % 8 = kk2 at C39b HK1
      go_upto_region 7 with fail
      unfold put2 at hW
      rw [← hW]
      clear hW x0 x1 f0 f1 yh' ys
      go_upto_region 4 with fail
      have HW2 := hide (show (W.setCell ⟨g, 27, none⟩ (.int .i64 ((i : Int) + 1))) = (W.setCell ⟨g, 27, none⟩ (.int .i64 ((i : Int) + 1))) from rfl)
      generalize W.setCell ⟨g, 27, none⟩ (.int .i64 ((i : Int) + 1)) = W2 at z3 HOS ⊢
      clear z1 f27 HW2
      go_wp2_with (go_at_call 39; go_must ((with_reducible refine (C39b.out W2).mono ?_); rintro e w9 ⟨rfl, hw⟩; have hw' : W2 = w9 := hw.symm; subst hw'))
      go_roundw
      case rel => exact ⟨k + 1, a5, c5, by omega, rfl, by rw [HK1.out], HOS⟩
      case measure => simp; omega
    · obtain rfl : k = n := by omega
      have yh' : wr.cell? ⟨g, 28 + ((C + k + 1) % 8) * 2 + 1, none⟩ = some (.bool false) := by rw [yh]; simp
      have HE := hide (show ∃ l, RowT (fun k => D k ∧ k ≠ g) w.heap.size wr av k cv l ∧ l.map Txt.bs = ordF s.ea 8 s.came ∧ LinkP D wr g { s with came := s.came + (ordF s.ea 8 s.came).length } ∧ Kp (fun k => k = g) w wr from by
        obtain ⟨l, h1, h2, h3, h4⟩ := HS.out
        refine ⟨l, h1, by rw [h2, HN.out, List.take_length], by rw [← HN.out]; exact h3, h4⟩)
      clear yh yc
      generalize (C + k + 1) % 8 = kk at yh'
      go_wp2
      go_ret
      obtain ⟨l, h⟩ := HE.out
      first | exact ⟨_, _, _, rfl, l, h⟩ | exact ⟨_, _, _, l, rfl, h⟩
end Go.Proofs.Ytofigofaiadffaa
