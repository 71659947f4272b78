/- gleanerref1.In and (*gleanerref10.Net).Gone. -/
import Derived.Test.YtmjglgdihlomlaaRFlp
namespace Go.Proofs.Ytmjglgdihlomlaa
open Go.RowKit Go.ChangeShapes Go.WideShapes Go.ChangeAt Go.Deep

theorem iV_len (ns : List Int) : (iV ns).length = ns.length := by simp [iV]
theorem Reads.int {w : World} {a : Option Addr} {ns : List Int} (h : Reads w a (iV ns)) {k : Nat} (hk : k < ns.length) : ∃ b off, a = some ⟨b, off, none⟩ ∧ w.cell? ⟨b, off + k, none⟩ = some (.int .i64 ns[k]) := by
  rcases h with h | ⟨b, off, e, h⟩
  · have := iV_len ns; rw [h] at this; simp at this; omega
  · exact ⟨b, off, e, h k _ (by simp [iV, hk])⟩

set_option maxRecDepth 100000 in
set_option maxHeartbeats 1000000 in
theorem in_any (a : Option Addr) (n c : Nat) (ns : List Int) (v : Int) (w : World) (hl : ns.length = n) (hn : n ≤ 1000000) (hr : Reads w a (iV ns)) :
    Calls Try.prog 29 #[.slice a n c, .int .i64 v] w fun e w' => e = .returned (.bool (decide (v ∈ ns))) ∧ w' = w := by
  have HL := hide hl
  have HR := hide hr
  have HA0 := hide (show ∀ i (h : i < ns.length), i < 0 → ns[i] ≠ v from fun i _ h => by omega)
  clear hl hr
  go_enter Try.func29, Try.ntmps29
  go_wp2
  go_loopw [5] (fun i wr => w = wr ∧ ∃ k : Nat, k ≤ n ∧ i = .int .i64 (k : Nat) ∧ Hid (∀ i (h : i < ns.length), i < k → ns[i] ≠ v)) (fun i _ => n - (intOf i).toNat)
  case atStart => exact ⟨rfl, 0, Nat.zero_le _, rfl, HA0⟩
  case round =>
    obtain ⟨rfl, k, hk, rfl, HA⟩ := hrel
    by_cases hlt : k < n
    · have hkl : k < ns.length := by have := HL.out; omega
      obtain ⟨b, off, rfl, hc⟩ := Reads.int HR.out hkl
      have HX := hide (show ns[k] ∈ ns from List.getElem_mem _)
      have HN := hide (show ns[k] ≠ v → ∀ i (h : i < ns.length), i < k + 1 → ns[i] ≠ v from fun h i hi hik => by
        rcases Nat.lt_or_eq_of_le (Nat.le_of_lt_succ hik) with h1 | rfl
        · exact HA.out i hi h1
        · exact h)
      generalize ns[k] = x at hc HX HN
      clear hkl
      by_cases hx : x = v
      · subst hx
        have HM := hide (show decide (x ∈ ns) = true by simpa using HX.out)
        go_wp2
        go_ret
        exact ⟨by rw [HM.out]; rfl, rfl⟩
      · have hx2 : (x == v) = false := by simpa using hx
        have HN2 := hide (HN.out hx)
        go_wp2
        go_roundw
        case rel => exact ⟨by first | rfl | trivial, k + 1, by omega, by go_num, HN2⟩
        case measure => simp [intOf]; omega
    · obtain rfl : k = n := by omega
      have HM := hide (show decide (v ∈ ns) = false by
        simp only [decide_eq_false_iff_not]
        intro h
        obtain ⟨i, hi, e⟩ := List.getElem_of_mem h
        exact HA.out i hi (by have := HL.out; omega) e)
      go_wp2
      go_ret
      exact ⟨by rw [HM.out]; rfl, rfl⟩

theorem wpl_append_run {w w' : World} {ops : Array Oper} {rest : List Oper} {o : Oper} {a : Act} {Q : Exit → Act → World → Prop} {v vx v' : Value} (hgd : o.guard = none) (s x : Operand)
    (ho : o.op = .call { callee := .builtin .append, args := #[s, x], argTypes := #[28, 28] }) (hs : a.eval s = v) (hx : a.eval x = vx)
    (hrun : (Builtin.append_ #[28, 28] o.type #[v, vx]).run Try.prog w = .ok v' w') (h : wpList Try.prog ops Q rest (a.put o.dst v') w') : wpList Try.prog ops Q (o :: rest) a w := by
  refine wpList_plain hgd fun K hK => ?_
  exact wp_append_run s x ho hs hx hrun (hK _ _ h)

/-- What Gone leaves: a parcel neither of whose nodes is gone. -/
def stayB (ns : List Int) (x : Pc) : Bool := !decide (x.1 ∈ ns) && !decide (x.2.1 ∈ ns)
/-- The new row of Gone: of new memory, its parcels' bytes where they lay. -/
def GoneS (D : Nat → Prop) (w wr : World) (av : Option Addr) (m cv : Nat) (lf : List Pm) : Prop :=
  RowO (Ex D w wr) wr av m cv lf ∧ ∀ ad, av = some ad → w.heap.size ≤ ad.block
theorem gone_push {D : Nat → Prop} {w wr w2 : World} {av : Option Addr} {m cv : Nat} {lf : List Pm} {x : Pm} (hD : ∀ k, D k → k < w.heap.size) (hb : Below w.heap.size w wr) (hG : GoneS D w wr av m cv lf) (hx : x.ok D w) (hm : m ≤ 20000)
    (h2 : w2 = wr.alloc (.cells #[.int .i64 x.p.1, .int .i64 x.p.2.1, .slice x.a x.n x.c] 37)) (ty : TypeId) :
    ∃ v' w', (Builtin.append_ #[28, 28] ty #[.slice av m cv, .slice (some ⟨wr.heap.size, 0, none⟩) 1 1]).run Try.prog w2 = .ok v' w' ∧ ∃ a2 c2, v' = .slice a2 (m + 1) c2 ∧ Below w.heap.size w w' ∧ GoneS D w w' a2 (m + 1) c2 (lf ++ [x]) := by
  have hbn : Below wr.heap.size wr w2 := by rw [h2]; exact below_new _ _
  have hs2 : w2.heap.size = wr.heap.size + 1 := by rw [h2]; simp
  have hb2 : Below w.heap.size w w2 := hb.trans (hbn.mono hb.size)
  have hl0 : ∀ k, Ex D w wr k → k < wr.heap.size := fun k hk => hk.elim (fun h => Nat.lt_of_lt_of_le (hD k h) hb.size) fun h => h.2
  have hl2 : ∀ k, Ex D w w2 k → k < w2.heap.size := fun k hk => hk.elim (fun h => Nat.lt_of_lt_of_le (hD k h) hb2.size) fun h => h.2
  have hr2 : RowO (Ex D w w2) w2 av m cv lf := (hG.1.keep hl0 fun k _ hk => hbn.block k hk).mono fun k hk => hk.elim .inl fun h => .inr ⟨h.1, by omega⟩
  have hx2 : x.ok (Ex D w w2) w2 := (hx.keep fun k _ hk => hb2.block k hk).mono fun k hk => .inl hk
  obtain ⟨v', w', hrun, g, off, c2, e, hro, hg, hk⟩ := push_run hr2 x hx2 hl2 (fun ad ad' e e' => by
    have h3 := hG.2 ad e
    have h4 := hD _ (hx.2.2.2.2.2 ad' e')
    omega) wr.heap.size (by rw [h2]; exact reads_new wr (Pm.cs x) 37) hm ty
  have hbw : Below w.heap.size w2 w' := hk.to_below hb2.size (fun k ⟨ad, e, e2⟩ => by rw [← e2]; exact hG.2 ad e)
  refine ⟨v', w', hrun, _, _, e, hb2.trans hbw, hro.mono fun k hk => ?_, fun ad e => ?_⟩
  · have h5 := hbw.size
    have h6 := hb2.size
    rcases hk with (hk | hk) | hk
    · exact .inl hk
    · exact .inr ⟨hk.1, by omega⟩
    · exact .inr ⟨by omega, hk.2⟩
  · cases e
    rcases hg with ⟨ad, e, e2⟩ | hg
    · rw [← e2]; exact hG.2 ad e
    · have := hb2.size; show w.heap.size ≤ g; omega
/-- The new row in the net's place. -/
theorem gone_end {D : Nat → Prop} {w wr : World} {cb m cv : Nat} {av : Option Addr} {l lf : List Pm} (hM : NetM D w cb l) (hE : Exc w l) (hb : Below w.heap.size w wr) (hG : GoneS D w wr av m cv lf) (hs : lf.Sublist l) :
    NetR (Ex D w (wr.setCell ⟨cb, 0, none⟩ (.slice av m cv))) (wr.setCell ⟨cb, 0, none⟩ (.slice av m cv)) cb (lf.map Pm.p) ∧ Kp D w (wr.setCell ⟨cb, 0, none⟩ (.slice av m cv)) := by
  have hbl := hM.blocks
  obtain ⟨⟨c1, c2, c3⟩, a, n, c, hcell, hro, hne, hxs⟩ := hM
  have hcl := c3 cb c1
  have hcb := hb.block cb hcl
  have hc' : wr.cell? ⟨cb, 0, none⟩ = some (.slice a n c) := by rw [World.cell?_of_block (w := w) (a := ⟨cb, 0, none⟩) hcb]; exact hcell
  have hf' : wr.frozen? ⟨cb, 0, none⟩ = false := by rw [World.frozen?_of_block (w := w) (a := ⟨cb, 0, none⟩) hcb]; exact c2
  have hkk : ∀ k, k ≠ cb → (wr.setCell ⟨cb, 0, none⟩ (.slice av m cv)).heap[k]? = wr.heap[k]? := fun k hk => Below.heap_setCell _ _ _ _ hk
  have hsz : (wr.setCell ⟨cb, 0, none⟩ (.slice av m cv)).heap.size = wr.heap.size := by simp [World.setCell]
  have hx : ∀ x ∈ lf, ∀ ad, x.a = some ad → ad.block ≠ cb := fun x h => hxs x (hs.subset h)
  have hav : ∀ ad, av = some ad → ad.block ≠ cb := fun ad e => by have := hG.2 ad e; omega
  obtain ⟨hR, _⟩ := hG
  have hEx : ∀ k, Ex D w wr k → Ex D w (wr.setCell ⟨cb, 0, none⟩ (.slice av m cv)) k := fun k hk => hk.elim .inl fun h => .inr ⟨h.1, by rw [hsz]; exact h.2⟩
  refine ⟨⟨lf, rfl, ⟨⟨.inl c1, by simpa using hf', fun k hk => ?_⟩, av, m, cv, World.cell?_setCell_same _ _ _ hc', RowO.mono (D := Ex D w wr) ⟨⟨hR.1.1, hR.1.2.1, hR.1.2.2.1, hR.1.2.2.2.1.keepN (g := cb) hav (fun k hk _ => hkk k hk), hR.1.2.2.2.2.1, fun x hq => (hR.1.2.2.2.2.2 x hq).keepN (hx x hq) (fun k hk _ => hkk k hk)⟩, fun ad e => ?_⟩ hEx, hav, hx⟩, ?_, fun x hq => ?_⟩, ?_⟩
  · rw [hsz]
    rcases hk with hk | hk
    · exact Nat.lt_of_lt_of_le (c3 k hk) hb.size
    · rw [hsz] at hk; exact hk.2
  · obtain ⟨g, off, e1, h2, h3⟩ := hR.2 ad e
    have hgc : g ≠ cb := by have := hav ad e; rw [e1] at this; exact this
    refine ⟨g, off, e1, fun j hj => ?_, h3⟩
    rw [World.cell?_of_block (w := wr) (a := ⟨g, off + j, none⟩) (hkk g hgc), World.frozen?_of_block (w := wr) (a := ⟨g, off + j, none⟩) (hkk g hgc)]
    exact h2 j hj
  · exact hE.1.sublist hs
  · exact own_keep (hE.2 x (hs.subset hq)) fun ad e => by
      have h1 := hx x hq ad e
      rw [hkk _ h1]
      exact hb.block _ (c3 _ (hbl x (hs.subset hq) ad e))
  · exact (Kp.of_below hb).put (.inl c1) _
theorem stay_take {l : List Pm} {k : Nat} (hk : k < l.length) (f : Pm → Bool) : (l.take (k + 1)).filter f = (l.take k).filter f ++ (if f l[k] then [l[k]] else []) := by
  rw [List.take_succ_eq_append_getElem hk, List.filter_append]
  congr 1
  by_cases h : f l[k] <;> simp [h]

set_option linter.unusedSimpArgs false in
set_option maxRecDepth 100000 in
set_option maxHeartbeats 4000000 in
theorem rgone_any (D : Nat → Prop) (w : World) (cb : Nat) (L : List Pc) (aa : Option Addr) (p cc : Nat) (ns : List Int) (hN : NetR D w cb L) (hL : L.length ≤ 10000) (hnl : ns.length = p) (hp : p ≤ 100000) (hr : Reads w aa (iV ns)) :
    Calls Try.prog 21 #[.pointer (some ⟨cb, 0, none⟩), .slice aa p cc] w fun e w' => e = .returned (.int .i64 ((L.length - (L.filter (stayB ns)).length : Nat) : Int)) ∧ NetR (Ex D w w') w' cb (L.filter (stayB ns)) ∧ Kp D w w' := by
  obtain ⟨l, rfl, hM, hE⟩ := hN
  have HM := hide hM
  obtain ⟨⟨c1, c2, c3⟩, a, n, c, hcell, hro, hne, hxs⟩ := hM
  have hn := hro.1.1
  rw [List.length_map] at hL
  have HRO := hide hro
  have HE := hide hE
  have C29 := hide (fun (v : Int) (wr : World) (hb : Below w.heap.size w wr) => in_any aa p cc ns v wr hnl (by omega) (hr.below hb))
  have HLn := hide hn
  have HC3 := hide c3
  have HCL := hide (c3 cb c1)
  have hn1 : n ≤ 10000 := by omega
  obtain ⟨f, hf⟩ : ∃ f : Pm → Bool, f = fun x => stayB ns x.p := ⟨_, rfl⟩
  have HF := hide hf
  have HFI := hide (show (l.map Pm.p).filter (stayB ns) = (l.filter f).map Pm.p by rw [hf, List.filter_map]; rfl)
  have HS0 := hide (show GoneS D w w none 0 0 ((l.take 0).filter f) from ⟨⟨⟨rfl, ⟨Nat.le_refl _, Nat.zero_le _⟩, fun _ => ⟨rfl, rfl⟩, .inl rfl, (fun ad e => by cases e), fun x hx => by cases hx⟩, fun ad e => by cases e⟩, fun ad e => by cases e⟩)
  have HCE := hide hcell
  clear hf hnl hr hro hne hxs hE hn c1 c2 c3 hcell
  go_enter Try.func21, Try.ntmps21
  go_wp2
  go_loopw [5, 6] (fun v i wr => Hid (Below w.heap.size w wr) ∧ ∃ (k m : Nat) (av : Option Addr) (cv : Nat), k ≤ n ∧ m ≤ k ∧ i = .int .i64 (k : Nat) ∧ v = .slice av m cv ∧ Hid (GoneS D w wr av m cv ((l.take k).filter f))) (fun _ i _ => n - (intOf i).toNat)
  case atStart => exact ⟨hide (Below.refl _ _), 0, 0, none, 0, Nat.zero_le _, Nat.le_refl _, rfl, rfl, HS0⟩
  case round =>
    obtain ⟨HB, k, m, av, cv, hk, hmk, rfl, rfl, HG⟩ := hrel
    have hcr : wr.cell? ⟨cb, 0, none⟩ = some (.slice a n c) := keep_cell HCE.out HB.out
    by_cases hlt : k < n
    · have hkl : k < l.length := by have := HLn.out; omega
      obtain ⟨g, off, har, z0, z1, z2⟩ := HRO.out.1.at hkl
      subst har
      have hki : (k : Int) < (n : Int) := by omega
      have hok := hide (HRO.out.1.2.2.2.2.2 l[k] (List.getElem_mem _))
      have HT := hide (stay_take hkl f)
      have HFX := hide (show f l[k] = stayB ns l[k].p by rw [HF.out])
      have y0 := keep_cell z0 HB.out
      have y1 := keep_cell z1 HB.out
      have y2 := keep_cell z2 HB.out
      clear z0 z1 z2
      obtain ⟨⟨⟨x1, x2, bs⟩, xa, xn, xc⟩, hx⟩ : ∃ x, x = l[k] := ⟨_, rfl⟩
      rw [← hx] at y0 y1 y2 hok HT HFX
      simp only at y0 y1 y2
      clear hx hkl
      have D1 := hide (C29.out x1 wr HB.out)
      have D2 := hide (C29.out x2 wr HB.out)
      by_cases h1 : decide (x1 ∈ ns) = true
      · rw [h1] at D1
        have HT2 := hide (show (l.take (k + 1)).filter f = (l.take k).filter f by rw [HT.out, HFX.out]; simp [stayB, h1])
        generalize decide (x2 ∈ ns) = b2 at D2
        clear h1
        go_wp2_with (first | (go_at_call 29; with_reducible refine D1.out.mono ?_; rintro e w1 ⟨rfl, hw1⟩; have hw2 : wr = w1 := hw1.symm; subst hw2) | (go_at_call 29; go_must (with_reducible refine D2.out.mono ?_; rintro e w1 ⟨rfl, hw1⟩; have hw2 : wr = w1 := hw1.symm; subst hw2)))
        go_roundw
        case rel => exact ⟨HB, k + 1, m, av, cv, by omega, by omega, by go_num, rfl, by rw [HT2.out]; exact HG⟩
        case measure => simp [intOf]; omega
      · have h1 : decide (x1 ∈ ns) = false := by simpa using h1
        rw [h1] at D1
        by_cases h2 : decide (x2 ∈ ns) = true
        · rw [h2] at D2
          have HT2 := hide (show (l.take (k + 1)).filter f = (l.take k).filter f by rw [HT.out, HFX.out]; simp [stayB, h1, h2])
          clear h1 h2
          go_wp2_with (first | (go_at_call 29; with_reducible refine D1.out.mono ?_; rintro e w1 ⟨rfl, hw1⟩; have hw2 : wr = w1 := hw1.symm; subst hw2) | (go_at_call 29; go_must (with_reducible refine D2.out.mono ?_; rintro e w1 ⟨rfl, hw1⟩; have hw2 : wr = w1 := hw1.symm; subst hw2)))
          go_roundw
          case rel => exact ⟨HB, k + 1, m, av, cv, by omega, by omega, by go_num, rfl, by rw [HT2.out]; exact HG⟩
          case measure => simp [intOf]; omega
        · have h2 : decide (x2 ∈ ns) = false := by simpa using h2
          rw [h2] at D2
          have HT2 := hide (show (l.take (k + 1)).filter f = (l.take k).filter f ++ [⟨(x1, x2, bs), xa, xn, xc⟩] by rw [HT.out, HFX.out]; simp [stayB, h1, h2])
          clear h1 h2
          obtain ⟨v9, w9, hrun9, a9, c9, rfl, hb9, hG9⟩ := gone_push (w2 := wr.alloc (.cells #[.int .i64 x1, .int .i64 x2, .slice xa xn xc] 37)) HC3.out HB.out HG.out hok.out (by omega) rfl 28
          have HB9 := hide hb9
          have HG9 := hide hG9
          clear hb9 hG9
          go_wp2_with (first | (go_at_call 29; with_reducible refine D1.out.mono ?_; rintro e w1 ⟨rfl, hw1⟩; have hw2 : wr = w1 := hw1.symm; subst hw2) | (go_at_call 29; with_reducible refine D2.out.mono ?_; rintro e w1 ⟨rfl, hw1⟩; have hw2 : wr = w1 := hw1.symm; subst hw2) | (at_builtin; go_must (refine wpl_append_run rfl (.tmp 45) (.tmp 53) rfl rfl rfl hrun9 ?_)))
          go_roundw
          case rel => exact ⟨HB9, k + 1, m + 1, a9, c9, by omega, by omega, by go_num, rfl, by rw [HT2.out]; exact HG9⟩
          case measure => simp [intOf]; omega
    · obtain rfl : k = n := by omega
      have HT := hide (show (l.take k).filter f = l.filter f by rw [List.take_of_length_le (by rw [HLn.out]; exact Nat.le_refl _)])
      rw [HT.out] at HG
      have hml : (l.filter f).length = m := HG.out.1.1.1
      have HV := hide (show (l.map Pm.p).length - ((l.map Pm.p).filter (stayB ns)).length = k - m by rw [HFI.out, List.length_map, List.length_map, hml, HLn.out])
      have HE9 := hide (gone_end HM.out HE.out HB.out HG.out List.filter_sublist)
      rw [← HFI.out] at HE9
      have hfr : wr.frozen? ⟨cb, 0, none⟩ = false := by rw [World.frozen?_of_block (w := w) (a := ⟨cb, 0, none⟩) (HB.out.block cb HCL.out)]; exact HM.out.1.2.1
      have hsub : (k : Int) - (m : Int) = ((k - m : Nat) : Int) := by omega
      clear hml
      go_wp2
      go_ret
      exact ⟨by rw [HV.out]; go_num, HE9.out.1, HE9.out.2⟩
end Go.Proofs.Ytmjglgdihlomlaa
