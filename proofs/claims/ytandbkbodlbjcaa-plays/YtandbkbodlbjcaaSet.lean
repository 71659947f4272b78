/- A table's sets: has, put, take; apart. -/
import Derived.Test.YtandbkbodlbjcaaCol
namespace Go.Proofs.Ytandbkbodlbjcaa
open Go.RowKit Go.ChangeShapes Go.WideShapes Go.ChangeAt Go.Deep Go.Maps

theorem tapart_any (s : ByteArray) (hs : s.size ≤ 281474976710656) (w : World) : Calls Try.prog 36 #[.string s] w fun e w' => e = .returned (.string s) ∧ Below w.heap.size w w' := by
  have C := fun w => Try.stringslite_Clone s w hs
  go_enter Try.func36, Try.ntmps36
  go_wp2_with (first | (go_at_call 57; go_must (with_reducible refine (C _).mono ?_; (rintro e wz ⟨rfl, hwz⟩))) | go_in)
  go_ret
  exact ⟨rfl, hwz⟩

theorem look_none (x : ByteArray) (hx : x.size ≤ 1000000) (w : World) : (Instr.lookup 50 (.map none) (.string x) true).run Try.prog w = .ok (.tuple #[.agg #[], .bool false]) w := by
  rw [Maps.look_nil true law31 Try.underlying50 (zero78 w) (key31 hx)]
  rfl

set_option maxRecDepth 100000 in
set_option maxHeartbeats 1000000 in
theorem has_any (w : World) (b o : Nat) (v : Value) (S : List ByteArray) (x : ByteArray) (hx : x.size ≤ 1000000) (hc : w.cell? ⟨b, o, none⟩ = some v) (h : SetM w v S) :
    Calls Try.prog 34 #[.pointer (some ⟨b, o, none⟩), .string x] w fun e w' => e = .returned (.bool (inB S x)) ∧ Below w.heap.size w w' := by
  have HB := hide (show Below w.heap.size w (w.alloc (.cells #[] 78)) from (Below.refl _ _).alloc (Nat.le_refl _) _)
  obtain ⟨_, _, h⟩ := h
  rcases h with ⟨rfl, rfl⟩ | ⟨m, D, rfl, hown, hh, _⟩
  · have hl := look_none x hx
    go_enter Try.func34, Try.ntmps34
    go_wp2
    go_ret
    exact ⟨rfl, HB.out⟩
  · have hk := key31 hx
    have HH := hide (hh x)
    clear hh
    go_enter Try.func34, Try.ntmps34
    go_wp2_with (at_lookup; refine wpList_lookup_own_unit _ rfl _ _ 50 rfl 31 78 law31 Try.underlying50 (zero78 _) m _ D rfl hown _ _ rfl hk ?_)
    go_ret
    exact ⟨ret_b HH.out, HB.out⟩

/-- A block whose first cells are these, all to be written. -/
def BoxL (w : World) (g : Nat) (xs : List Value) : Prop := g < w.heap.size ∧ ∀ j (h : j < xs.length), w.cell? ⟨g, j, none⟩ = some xs[j] ∧ w.frozen? ⟨g, j, none⟩ = false
theorem BoxL.keep {w w' : World} {g : Nat} {xs : List Value} (h : BoxL w g xs) (hs : w.heap.size ≤ w'.heap.size) (hb : w'.heap[g]? = w.heap[g]?) : BoxL w' g xs :=
  ⟨Nat.lt_of_lt_of_le h.1 hs, fun j hj => ⟨by rw [World.cell?_of_block (w := w) (a := ⟨g, j, none⟩) hb]; exact (h.2 j hj).1, by rw [World.frozen?_of_block (w := w) (a := ⟨g, j, none⟩) hb]; exact (h.2 j hj).2⟩⟩
theorem BoxL.below {w w' : World} {g : Nat} {xs : List Value} (h : BoxL w g xs) (hb : Below w.heap.size w w') : BoxL w' g xs := h.keep hb.size (hb.block g h.1)
theorem BoxL.put {w : World} {g : Nat} {xs : List Value} (h : BoxL w g xs) (i : Nat) (v : Value) : BoxL (w.setCell ⟨g, i, none⟩ v) g (xs.set i v) := by
  refine ⟨by simpa [World.setCell] using h.1, fun j hj => ⟨?_, ?_⟩⟩
  · rw [List.length_set] at hj
    by_cases e : i = j
    · subst e
      rw [List.getElem_set_self]
      exact World.cell?_setCell_same _ _ _ (h.2 i hj).1
    · rw [List.getElem_set_ne e, World.cell?_setCell_other (h := by simp)]
      exact (h.2 j hj).1
  · rw [List.length_set] at hj
    simpa using (h.2 j hj).2
theorem BoxL.new (w : World) (xs : List Value) (t : TypeId) : BoxL (w.alloc (.cells xs.toArray t)) w.heap.size xs := by
  refine ⟨by simp, fun j hj => ⟨?_, World.frozen?_alloc_at _ _ _ _ rfl⟩⟩
  rw [World.cell?_alloc_at _ _ _ _ rfl]
  simp [hj]
theorem below_new (w : World) (o : Obj) : Below w.heap.size w (w.alloc o) := (Below.refl _ _).alloc (Nat.le_refl _) o
theorem BoxL.at {w : World} {g o : Nat} {xs : List Value} {v : Value} (h : BoxL w g xs) (ho : xs[o]? = some v) : w.cell? ⟨g, o, none⟩ = some v ∧ w.frozen? ⟨g, o, none⟩ = false := by
  obtain ⟨h1, h2⟩ := List.getElem?_eq_some_iff.1 ho
  have := h.2 o h1
  rw [h2] at this
  exact this
theorem set_same {xs : List Value} {o : Nat} {v : Value} (ho : xs[o]? = some v) : xs.set o v = xs := by
  obtain ⟨h1, h2⟩ := List.getElem?_eq_some_iff.1 ho
  rw [← h2]; exact List.set_getElem_self h1
theorem box_not_map {H : Type} {P : Program} {k : TypeId} {R : Value → Option (DataW H × List MemPlace)} {w : World} {b n g o : Nat} {D : DataW H} {xs : List Value} {v : Value} (h : w.ownsMap P k R b n D) (hb : BoxL w g xs) (ho : xs[o]? = some v) : b ≠ g := by
  obtain ⟨es, clock, h1, _⟩ := h
  intro e
  subst e
  have := (hb.at ho).1
  simp [World.cell?, h1] at this

/-- Written is what a field leads to, and the field. -/
structure Ef (w w' : World) (cb : Nat) (v : Value) : Prop where
  os : w'.os = w.os
  tape : w'.tape = w.tape
  output : w'.output = w.output
  size : w.heap.size ≤ w'.heap.size
  block : ∀ k, k < w.heap.size → k ≠ cb → v ≠ .map (some k) → w'.heap[k]? = w.heap[k]?
theorem Ef.below {w w1 w' : World} {cb : Nat} {v : Value} (h : Ef w w1 cb v) (hb : Below w1.heap.size w1 w') : Ef w w' cb v :=
  ⟨hb.os.trans h.os, hb.tape.trans h.tape, hb.output.trans h.output, Nat.le_trans h.size hb.size, fun k hk h1 h2 => (hb.block k (Nat.lt_of_lt_of_le hk h.size)).trans (h.block k hk h1 h2)⟩
theorem Ef.behind {w w1 w' : World} {cb : Nat} {v : Value} (hb : Below w.heap.size w w1) (h : Ef w1 w' cb v) : Ef w w' cb v :=
  ⟨h.os.trans hb.os, h.tape.trans hb.tape, h.output.trans hb.output, Nat.le_trans hb.size h.size, fun k hk h1 h2 => (h.block k (Nat.lt_of_lt_of_le hk hb.size) h1 h2).trans (hb.block k hk)⟩

theorem setM_put {w : World} {b n : Nat} {D : DataW Unit} {S : List ByteArray} {x : ByteArray} (hT : Tidy D) (hh : ∀ y : ByteArray, Maps.has D (.string y.data.toList) = inB S y) (hsz : Maps.size D = S.length) (hS : S.Nodup) (hz : ∀ y ∈ S, y.size ≤ 12) (hx : x.size ≤ 12) (hn : x ∉ S)
    (h : w.ownsMap Try.prog 31 (unitElem (H := Unit)) b n (D.put (.string x.data.toList) (.agg []))) : SetM w (.map (some b)) (x :: S) := by
  refine ⟨List.nodup_cons.2 ⟨hn, hS⟩, fun y hy => ?_, .inr ⟨b, _, rfl, tight h, fun y => ?_, ?_⟩⟩
  · rcases List.mem_cons.1 hy with rfl | hy
    · exact hx
    · exact hz y hy
  · by_cases e : y = x
    · subst e
      rw [has_put_same hT.isMap (isKeyS _)]
      exact (inB_iff.2 (by simp)).symm
    · rw [has_put_other (lit_ne e), hh y]
      have e' : ¬ x = y := fun k => e k.symm
      simp [inB, e']
  · rw [size_put hT, hh x, inB_no.2 hn]
    simp [hsz]

set_option maxRecDepth 100000 in
set_option maxHeartbeats 1000000 in
theorem nput_any (w : World) (cb o : Nat) (xs : List Value) (v : Value) (S : List ByteArray) (x : ByteArray) (hbx : BoxL w cb xs) (ho : xs[o]? = some v) (h : SetM w v S) (hx : x.size ≤ 12) (hn : x ∉ S) (hl : S.length ≤ 1000000) :
    Calls Try.prog 35 #[.pointer (some ⟨cb, o, none⟩), .string x] w fun e w' => e = .returned (.tuple #[]) ∧ ∃ v', BoxL w' cb (xs.set o v') ∧ SetM w' v' (x :: S) ∧ Ef w w' cb v ∧ (v' = v ∨ ∃ b, v' = .map (some b) ∧ w.heap.size ≤ b ∧ b < w'.heap.size) := by
  have HBX := hide hbx
  have HO := hide ho
  have HX := hide hx
  have HN := hide hn
  obtain ⟨hS, hz, h⟩ := h
  have HS := hide hS
  have HZ := hide hz
  have hk := key31 (x := x) (by omega)
  obtain ⟨c0, f0⟩ := hbx.at ho
  rcases h with ⟨rfl, rfl⟩ | ⟨m, D, rfl, hown, hh, hsz⟩
  · have hmm := @run_makeMap Try.prog
    have heq : ∀ w, (binOp .eql 50 (.map none) (.map none)).run Try.prog w = .ok (.bool true) w := fun w => run_eql_map_nil w 50 31 78 none Try.underlying50
    have hmade := World.ownsMap_made (H := Unit) w Try.prog 31 (unitElem (H := Unit))
    have hb1 := below_new w (.map #[] 0)
    have hne : w.heap.size ≠ cb := by have := hbx.1; omega
    obtain ⟨c1, f1⟩ := (hbx.below hb1).at ho
    obtain ⟨W, hW⟩ : ∃ W, W = (w.alloc (.map #[] 0)).setCell ⟨cb, o, none⟩ (.map (some w.heap.size)) := ⟨_, rfl⟩
    have hW1 := hmade.setCell (a := ⟨cb, o, none⟩) hne (.map (some w.heap.size))
    have HBW := hide ((hbx.below hb1).put o (.map (some w.heap.size)))
    have HG := hide (grown_setCell (w.alloc (.map #[] 0)) cb o (.map (some w.heap.size)))
    have hcW : ((w.alloc (.map #[] 0)).setCell ⟨cb, o, none⟩ (.map (some w.heap.size))).cell? ⟨cb, o, none⟩ = some (.map (some w.heap.size)) := World.cell?_setCell_same _ _ _ ((hbx.below hb1).at ho).1
    rw [← hW] at hW1 HBW hcW HG
    have HW := hide hW
    have HB1 := hide hb1
    clear hW hb1 hmade hbx ho hn hl hx hS hz
    go_enter Try.func35, Try.ntmps35
    go_upto_region 2 with fail
    rw [← HW.out]
    go_wp2_with (at_mapUpdate; refine wpList_mapUpdate_own _ rfl _ _ _ 50 rfl 31 78 law31 Try.underlying50 _ w.heap.size 0 _ rfl hW1 (by unfold maxLen; omega) _ _ _ rfl rfl hk (.agg []) [] unitElem_mk ?_; intro w1 hown1 hgrow1)
    refine bodyPost_end (results_none rfl _ _ _) rfl ⟨rfl, .map (some w.heap.size), ?_, ?_, ?_, .inr ⟨_, rfl, Nat.le_refl _, ?_⟩⟩
    · exact HBW.out.keep hgrow1.size (hgrow1.block cb HBW.out.1 (by simpa using hne.symm))
    · exact setM_put tidy_empty (fun y => by simp [Maps.has, inB]) rfl List.nodup_nil (fun y hy => by cases hy) HX.out HN.out hown1
    · refine ⟨hgrow1.os.trans (HG.out.os.trans HB1.out.os), hgrow1.tape.trans (HG.out.tape.trans HB1.out.tape), hgrow1.output.trans (HG.out.output.trans HB1.out.output), Nat.le_trans HB1.out.size (Nat.le_trans HG.out.size hgrow1.size), fun k hk1 hk2 _ => ?_⟩
      have e1 := HB1.out.size
      have e2 := HG.out.size
      rw [hgrow1.block k (by omega) (by simp; omega), HG.out.block k (by omega) (by simpa using hk2), HB1.out.block k hk1]
    · exact hown1.lt
  · have heq : ∀ w, (binOp .eql 50 (.map (some m)) (.map none)).run Try.prog w = .ok (.bool false) w := fun w => run_eql_map_nil w 50 31 78 (some m) Try.underlying50
    have hne := box_not_map hown hbx ho
    have HT := hide (hown.tidy law31)
    have HH := hide hh
    have HSZ := hide hsz
    have hlt : Maps.size D < maxLen := by unfold maxLen; omega
    clear hbx ho hn hl hx hS hz hh hsz
    go_enter Try.func35, Try.ntmps35
    go_wp2_with (at_mapUpdate; refine wpList_mapUpdate_own _ rfl _ _ _ 50 rfl 31 78 law31 Try.underlying50 _ m _ _ rfl hown hlt _ _ _ rfl rfl hk (.agg []) [] unitElem_mk ?_; intro w1 hown1 hgrow1)
    refine bodyPost_end (results_none rfl _ _ _) rfl ⟨rfl, .map (some m), ?_, ?_, ?_, .inl rfl⟩
    · rw [set_same HO.out]
      exact HBX.out.keep hgrow1.size (hgrow1.block cb HBX.out.1 (by simpa using hne.symm))
    · exact setM_put HT.out HH.out HSZ.out HS.out HZ.out HX.out HN.out hown1
    · exact ⟨hgrow1.os, hgrow1.tape, hgrow1.output, hgrow1.size, fun k hk1 hk2 hk3 => hgrow1.block k hk1 (fun e => hk3 (by cases e; rfl))⟩

theorem drop_none (x : ByteArray) (hx : x.size ≤ 1000000) (ty : TypeId) (w : World) : (Builtin.delete_ #[50, 31] ty #[.map none, .string x]).run Try.prog w = .ok (.tuple #[]) w :=
  Maps.drop_nil law31 Try.underlying50 (key31 hx) ty

theorem setM_del {w : World} {b n : Nat} {D : DataW Unit} {S : List ByteArray} (x : ByteArray) (hT : Tidy D) (hh : ∀ y : ByteArray, Maps.has D (.string y.data.toList) = inB S y) (hsz : Maps.size D = S.length) (hS : S.Nodup) (hz : ∀ y ∈ S, y.size ≤ 12)
    (h : w.ownsMap Try.prog 31 (unitElem (H := Unit)) b n (D.del (.string x.data.toList))) : SetM w (.map (some b)) (del S x) := by
  refine ⟨del_nodup hS x, fun y hy => hz y (mem_del.1 hy).1, .inr ⟨b, _, rfl, tight h, fun y => ?_, ?_⟩⟩
  · by_cases e : y = x
    · subst e
      rw [has_del_same]
      exact (inB_no.2 (fun h => (mem_del.1 h).2 rfl)).symm
    · rw [has_del_other (lit_ne e), hh y]
      cases h : inB S y
      · exact (inB_no.2 (fun k => inB_no.1 h (mem_del.1 k).1)).symm
      · exact (inB_iff.2 (mem_del.2 ⟨inB_iff.1 h, e⟩)).symm
  · have h1 := size_del (k := .string x.data.toList) hT
    rw [hh x] at h1
    have h2 := del_len hS x
    omega

set_option maxRecDepth 100000 in
set_option maxHeartbeats 1000000 in
theorem take_any (w : World) (cb o : Nat) (xs : List Value) (v : Value) (S : List ByteArray) (x : ByteArray) (hbx : BoxL w cb xs) (ho : xs[o]? = some v) (h : SetM w v S) (hx : x.size ≤ 1000000) :
    Calls Try.prog 49 #[.pointer (some ⟨cb, o, none⟩), .string x] w fun e w' => e = .returned (.bool (inB S x)) ∧ BoxL w' cb xs ∧ SetM w' v (del S x) ∧ Ef w w' cb v := by
  have C := has_any w cb o v S x hx (hbx.at ho).1 h
  have HBX := hide hbx
  have HO := hide ho
  have hM := h
  obtain ⟨hS, hz, h⟩ := h
  have HS := hide hS
  have HZ := hide hz
  have hk := key31 (x := x) (by omega)
  obtain ⟨c0, f0⟩ := hbx.at ho
  have HR := hide (show ∀ w1, Below w.heap.size w w1 → w1.cell? ⟨cb, o, none⟩ = some v from fun w1 hb => ((hbx.below hb).at ho).1)
  generalize hq : inB S x = q at C
  have HQ := hide hq
  rcases h with ⟨rfl, rfl⟩ | ⟨m, D, rfl, hown, hh, hsz⟩
  · have hd := drop_none x hx
    clear hbx ho hS hz hM hq
    go_enter Try.func49, Try.ntmps49
    go_wp2_with (go_at_call 34; go_must ((with_reducible refine C.mono ?_); rintro e w1 ⟨rfl, hb1⟩; have c1 := HR.out w1 hb1; have HB1 := hide hb1; clear hb1))
    go_ret
    refine ⟨rfl, HBX.out.below HB1.out, SetM.nil _, ?_⟩
    exact ⟨HB1.out.os, HB1.out.tape, HB1.out.output, HB1.out.size, fun k hk1 _ _ => HB1.out.block k hk1⟩
  · have hne := box_not_map hown hbx ho
    have HT := hide (hown.tidy law31)
    have HH := hide hh
    have HSZ := hide hsz
    have HOW := hide (show ∀ w1, Below w.heap.size w w1 → w1.ownsMap Try.prog 31 (unitElem (H := Unit)) m (Maps.size D) D from fun w1 hb => ownsMap_keep hown (hb.block m hown.lt))
    clear hbx ho hS hz hh hsz hM hq
    go_enter Try.func49, Try.ntmps49
    go_wp2_with (first
      | (go_at_call 34; go_must ((with_reducible refine C.mono ?_); rintro e w1 ⟨rfl, hb1⟩; have c1 := HR.out w1 hb1; have hown1 := HOW.out w1 hb1; have HB1 := hide hb1; clear hb1))
      | (at_delete; refine wpList_delete_own _ rfl _ _ 50 31 rfl 78 law31 Try.underlying50 _ m _ D rfl hown1 _ _ rfl hk ?_; intro w2 hown2 hturn2))
    go_ret
    have hg := hturn2.grown
    have hbx1 := HBX.out.below HB1.out
    refine ⟨rfl, hbx1.keep hg.size (hg.block cb hbx1.1 (by simpa using hne.symm)), setM_del x HT.out HH.out HSZ.out HS.out HZ.out hown2, ?_⟩
    exact Ef.behind HB1.out ⟨hg.os, hg.tape, hg.output, hg.size, fun k hk1 hk2 hk3 => hg.block k hk1 (fun e => hk3 (by cases e; rfl))⟩

end Go.Proofs.Ytandbkbodlbjcaa
