/- (*net.Net).Gone. -/
import Derived.Test.YtmjglgdihlomlaaGoF
namespace Go.Proofs.Ytmjglgdihlomlaa
open Go.RowKit Go.ChangeShapes Go.WideShapes Go.ChangeAt Go.Deep Go.Maps

theorem gone_fin {D : Nat → Prop} {wr w3 : World} {cb n c m : Nat} {a : Option Addr} {l lf : List Pm} (hM : NetM D wr cb l) (hcell : wr.cell? ⟨cb, 0, none⟩ = some (.slice a n c)) (hR : RowO D w3 a m c lf) (hK : Kp (fun b => ∃ ad, a = some ad ∧ ad.block = b) wr w3) (hs : lf.Sublist l) :
    w3.cell? ⟨cb, 0, none⟩ = some (.slice a n c) ∧ w3.frozen? ⟨cb, 0, none⟩ = false ∧ (w3.setCell ⟨cb, 0, none⟩ (.slice a m c)).cell? ⟨cb, 0, none⟩ = some (.slice a m c) ∧ NetM D (w3.setCell ⟨cb, 0, none⟩ (.slice a m c)) cb lf ∧ Kp D wr (w3.setCell ⟨cb, 0, none⟩ (.slice a m c)) := by
  obtain ⟨⟨c1, c2, c3⟩, a', n', c', hcell', hro, hne, hxs⟩ := hM
  rw [hcell] at hcell'
  simp only [Option.some.injEq, Value.slice.injEq] at hcell'
  obtain ⟨rfl, rfl, rfl⟩ := hcell'
  have hcl := c3 cb c1
  have hcb : w3.heap[cb]? = wr.heap[cb]? := hK.block cb hcl (fun ⟨ad, e, e2⟩ => hne ad e e2)
  have hc' : w3.cell? ⟨cb, 0, none⟩ = some (.slice a n c) := by rw [World.cell?_of_block (w := wr) (a := ⟨cb, 0, none⟩) hcb]; exact hcell
  have hf' : w3.frozen? ⟨cb, 0, none⟩ = false := by rw [World.frozen?_of_block (w := wr) (a := ⟨cb, 0, none⟩) hcb]; exact c2
  have hkk : ∀ k, k ≠ cb → (w3.setCell ⟨cb, 0, none⟩ (.slice a m c)).heap[k]? = w3.heap[k]? := fun k hk => Below.heap_setCell _ _ _ _ hk
  have hsz : (w3.setCell ⟨cb, 0, none⟩ (.slice a m c)).heap.size = w3.heap.size := by simp [World.setCell]
  have hx : ∀ x ∈ lf, ∀ ad, x.a = some ad → ad.block ≠ cb := fun x h => hxs x (hs.subset h)
  refine ⟨hc', hf', World.cell?_setCell_same _ _ _ hc', ⟨⟨c1, by simpa using hf', fun k hk => by rw [hsz]; exact Nat.lt_of_lt_of_le (c3 k hk) hK.size⟩, a, m, c, World.cell?_setCell_same _ _ _ hc', ⟨⟨hR.1.1, hR.1.2.1, hR.1.2.2.1, hR.1.2.2.2.1.keepN (g := cb) hne (fun k hk _ => hkk k hk), hR.1.2.2.2.2.1, fun x hq => (hR.1.2.2.2.2.2 x hq).keepN (hx x hq) (fun k hk _ => hkk k hk)⟩, fun ad e => ?_⟩, hne, hx⟩, ?_⟩
  · obtain ⟨g, off, e1, h2, h3⟩ := hR.2 ad e
    have hgc : g ≠ cb := by have := hne ad e; rw [e1] at this; exact this
    refine ⟨g, off, e1, fun j hj => ?_, h3⟩
    rw [World.cell?_of_block (w := w3) (a := ⟨g, off + j, none⟩) (hkk g hgc), World.frozen?_of_block (w := w3) (a := ⟨g, off + j, none⟩) (hkk g hgc)]
    exact h2 j hj
  · exact Kp.put ⟨hK.os, hK.tape, hK.output, hK.size, fun k h1 hd => hK.block k h1 (fun ⟨ad, e, e2⟩ => hd (e2 ▸ hro.1.2.2.2.2.1 ad e))⟩ (.inl c1) _

set_option linter.unusedSimpArgs false in
set_option maxRecDepth 100000 in
set_option maxHeartbeats 4000000 in
theorem gone_any (D : Nat → Prop) (w : World) (cb : Nat) (L : List Pc) (aa : Option Addr) (p cc : Nat) (ns : List Int) (hN : NetP D w cb L) (hL : L.length ≤ 20000) (hnl : ns.length = p) (hp : p ≤ 100000) (hr : Reads w aa (iV ns)) (hwf : ∀ x ∈ L, wfP x) (hwn : ∀ v ∈ ns, (Lit.int .i64 v).wf = true) :
    Calls Try.prog 20 #[.pointer (some ⟨cb, 0, none⟩), .slice aa p cc] w fun e w' => e = .returned (.int .i64 ((L.length - (L.filter (stayB ns)).length : Nat) : Int)) ∧ NetP D w' cb (L.filter (stayB ns)) ∧ Kp D w w' := by
  obtain ⟨l, rfl, hM⟩ := hN
  rw [List.length_map] at hL
  have HM := hide hM
  have HR := hide hr
  have HNL := hide hnl
  have HWF := hide hwf
  have HWN := hide hwn
  have hmm := @run_makeMap Try.prog
  clear hM hr hnl hwf hwn
  go_enter Try.func20, Try.ntmps20
  go_upto_region 2 with fail
  have hbV : Below w.heap.size w ((w.alloc (.map #[] 0)).alloc (.cells #[.map (some w.heap.size)] 54)) := ((Below.refl _ _).alloc (Nat.le_refl _) _).alloc (by simp) _
  have hoV : ((w.alloc (.map #[] 0)).alloc (.cells #[.map (some w.heap.size)] 54)).ownsMap Try.prog 3 (unitElem (H := Unit)) w.heap.size 0 (setD (ns.take 0)) := (World.ownsMap_made w Try.prog 3 (unitElem (H := Unit))).alloc _
  have hxV : BoxL ((w.alloc (.map #[] 0)).alloc (.cells #[.map (some w.heap.size)] 54)) (w.heap.size + 1) [.map (some w.heap.size)] := by
    have := BoxL.new (w.alloc (.map #[] 0)) [.map (some w.heap.size)] 54
    simpa using this
  generalize (w.alloc (.map #[] 0)).alloc (.cells #[.map (some w.heap.size)] 54) = V at hbV hoV hxV ⊢
  have HBV := hide hbV
  have HOV := hide hoV
  have HXV := hide hxV
  clear hbV hoV hxV hmm
  go_wp2
  go_loopw [12] (fun i wr => Hid (Below w.heap.size w wr) ∧ ∃ k : Nat, k ≤ p ∧ i = .int .i64 (k : Nat) ∧ Hid (BoxL wr (w.heap.size + 1) [.map (some w.heap.size)]) ∧ Hid (wr.ownsMap Try.prog 3 (unitElem (H := Unit)) w.heap.size k (setD (ns.take k)))) (fun i _ => p - (intOf i).toNat)
  case atStart => exact ⟨HBV, 0, Nat.zero_le _, rfl, HXV, HOV⟩
  case round =>
    obtain ⟨HB, k, hk, rfl, HX, HO⟩ := hrel
    by_cases hlt : k < p
    · have hkl : k < ns.length := by have := HNL.out; omega
      have hlt' : (k : Int) < (p : Int) := by omega
      obtain ⟨b0, off0, rfl, hc0⟩ := Reads.int (HR.out.below HB.out) hkl
      have hkey : keyOf Try.prog 3 (.int .i64 ns[k]) = some (.int .i64 ns[k]) := keyOf_int_mk Try.underlying3 (HWN.out _ (List.getElem_mem _))
      have HT := hide (show setD (ns.take (k + 1)) = (setD (ns.take k)).put (.int .i64 ns[k]) (.agg []) by rw [List.take_succ_eq_append_getElem hkl, set_snoc])
      have hx0 := (HX.out.2 0 (by simp)).1
      simp only [List.getElem_cons_zero] at hx0
      have hown := HO.out
      generalize ns[k] = x at hc0 hkey HT
      clear hkl
      go_wp2_with (first | (at_mapUpdate; refine wpList_mapUpdate_own _ rfl _ _ _ 54 rfl 3 55 law3 Try.underlying54 (unitElem (H := Unit)) w.heap.size k _ rfl hown (by unfold maxLen; omega) _ _ _ rfl rfl hkey _ [] unitElem_mk ?_; intro w1 hown1 hgrow1; have HO1 := hide hown1; have HX1 := hide (HX.out.grown hgrow1 (by omega)); have HB1 := hide (HB.out.grown hgrow1 HB.out.size (fun j hj => by cases hj; exact Nat.le_refl _)); clear hown1 hgrow1))
      go_roundw
      case rel => exact ⟨HB1, k + 1, by omega, by go_num, HX1, by rw [HT.out]; exact HO1⟩
      case measure => simp [intOf]; omega
    · obtain rfl : k = p := by omega
      have HGM := hide (show GoneM wr (w.heap.size + 1) w.heap.size ns from ⟨by have := (HX.out.2 0 (by simp)).1; simpa using this, k, by have := HO.out; rwa [List.take_of_length_le (by rw [HNL.out]; exact Nat.le_refl _)] at this⟩)
      have hMr := HM.out.below HB.out
      have HMr := hide hMr
      obtain ⟨⟨c1, c2, c3⟩, a, n, c, hcell, hro, hne, hxs⟩ := hMr
      have hn := hro.1.1
      have C27 := hide (delf_any D wr (w.heap.size + 1) w.heap.size ns a n c l hro c3 (by omega) HGM.out (fun e => by have := HM.out.1.2.2 _ e; omega) (fun e => by have := HM.out.1.2.2 _ e; omega) (fun x hx => HWF.out x.p (List.mem_map_of_mem hx)))
      have HSB := hide (show (l.filter (stM ns)).Sublist l from List.filter_sublist)
      have hsf : stM ns = (stayB ns ∘ Pm.p) := by funext x; simp [stM, stayB, goB]
      have HFI := hide (show (l.map Pm.p).filter (stayB ns) = (l.filter (stM ns)).map Pm.p by rw [List.filter_map, hsf])
      have HCE := hide hcell
      have HLn := hide hn
      have hfl : (l.filter (stM ns)).length ≤ n := by rw [← hn]; exact List.length_filter_le _ _
      have HV := hide (show (l.map Pm.p).length - ((l.map Pm.p).filter (stayB ns)).length = n - (l.filter (stM ns)).length by rw [HFI.out, List.length_map, List.length_map, hn])
      have hn2 : n ≤ 20000 := by omega
      clear c1 c2 c3 hro hne hxs hsf hn
      generalize hm : (l.filter (stM ns)).length = m at hfl HV
      have HMM := hide hm
      clear hm
      go_wp2_with (go_at_call 27; go_must ((with_reducible refine C27.out.mono ?_); rintro e w3 ⟨rfl, hR3, hK3⟩; obtain ⟨t1, t2, t3, t4, t5⟩ := gone_fin HMr.out HCE.out hR3 hK3 HSB.out; rw [HMM.out] at t3 t4 t5 ⊢; have T4 := hide t4; have T5 := hide t5; clear t4 t5 hR3 hK3))
      have hsub : (n : Int) - (m : Int) = ((n - m : Nat) : Int) := by omega
      go_ret
      exact ⟨by rw [HV.out, ← hsub]; rfl, ⟨_, HFI.out.symm, T4.out⟩, (Kp.of_below HB.out).trans T5.out⟩
end Go.Proofs.Ytmjglgdihlomlaa
