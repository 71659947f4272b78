/- The document's Depths; CheckDepths. -/
import Derived.Test.YtfdgkeljnmamiaaDoorRck
namespace Go.Proofs.YtfdgkeljnmamiaaDoor
open Go.RowKit Go.ChangeShapes Go.WideShapes Go.ChangeAt Go.Deep

theorem head_code {fs : List Fun} {k : Nat} {f : Fun} (h : headErr fs k f = 0) : 1 ≤ f.code.length ∧ f.code.length ≤ 256 := by
  have := head_parts h
  simp [inB] at this
  omega
/-- Of a job that is taken: its functions are small, and their depths are the depths. -/
theorem good_parts {fs : List Fun} {main : Int} {na : Nat} {fuel tasks : Int} (h : (checkL fs main na fuel tasks).2.2 = 0) {k : Nat} (hk : k < fs.length) :
    (1 ≤ fs[k].code.length ∧ fs[k].code.length ≤ 256) ∧ Fwd fs[k].code ∧ ∃ d, depthsL (fs.map Fun.args) fs[k].code = .ok d ∧ rDepths (fs.map Fun.args) fs[k].code = .ok d ∧ depsOf fs main na fuel tasks (k : Int) = d := by
  have hg := check_good h
  have hS : Small (fs.map Fun.args) := small_of fun i hi => by
    have := func_good hg.2 (List.getElem?_eq_getElem hi)
    rw [Nat.zero_add] at this
    exact (func_parts this).1
  have hf := func_good hg.2 (List.getElem?_eq_getElem hk)
  rw [Nat.zero_add] at hf
  obtain ⟨h1, d, hd⟩ := func_parts hf
  have hF : Fwd fs[k].code := by
    unfold funcErr at hf
    rw [if_neg (by rw [h1]; simp)] at hf
    split at hf
    · rename_i h2; exact absurd hf h2
    · rename_i h2
      exact fwd_of (lo := fs[k].locals) (nf := fs.length) (by simpa using h2)
  obtain ⟨h3, d', h4, h5⟩ := deps_at h (List.getElem?_eq_getElem hk)
  rw [h4] at hd
  cases hd
  exact ⟨head_code h1, hF, _, h4, by rw [depths_same hS hF]; exact h4, h5⟩
theorem deps_none {fs : List Fun} {main : Int} {na : Nat} {fuel tasks f : Int} (h : (checkL fs main na fuel tasks).2.2 ≠ 0 ∨ f < 0 ∨ (fs.length : Int) ≤ f) : depsOf fs main na fuel tasks f = [] := by
  unfold depsOf
  rw [if_neg]
  rintro ⟨h1, h2⟩
  simp [hasB, inB] at h2
  rcases h with h | h | h
  · exact h h1
  · omega
  · omega

set_option linter.unusedSimpArgs false in
set_option maxRecDepth 100000 in
set_option maxHeartbeats 16000000 in
theorem rdeps_any (fa : Option Addr) (nf fc : Nat) (mn : Int) (aa : Option Addr) (na ac : Nat) (fu ta : Int) (cs : List Value) (fs : List Fun) (args : List Int) (f : Int) (w : World) (hJ : JobR w ⟨fa, nf, fc, mn, aa, na, ac, fu, ta⟩ cs fs args) (hn : nf ≤ 9223372036854775807) (hs : ∀ f ∈ fs, f.code.length ≤ 9223372036854775807 ∧ f.name.size ≤ 9223372036854775807) :
    Calls Tryd.prog 16 #[.agg #[.slice fa nf fc, .int .i64 mn, .slice aa na ac, .int .i64 fu, .int .i64 ta], .int .i64 f] w (DepsPost w (depsOf fs mn args.length fu ta f)) := by
  have hb1 := alloc_below w (.cells #[.slice fa nf fc, .int .i64 mn, .slice aa na ac, .int .i64 fu, .int .i64 ta] 25)
  have hr1 : (w.alloc (.cells #[.slice fa nf fc, .int .i64 mn, .slice aa na ac, .int .i64 fu, .int .i64 ta] 25)).heap[w.heap.size]? = some (.cells [.slice fa nf fc, .int .i64 mn, .slice aa na ac, .int .i64 fu, .int .i64 ta].toArray 25 (0, 0)) := heap_alloc_new w _
  have hJ1 := hJ.below hb1
  have hnf : nf = fs.length := hJ.nf
  have p0 := cell_row (i := 0) hr1 rfl
  have p1 := cell_row (i := 1) hr1 rfl
  have p2 := cell_row (i := 2) hr1 rfl
  have p3 := cell_row (i := 3) hr1 rfl
  have p4 := cell_row (i := 4) hr1 rfl
  have C12 := hide (rcheck_any fa nf fc mn aa na ac fu ta cs fs args _ hJ1 hn hs)
  have HIF := hide (check_iff fs mn args.length fu ta)
  have HGP := hide (fun (h : (checkL fs mn args.length fu ta).2.2 = 0) (k : Nat) (hk : k < fs.length) => good_parts h hk)
  have HDN := hide (fun (f : Int) (h : (checkL fs mn args.length fu ta).2.2 ≠ 0 ∨ f < 0 ∨ (fs.length : Int) ≤ f) => deps_none h)
  generalize rCheckL fs mn args.length fu ta = q at C12 HIF
  obtain ⟨q1, q2, q3⟩ := q
  dsimp only at C12 HIF
  have HNIL := hide (fun (W : World) (hb : Below w.heap.size w W) (h : depsOf fs mn args.length fu ta f = []) => show DepsPost w (depsOf fs mn args.length fu ta f) (.returned (.slice none 0 0)) W from by rw [h]; exact ⟨none, 0, rfl, .inl rfl, hb⟩)
  have HYES := hide (fun (W : World) (d : List Int) (a : Option Addr) (c : Nat) (hb : Below w.heap.size w W) (h : depsOf fs mn args.length fu ta f = d) (hr : Reads W a (iV d)) => show DepsPost w (depsOf fs mn args.length fu ta f) (.returned (.slice a d.length c)) W from by rw [h]; exact ⟨a, c, rfl, hr, hb⟩)
  generalize hZ : DepsPost w (depsOf fs mn args.length fu ta f) = Z at HNIL HYES ⊢
  clear hZ hJ
  have HNF := hide hnf
  clear hnf hs
  go_enter Tryd.func16, Tryd.ntmps16
  go_upto_region 1 with fail
  generalize w.alloc (.cells #[.slice fa nf fc, .int .i64 mn, .slice aa na ac, .int .i64 fu, .int .i64 ta] 25) = w1 at *
  have HB1 := hide hb1
  have HR1 := hide hr1
  have HJ1 := hide hJ1
  clear hb1 hr1 hJ1
  by_cases hq : q3 = 0
  · subst hq
    have hc0 := HIF.out.1 rfl
    have hez : ((0 : Int) != 0) = false := by simp
    clear HIF
    by_cases b1 : f < 0
    · have HD := hide (HDN.out f (.inr (.inl b1)))
      clear HGP HDN hc0
      go_wp2_with (go_at_call 12; go_must ((with_reducible refine C12.out.mono ?_); rintro e w2 ⟨rfl, hb2⟩; have HB2 := hide (HB1.out.trans (hb2.mono HB1.out.size)); have p0' := keep_cell p0 hb2; clear hb2))
      try go_ret
      exact HNIL.out _ HB2.out HD.out
    · by_cases b2 : (nf : Int) ≤ f
      · have HD := hide (HDN.out f (.inr (.inr (by have := HNF.out; omega))))
        clear HGP HDN hc0
        go_wp2_with (go_at_call 12; go_must ((with_reducible refine C12.out.mono ?_); rintro e w2 ⟨rfl, hb2⟩; have HB2 := hide (HB1.out.trans (hb2.mono HB1.out.size)); have p0' := keep_cell p0 hb2; clear hb2))
        try go_ret
        exact HNIL.out _ HB2.out HD.out
      · obtain ⟨k, rfl⟩ : ∃ k : Nat, f = (k : Int) := ⟨f.toNat, by omega⟩
        have hkf : k < fs.length := by have := HNF.out; omega
        have hkI : (k : Int) < (nf : Int) := by omega
        obtain ⟨hlen, hF, d, -, hrd, hdo⟩ := HGP.out hc0 k hkf
        have HDO := hide hdo
        clear HGP HDN hc0 hdo
        have HCC := hide (fun (W : World) (hb : Below w1.heap.size w1 W) => show ∃ fb off ca cc, fa = some ⟨fb, off, none⟩ ∧ W.cell? ⟨fb, off + k * 4, none⟩ = some (.string fs[k].name) ∧ W.cell? ⟨fb, off + k * 4 + 1, none⟩ = some (.int .i64 fs[k].args) ∧ W.cell? ⟨fb, off + k * 4 + 2, none⟩ = some (.int .i64 fs[k].locals) ∧ W.cell? ⟨fb, off + k * 4 + 3, none⟩ = some (.slice ca fs[k].code.length cc) ∧ Reads W ca (insV fs[k].code) from by
          obtain ⟨fb, off, ca, cc, e, y0, y1, y2, y3, yr, -⟩ := (HJ1.out.below hb).fun_at hkf
          exact ⟨fb, off, ca, cc, e, y0, y1, y2, y3, yr⟩)
        go_upto_region 4 with (go_at_call 12; go_must ((with_reducible refine C12.out.mono ?_); rintro e w2 ⟨rfl, hb2⟩; have HB2 := hide (HB1.out.trans (hb2.mono HB1.out.size)); have HB2b := hide hb2; have p0' := keep_cell p0 hb2; have p1' := keep_cell p1 hb2; have p2' := keep_cell p2 hb2; have p3' := keep_cell p3 hb2; have p4' := keep_cell p4 hb2; clear hb2))
        obtain ⟨fb, off, ca, cc, rfl, y0, y1, y2, y3, yr⟩ := HCC.out w2 HB2b.out
        have C26 := rdepths_any (some ⟨fb, off, none⟩) nf fc mn aa na ac fu ta fs[k].name fs[k].args fs[k].locals ca fs[k].code.length cc fs[k].code (fs.map Fun.args) w2.drew rfl hlen.1 hlen.2 (by rw [List.length_map]; exact HNF.out.symm) (((HJ1.out.areads).below HB2b.out).below (Below.refl _ _).drew) (yr.below (Below.refl _ _).drew) hF
        rw [hrd] at C26
        unfold RDepPost at C26
        dsimp only at C26
        have C26 := hide C26
        clear hrd HCC C12 yr p0 p1 p2 p3 p4
        generalize fs[k].name = nm at *
        generalize fs[k].args = ar at *
        generalize fs[k].locals = lo at *
        generalize fs[k].code.length = cn at *
        go_region_held3 (fun W => W.cell? ⟨w.heap.size, 0, none⟩ = some (.slice (some ⟨fb, off, none⟩) nf fc) ∧ W.cell? ⟨w.heap.size, 1, none⟩ = some (.int .i64 mn) ∧ W.cell? ⟨w.heap.size, 2, none⟩ = some (.slice aa na ac) ∧ W.cell? ⟨w.heap.size, 3, none⟩ = some (.int .i64 fu) ∧ W.cell? ⟨w.heap.size, 4, none⟩ = some (.int .i64 ta) ∧ W.cell? ⟨fb, off + k * 4, none⟩ = some (.string nm) ∧ W.cell? ⟨fb, off + k * 4 + 1, none⟩ = some (.int .i64 ar) ∧ W.cell? ⟨fb, off + k * 4 + 2, none⟩ = some (.int .i64 lo) ∧ W.cell? ⟨fb, off + k * 4 + 3, none⟩ = some (.slice ca cn cc)) (first | exact ⟨p0', p1', p2', p3', p4', y0, y1, y2, y3⟩ | exact ⟨r0, r1, r2, r3, r4, z0, z1, z2, z3⟩) ((go_at_call 26; (with_reducible refine C26.out.mono ?_); rintro e w3 ⟨hb3, ad, dc, rfl, hrd⟩; have hb3' : Below w2.heap.size w2 w3 := ⟨hb3.os, hb3.tape, hb3.output, hb3.size, hb3.block⟩; have r0 := keep_cell p0' hb3'; have r1 := keep_cell p1' hb3'; have r2 := keep_cell p2' hb3'; have r3 := keep_cell p3' hb3'; have r4 := keep_cell p4' hb3'; have z0 := keep_cell y0 hb3'; have z1 := keep_cell y1 hb3'; have z2 := keep_cell y2 hb3'; have z3 := keep_cell y3 hb3'; have HB3 := hide (HB2.out.trans (hb3'.mono HB2.out.size)); have HRD := hide hrd; clear hb3 hb3' hrd))
        go_wp2_with fail
        try go_ret
        exact HYES.out _ d _ _ HB3.out HDO.out HRD.out
  · have hez : (q3 != 0) = true := by simpa using hq
    have hez2 : (q3 == 0) = false := by simpa using hq
    have HD := hide (HDN.out f (.inl (fun e => hq (HIF.out.2 e))))
    clear HGP HDN HIF hq
    go_wp2_with (go_at_call 12; go_must ((with_reducible refine C12.out.mono ?_); rintro e w2 ⟨rfl, hb2⟩; have HB2 := hide (HB1.out.trans (hb2.mono HB1.out.size)); have p0' := keep_cell p0 hb2; clear hb2))
    try go_ret
    exact HNIL.out _ HB2.out HD.out
end Go.Proofs.YtfdgkeljnmamiaaDoor
