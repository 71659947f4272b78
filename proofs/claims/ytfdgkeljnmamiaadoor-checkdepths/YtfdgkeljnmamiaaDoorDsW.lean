/- CheckDepths: the law's walk. -/
import Derived.Test.YtfdgkeljnmamiaaDoorRds
namespace Go.Proofs.YtfdgkeljnmamiaaDoor
open Go.RowKit Go.ChangeShapes Go.WideShapes Go.ChangeAt Go.Deep

theorem walkL_len {ns : List Int} {code : List (Int × Int)} : ∀ (k : Nat) (d : List Int) (g : List Bool) (low : Nat) (r : List Int), Deps d → walkL ns code k d g low = .ok r → r.length = d.length
  | 0, d, g, low, r, _, h => by
    rw [walkL] at h
    cases h; rfl
  | k + 1, d, g, low, r, hd, h => by
    rw [walkL] at h
    split at h
    · split at h
      · cases h
      · rename_i d' low' ho
        obtain ⟨h1, h2, -⟩ := overL_bound ho hd
        exact (walkL_len k d' _ low' r h1 h).trans h2
    · cases h; rfl
theorem depthsL_len {ns : List Int} {code : List (Int × Int)} {d : List Int} (h : depthsL ns code = .ok d) : d.length = code.length := by
  have := walkL_len _ _ _ _ _ (Deps.set (fun v hv => by rw [List.eq_of_mem_replicate hv]; decide) 0 (by decide)) h
  simpa using this
theorem deps_short (fs : List Fun) (mn : Int) (na : Nat) (fu ta f : Int) : (depsOf fs mn na fu ta f).length ≤ 256 := by
  by_cases h : (checkL fs mn na fu ta).2.2 ≠ 0 ∨ f < 0 ∨ (fs.length : Int) ≤ f
  · rw [deps_none h]; simp
  · have h0 : (checkL fs mn na fu ta).2.2 = 0 := by
      by_cases e : (checkL fs mn na fu ta).2.2 = 0
      · exact e
      · exact absurd (.inl e) h
    have h1 : ¬ (f < 0 ∨ (fs.length : Int) ≤ f) := fun e => h (.inr e)
    obtain ⟨k, rfl⟩ : ∃ k : Nat, f = (k : Int) := ⟨f.toNat, by omega⟩
    have hk : k < fs.length := by omega
    obtain ⟨h2, d, hd, he⟩ := deps_at h0 (List.getElem?_eq_getElem hk)
    rw [he, depthsL_len hd]
    exact h2.2

set_option linter.unusedSimpArgs false in
set_option maxRecDepth 100000 in
set_option maxHeartbeats 16000000 in
theorem ckDepths_any (fa : Option Addr) (nf fc : Nat) (mn : Int) (aa : Option Addr) (na ac : Nat) (fu ta : Int) (cs : List Value) (fs : List Fun) (args : List Int) (f : Int) (w : World) (hJ : JobR w ⟨fa, nf, fc, mn, aa, na, ac, fu, ta⟩ cs fs args) (hE : Env w) (hn : nf ≤ 9223372036854775807) (hna : na ≤ 9223372036854775807) (hs : ∀ f ∈ fs, f.code.length ≤ 9223372036854775807 ∧ f.name.size ≤ 9223372036854775807) :
    Calls Tryd.prog 4 #[.agg #[.slice fa nf fc, .int .i64 mn, .slice aa na ac, .int .i64 fu, .int .i64 ta], .int .i64 f] w fun e w' => e = .returned (.bool true) ∧ Below w.heap.size w w' := by
  have hb1 := alloc_below w (.cells #[.slice fa nf fc, .int .i64 mn, .slice aa na ac, .int .i64 fu, .int .i64 ta] 25)
  have hr1 : (w.alloc (.cells #[.slice fa nf fc, .int .i64 mn, .slice aa na ac, .int .i64 fu, .int .i64 ta] 25)).heap[w.heap.size]? = some (.cells [.slice fa nf fc, .int .i64 mn, .slice aa na ac, .int .i64 fu, .int .i64 ta].toArray 25 (0, 0)) := heap_alloc_new w _
  have hJ1 := hJ.below hb1
  have hE1 := hE.below hb1
  have p0 := cell_row (i := 0) hr1 rfl
  have p1 := cell_row (i := 1) hr1 rfl
  have p2 := cell_row (i := 2) hr1 rfl
  have p3 := cell_row (i := 3) hr1 rfl
  have p4 := cell_row (i := 4) hr1 rfl
  have hl1 := lt_row hr1
  have AL := alive_any _ hE1
  have hnf : nf = fs.length := hJ.nf
  have hna' : na = args.length := hJ.na
  have HBIG := hide (fun (W : World) (hb : Below (w.alloc (.cells #[.slice fa nf fc, .int .i64 mn, .slice aa na ac, .int .i64 fu, .int .i64 ta] 25)).heap.size (w.alloc (.cells #[.slice fa nf fc, .int .i64 mn, .slice aa na ac, .int .i64 fu, .int .i64 ta] 25)) W) => show Calls Tryd.prog 10 #[.agg #[.slice fa nf fc, .int .i64 mn, .slice aa na ac, .int .i64 fu, .int .i64 ta]] W (fun e w' => ∃ bg, e = .returned (.bool bg) ∧ Below W.heap.size W w') from
    (big_any ⟨fa, nf, fc, mn, aa, na, ac, fu, ta⟩ cs fs args W (hJ1.below hb) (by omega) (by omega) hs).mono fun e w' h => by
      obtain ⟨bg, h1, h2, -⟩ := h
      exact ⟨bg, h1, h2⟩)
  have HD := hide (fun (k : Int) (W : World) (hb : Below (w.alloc (.cells #[.slice fa nf fc, .int .i64 mn, .slice aa na ac, .int .i64 fu, .int .i64 ta] 25)).heap.size (w.alloc (.cells #[.slice fa nf fc, .int .i64 mn, .slice aa na ac, .int .i64 fu, .int .i64 ta] 25)) W) => show Calls Tryd.prog 15 #[.agg #[.slice fa nf fc, .int .i64 mn, .slice aa na ac, .int .i64 fu, .int .i64 ta], .int .i64 k] W (fun e w' => ∃ a cap, e = .returned (.slice a (depsOf fs mn args.length fu ta k).length cap) ∧ Reads w' a (iV (depsOf fs mn args.length fu ta k)) ∧ Below W.heap.size W w') from
    deps_any ⟨fa, nf, fc, mn, aa, na, ac, fu, ta⟩ cs fs args k W (hJ1.below hb) (hE1.below hb) (by omega) (fun g hg => ⟨(hs g hg).1, Nat.lt_succ_of_le (hs g hg).2⟩))
  have HR := hide (fun (k : Int) (W : World) (hb : Below (w.alloc (.cells #[.slice fa nf fc, .int .i64 mn, .slice aa na ac, .int .i64 fu, .int .i64 ta] 25)).heap.size (w.alloc (.cells #[.slice fa nf fc, .int .i64 mn, .slice aa na ac, .int .i64 fu, .int .i64 ta] 25)) W) => show Calls Tryd.prog 16 #[.agg #[.slice fa nf fc, .int .i64 mn, .slice aa na ac, .int .i64 fu, .int .i64 ta], .int .i64 k] W (fun e w' => ∃ a cap, e = .returned (.slice a (depsOf fs mn args.length fu ta k).length cap) ∧ Reads w' a (iV (depsOf fs mn args.length fu ta k)) ∧ Below W.heap.size W w') from
    rdeps_any fa nf fc mn aa na ac fu ta cs fs args k W (hJ1.below hb) hn hs)
  have HS := hide (fun (D : List Int) (hD : D.length ≤ 256) (a1 a2 : Option Addr) (c1 c2 : Nat) (W : World) (r1 : Reads W a1 (iV D)) (r2 : Reads W a2 (iV D)) => show Calls Tryd.prog 14 #[.slice a1 D.length c1, .slice a2 D.length c2] W (fun e w' => e = .returned (.bool true) ∧ Below W.heap.size W w') from
    (same_any a1 a2 c1 c2 D.length D.length D D W rfl rfl r1 r2 (by omega) (by omega)).mono fun e w' h => by
      obtain ⟨h1, h2⟩ := h
      exact ⟨by rw [h1]; simp, h2⟩)
  have HSH := hide (fun k => deps_short fs mn args.length fu ta k)
  generalize hdf : depsOf fs mn args.length fu ta = F at HD HR HSH
  clear hdf hr1 hJ1 hE1 hJ hE hnf hna' hs
  go_enter Tryd.func4, Tryd.ntmps4
  go_upto_region 1 with fail
  generalize w.alloc (.cells #[.slice fa nf fc, .int .i64 mn, .slice aa na ac, .int .i64 fu, .int .i64 ta] 25) = w1 at *
  have HB1 := hide hb1
  clear hb1
  go_wp2_with (first
    | (go_at_call 9; go_must (refine AL.mono ?_; rintro e w2 ⟨rfl, hb2⟩; have q0 := keep_cell p0 hb2; have q1 := keep_cell p1 hb2; have q2 := keep_cell p2 hb2; have q3 := keep_cell p3 hb2; have q4 := keep_cell p4 hb2; have hkl := cell_some_lt q0; have HB2 := hide hb2; clear p0 p1 p2 p3 p4 hl1 AL hb2; refine Hid.out ?_)))
  refine Lib.hid ?_
  go_wp2_with (go_at_call 10; go_must (refine (HBIG.out _ HB2.out).mono ?_; rintro e w3 ⟨bg, rfl, hb3⟩; refine Hid.out ?_))
  refine Lib.hid ?_
  have p0 := keep_cell q0 hb3
  have p1 := keep_cell q1 hb3
  have p2 := keep_cell q2 hb3
  have p3 := keep_cell q3 hb3
  have p4 := keep_cell q4 hb3
  have HB3 := hide (HB2.out.trans (hb3.mono HB2.out.size))
  have hjl := cell_some_lt p0
  clear q0 q1 q2 q3 q4 hkl hb3 HBIG HB2
  cases bg with
  | true =>
    go_wp2
    go_ret
    exact ⟨rfl, HB1.out.trans (HB3.out.mono HB1.out.size)⟩
  | false =>
    go_wp2
    go_loopw [7] (fun i wr => Hid (Below w1.heap.size w1 wr) ∧ (wr.cell? ⟨w.heap.size, 0, none⟩ = some (.slice fa nf fc) ∧ wr.cell? ⟨w.heap.size, 1, none⟩ = some (.int .i64 mn) ∧ wr.cell? ⟨w.heap.size, 2, none⟩ = some (.slice aa na ac) ∧ wr.cell? ⟨w.heap.size, 3, none⟩ = some (.int .i64 fu) ∧ wr.cell? ⟨w.heap.size, 4, none⟩ = some (.int .i64 ta)) ∧ ∃ k : Nat, k ≤ nf ∧ i = .int .i64 (k : Nat)) (fun i _ => nf - (intOf i).toNat)
    case atStart => exact ⟨HB3, ⟨p0, p1, p2, p3, p4⟩, 0, Nat.zero_le _, rfl⟩
    case round =>
      clear p0 p1 p2 p3 p4 hjl HB3
      obtain ⟨HB, ⟨p0, p1, p2, p3, p4⟩, k, hk, rfl⟩ := hrel
      have hjl := cell_some_lt p0
      by_cases hlt : k < nf
      · have hlt' : (k : Int) < (nf : Int) := by omega
        have C15 := hide (HD.out ((k : Nat) : Int) wr.drew HB.out.drew)
        have HRK := hide (HR.out ((k : Nat) : Int))
        have HSD := hide (HS.out (F ((k : Nat) : Int)) (HSH.out ((k : Nat) : Int)))
        generalize F ((k : Nat) : Int) = D at C15 HRK HSD
        generalize D.length = dl at C15 HRK HSD
        go_upto_region 8 with fail
        go_region_held3 (fun W => W.cell? ⟨w.heap.size, 0, none⟩ = some (.slice fa nf fc) ∧ W.cell? ⟨w.heap.size, 1, none⟩ = some (.int .i64 mn) ∧ W.cell? ⟨w.heap.size, 2, none⟩ = some (.slice aa na ac) ∧ W.cell? ⟨w.heap.size, 3, none⟩ = some (.int .i64 fu) ∧ W.cell? ⟨w.heap.size, 4, none⟩ = some (.int .i64 ta)) (first | exact ⟨p0, p1, p2, p3, p4⟩ | exact ⟨q0, q1, q2, q3, q4⟩ | exact ⟨s0, s1, s2, s3, s4⟩ | exact ⟨u0, u1, u2, u3, u4⟩) (first | (go_at_call 15; (with_reducible refine C15.out.mono ?_); rintro e w4 ⟨a1, c1, rfl, hr4, hb4⟩; have hb4' : Below wr.heap.size wr w4 := ⟨hb4.os, hb4.tape, hb4.output, hb4.size, hb4.block⟩; have q0 := keep_cell p0 hb4'; have q1 := keep_cell p1 hb4'; have q2 := keep_cell p2 hb4'; have q3 := keep_cell p3 hb4'; have q4 := keep_cell p4 hb4'; have HB4 := hide (HB.out.trans (hb4'.mono HB.out.size)); have HR4 := hide hr4; clear hb4 hb4' hr4) | (go_at_call 16; (with_reducible refine (HRK.out w4 HB4.out).mono ?_); rintro e w5 ⟨a2, c2, rfl, hr5, hb5⟩; have s0 := keep_cell q0 hb5; have s1 := keep_cell q1 hb5; have s2 := keep_cell q2 hb5; have s3 := keep_cell q3 hb5; have s4 := keep_cell q4 hb5; have HB5 := hide (HB4.out.trans (hb5.mono HB4.out.size)); have HR45 := hide (HR4.out.below hb5); have HR5 := hide hr5; clear hb5 hr5) | (go_at_call 14; (with_reducible refine (HSD.out a1 a2 c1 c2 w5 HR45.out HR5.out).mono ?_); rintro e w6 ⟨rfl, hb6⟩; have u0 := keep_cell s0 hb6; have u1 := keep_cell s1 hb6; have u2 := keep_cell s2 hb6; have u3 := keep_cell s3 hb6; have u4 := keep_cell s4 hb6; have HB6 := hide (HB5.out.trans (hb6.mono HB5.out.size)); clear hb6))
        go_wp2
        go_roundw
        case rel => exact ⟨HB6, ⟨u0, u1, u2, u3, u4⟩, k + 1, by omega, by go_num⟩
        case measure => simp [intOf]; omega
      · have hlt' : ¬ (k : Int) < (nf : Int) := by omega
        clear hk
        have C15 := hide (HD.out f wr.drew HB.out.drew)
        have HRK := hide (HR.out f)
        have HSD := hide (HS.out (F f) (HSH.out f))
        generalize F f = D at C15 HRK HSD
        generalize D.length = dl at C15 HRK HSD
        go_upto_region 10 with fail
        go_region_held3 (fun W => W.cell? ⟨w.heap.size, 0, none⟩ = some (.slice fa nf fc) ∧ W.cell? ⟨w.heap.size, 1, none⟩ = some (.int .i64 mn) ∧ W.cell? ⟨w.heap.size, 2, none⟩ = some (.slice aa na ac) ∧ W.cell? ⟨w.heap.size, 3, none⟩ = some (.int .i64 fu) ∧ W.cell? ⟨w.heap.size, 4, none⟩ = some (.int .i64 ta)) (first | exact ⟨p0, p1, p2, p3, p4⟩ | exact ⟨q0, q1, q2, q3, q4⟩ | exact ⟨s0, s1, s2, s3, s4⟩ | exact ⟨u0, u1, u2, u3, u4⟩) (first | (go_at_call 15; (with_reducible refine C15.out.mono ?_); rintro e w4 ⟨a1, c1, rfl, hr4, hb4⟩; have hb4' : Below wr.heap.size wr w4 := ⟨hb4.os, hb4.tape, hb4.output, hb4.size, hb4.block⟩; have q0 := keep_cell p0 hb4'; have q1 := keep_cell p1 hb4'; have q2 := keep_cell p2 hb4'; have q3 := keep_cell p3 hb4'; have q4 := keep_cell p4 hb4'; have HB4 := hide (HB.out.trans (hb4'.mono HB.out.size)); have HR4 := hide hr4; clear hb4 hb4' hr4) | (go_at_call 16; (with_reducible refine (HRK.out w4 HB4.out).mono ?_); rintro e w5 ⟨a2, c2, rfl, hr5, hb5⟩; have s0 := keep_cell q0 hb5; have s1 := keep_cell q1 hb5; have s2 := keep_cell q2 hb5; have s3 := keep_cell q3 hb5; have s4 := keep_cell q4 hb5; have HB5 := hide (HB4.out.trans (hb5.mono HB4.out.size)); have HR45 := hide (HR4.out.below hb5); have HR5 := hide hr5; clear hb5 hr5) | (go_at_call 14; (with_reducible refine (HSD.out a1 a2 c1 c2 w5 HR45.out HR5.out).mono ?_); rintro e w6 ⟨rfl, hb6⟩; have u0 := keep_cell s0 hb6; have u1 := keep_cell s1 hb6; have u2 := keep_cell s2 hb6; have u3 := keep_cell s3 hb6; have u4 := keep_cell s4 hb6; have HB6 := hide (HB5.out.trans (hb6.mono HB5.out.size)); clear hb6))
        try go_wp2
        try go_ret
        exact ⟨rfl, HB1.out.trans (HB6.out.mono HB1.out.size)⟩
end Go.Proofs.YtfdgkeljnmamiaaDoor
