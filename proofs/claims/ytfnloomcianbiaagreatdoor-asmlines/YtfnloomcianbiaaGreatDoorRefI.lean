/- gleanerref4's ins: an instruction's line. -/
import Derived.Test.YtfnloomcianbiaaGreatDoorRfA
import Derived.Test.YtfnloomcianbiaaGreatDoorTakeI
import Derived.Deep.Cut
import Derived.Deep.CutBlock
namespace Go.Proofs.YtfnloomcianbiaaGreatDoor
open Go.RowKit Go.ChangeShapes Go.WideShapes Go.ChangeAt Go.Deep

/-- An instruction's words. -/
def insW (ws : List ByteArray) : Option ((Int × Int) × ByteArray) := match ws with
  | c :: r => (insL c r).map fun x => (x, r.headD ⟨#[]⟩)
  | [] => none
def RInsPost (B b : Nat) (st : St) (line : Int) (ws : List ByteArray) (w : World) (e : Ending) (w' : World) : Prop :=
  ∃ ok, e = .returned (.bool ok) ∧
      ((ok = true ∧ Below B w w' ∧ ∃ x fs f fv' av' uv' cs', insW ws = some x ∧ st.funcs = fs ++ [f] ∧ f.code.length < 256 ∧ Rf B w' b fv' av' uv' cs' (St.add { st with line := line } fs f x)) ∨
       (ok = false ∧ Below w.heap.size w w' ∧ (insW ws = none ∨ st.funcs = [] ∨ ∃ fs f, st.funcs = fs ++ [f] ∧ 256 ≤ f.code.length)))

set_option maxRecDepth 100000 in
set_option maxHeartbeats 6000000 in
set_option linter.unusedSimpArgs false in
theorem refIns_any (B b : Nat) (fv av uv : Value) (cs : List Value) (st : St) (line : Int) (ws : List ByteArray) (g n cap : Nat) (wcur : Array Value) (hn : ws.length = n) (hn1 : 1 ≤ n) (hbig : n ≤ 1000000) (hfb : st.funcs.length ≤ 1000000) (hub : st.uses.length ≤ 1000000) (hcb : ∀ f ∈ st.funcs, f.code.length ≤ 1000000) (hsz : ∀ s ∈ ws, s.size ≤ 1000000) (w : World) (hB : B ≤ w.heap.size) (hR : Rf B w b fv av uv cs st)
    (hw : w.heap[g]? = some (.cells wcur 9 (0, 0))) (hwc : ∀ j s, ws[j]? = some s → w.cell? ⟨g, j, none⟩ = some (.string s)) :
    Calls Tryz.prog 40 #[.pointer (some ⟨b, 0, none⟩), .int .i64 line, .slice (some ⟨g, 0, none⟩) n cap] w (RInsPost B b st line ws w) := by
  obtain ⟨s0, r, rfl⟩ : ∃ s0 r, ws = s0 :: r := by
    match ws, hn with
    | [], hn => simp at hn; omega
    | a :: r, _ => exact ⟨a, r, rfl⟩
  obtain ⟨fa, fc, rfl, hfr⟩ := hR.freads
  obtain ⟨y0, y1, y2, y3, y4, y5⟩ := hR.cells
  have c0 := hwc 0 s0 rfl
  have OP := refOp_any s0 w
  have hn0 : (0 : Int) < (n : Int) := by omega
  rcases List.eq_nil_or_concat st.funcs with hnil | ⟨fs, f, hfs⟩
  · have hl : st.funcs.length = 0 := by rw [hnil]; rfl
    rw [hl] at y0
    have HN := hide hnil
    clear hnil hl
    go_enter Tryz.func40, Tryz.ntmps40
    go_wp2_with (go_at_call 55; go_must (refine OP.mono ?_; rintro e w1 ⟨k, ok, rfl, hop, hb1⟩; refine Hid.out ?_))
    refine Lib.hid ?_
    cases ok
    all_goals
      go_wp2
      exact bodyPost_ret (v := .bool false) (by simp [results, Tryz.results40, go_sem]) rfl ⟨_, rfl, .inr ⟨rfl, hb1, .inr (.inl HN.out)⟩⟩
  · rw [List.concat_eq_append] at hfs
    obtain ⟨m, hm⟩ : ∃ m, m = fs.length := ⟨_, rfl⟩
    have hl : st.funcs.length = m + 1 := by rw [hfs, hm]; simp
    rw [hl] at y0 hfb
    have HM := hide hm
    have HL := hide hl
    have HF := hide hfs
    clear hm hl hfs
    obtain ⟨fg, ho0, rfl, hfg, hfc⟩ : ∃ fg ho0, fa = some ⟨fg, ho0, none⟩ ∧ fg < w.heap.size ∧ ∀ j, j < (frs st.funcs cs).length → ∀ i v, (FR.enc (frs st.funcs cs)[j]!)[i]? = some v → w.cell? ⟨fg, ho0 + j * 4 + i, none⟩ = some v := by
      rcases hfr with ⟨_, h⟩ | h
      · have h1 : (frs st.funcs cs).length = m + 1 := by simp [frs, hR.len, HL.out]
        rw [h] at h1; cases h1
      · exact h
    have hho : ho0 = 0 := by
      rcases hR.fns.2 with ⟨h, _⟩ | ⟨g', cap, cur, h, _⟩
      · cases h
      · cases h; rfl
    subst hho
    obtain ⟨cd, cl, hcs⟩ : ∃ cd cl, cs = cd ++ [cl] := by
      rcases List.eq_nil_or_concat cs with h | ⟨cd, cl, h⟩
      · have h1 := hR.len
        rw [h, HL.out] at h1; cases h1
      · exact ⟨cd, cl, by rw [h, List.concat_eq_append]⟩
    have hcdl : cd.length = fs.length := by
      have h1 := hR.len
      rw [hcs, HF.out] at h1
      simpa using h1
    have hcell : w.cell? ⟨fg, m * 4 + 3, none⟩ = some cl := by
      have h1 := hfc m (by simp [frs, hR.len, HL.out]) 3 cl (by
        rw [HF.out, hcs, HM.out]
        unfold frs
        rw [List.zipWith_append hcdl.symm]
        simp [Fun.row, FR.enc, hcdl])
      simpa using h1
    have hcode : w.ownsRow B 42 2 cl f.code.length (insV f.code) := by
      have h1 := hR.codes fs.length (by rw [hcs, ← hcdl]; simp) (by rw [HF.out]; simp)
      simp only [HF.out, hcs] at h1
      simpa [hcdl] using h1
    have hfm : f ∈ st.funcs := by rw [HF.out]; simp
    have hcn0 := hcb f hfm
    obtain ⟨cn, hcn⟩ : ∃ cn, cn = f.code.length := ⟨_, rfl⟩
    rw [← hcn] at hcode hcn0
    have HCN := hide hcn
    have HCS := hide hcs
    have HR := hide hR
    have HWC := hide hwc
    clear hcn hcs hfc hfr hR hcb hfm hcdl hwc
    obtain ⟨ca, cc, rfl⟩ := own_any hcode
    rw [HL.out] at HR
    have hm1 : (m : Int) < (m : Int) + 1 := by omega
    have hm0 : ¬ ((m : Int) < 0) := by omega
    have hwl := lt_row hw
    have hrl := lt_row HR.out.self
    go_enter Tryz.func40, Tryz.ntmps40
    go_wp2_with (go_at_call 55; go_must (refine OP.mono ?_; rintro e w1 ⟨k, ok, rfl, hop, hb1⟩; refine Hid.out ?_))
    refine Lib.hid ?_
    clear OP
    have HW1 := hide ((hb1.block _ hwl).trans hw)
    have HRf := hide (HR.out.keep hb1)
    have z0 := keep_cell y0 hb1
    have z5 := keep_cell y5 hb1
    have zc := keep_cell hcell hb1
    have hcode1 := own_keep hcode hb1
    have hrl1 := cell_some_lt z0
    have hfl1 := cell_some_lt zc
    have HWD := hide (show ∀ j s, (s0 :: r)[j]? = some s → w1.cell? ⟨g, j, none⟩ = some (.string s) from fun j s h => keep_cell (HWC.out j s h) hb1)
    have HY0 := hide y0
    have HCL := hide hcell
    clear y0 y1 y2 y3 y4 y5 hcell c0 hw HWC hwl hrl
    rcases opOf_is hop with ⟨rfl, op, rfl, ho1, ho19, hoo⟩ | ⟨rfl, hno⟩
    · by_cases h256 : cn < 256
      · have q256 : ¬ (256 : Int) ≤ (cn : Int) := by omega
        have HI := hide (show insW (s0 :: r) = (if op = 16 then (if oneName r = true then some ((op : Int), 0) else none) else if (kindOf (op : Int)).hasN = false then (if r = [] then some ((op : Int), 0) else none) else (oneNum (numsL r)).map fun n => ((op : Int), n)).map fun x => (x, r.headD ⟨#[]⟩) by
          show Option.map _ (insL s0 r) = _
          unfold insL
          rw [hoo])
        have H16 := hide (show op = 16 → (kindOf (op : Int)).hasN = true from fun h => by rw [h]; kernel_rfl)
        have HN := fun w => refHasN_any (op : Int) w
        generalize (kindOf (op : Int)).hasN = hn' at HI HN H16
        go_upto_block 0 with (go_at_call 19; go_must (refine (HN _).mono ?_; rintro e wz ⟨rfl, hwz⟩; replace hwz := hwz.symm; subst hwz))
        have hbX := alloc_below w1 (.cells #[.int .i64 (op : Int), .int .i64 0] 42)
        have hX0 : Box2 (w1.alloc (.cells #[.int .i64 (op : Int), .int .i64 0] 42)) w1.heap.size (.int .i64 (op : Int)) (.int .i64 0) := heap_alloc_new w1 _
        have HX := hide hX0
        have HBX := hide (hb1.trans (hbX.mono hb1.size))
        have HRx := hide (HRf.out.keep hbX)
        have HWx := hide ((hbX.block _ (lt_row HW1.out)).trans HW1.out)
        have x0 := keep_cell z0 hbX
        have x5 := keep_cell z5 hbX
        have xc := keep_cell zc hbX
        have hcodex := own_keep hcode1 hbX
        have HWE := hide (show ∀ j s, (s0 :: r)[j]? = some s → (w1.alloc (.cells #[.int .i64 (op : Int), .int .i64 0] 42)).cell? ⟨g, j, none⟩ = some (.string s) from fun j s h => keep_cell (HWD.out j s h) hbX)
        have hxl := cell_some_lt x0
        have hxf := cell_some_lt xc
        have HCD := hide hcode
        clear hX0 z0 z5 zc hcode1 HWD HW1 HRf hrl1 hfl1 hcode
        obtain ⟨ib, hib⟩ : ∃ ib, ib = w1.heap.size := ⟨_, rfl⟩
        have hibw : w.heap.size ≤ ib := by rw [hib]; exact hb1.size
        rw [← hib] at HX ⊢
        generalize w1.alloc (.cells #[.int .i64 (op : Int), .int .i64 0] 42) = wx at HX HBX HRx HWx x0 x5 xc hcodex HWE hxl hxf hbX ⊢
        clear hbX hib
        go_cut [] from 12 (fun wy => ∃ (uv' : Value) (x : Int) (nm : ByteArray), Hid (insW (s0 :: r) = some (((op : Int), x), nm)) ∧ Hid (Rf B wy b (.slice (some ⟨fg, 0, none⟩) (m + 1) fc) av uv' cs { st with line := line, uses := if (op : Int) = 16 then st.uses ++ [⟨nm, line, (m : Int), (cn : Int)⟩] else st.uses }) ∧ Hid (Box2 wy ib (.int .i64 (op : Int)) (.int .i64 x)) ∧ Hid (Below B w wy) ∧ wy.cell? ⟨fg, m * 4 + 3, none⟩ = some (.slice ca cn cc) ∧ wy.cell? ⟨b, 0, none⟩ = some (.slice (some ⟨fg, 0, none⟩) (m + 1) fc))
        case first =>
          have hBx : Below B w wx := HBX.out.mono hB
          have HR0 := hide (show ¬ (op : Int) = 16 → Rf B wx b (.slice (some ⟨fg, 0, none⟩) (m + 1) fc) av uv cs { st with line := line, uses := if (op : Int) = 16 then st.uses ++ [⟨r.headD ⟨#[]⟩, line, (m : Int), (cn : Int)⟩] else st.uses } from fun h => by
            rw [if_neg h]
            exact ⟨HRx.out.nine, HRx.out.le, HRx.out.self, HRx.out.len, HRx.out.fns, HRx.out.codes, HRx.out.apart, HRx.out.args, HRx.out.uses⟩)
          cases hn' with
          | false =>
            have h16 : op ≠ 16 := fun h => by have := H16.out h; cases this
            have h16i : ¬ (op : Int) = 16 := by omega
            rw [if_neg h16, if_pos rfl] at HI
            by_cases hr : r = []
            · have hn1' : n = 1 := by rw [← hn, hr]; rfl
              have q1 : (n : Int) = 1 := by omega
              have HI2 := hide (show insW (s0 :: r) = some (((op : Int), 0), r.headD ⟨#[]⟩) by rw [HI.out, if_pos hr]; rfl)
              clear hr HI
              subst hn1'
              go_wp2
              go_meet
              exact ⟨uv, 0, _, HI2, HR0.out h16i, HX, hBx, xc, x0⟩
            · have q1 : ¬ (n : Int) = 1 := fun h => hr (List.eq_nil_of_length_eq_zero (by simp at hn; omega))
              have HI2 := hide (show insW (s0 :: r) = none by rw [HI.out, if_neg hr]; rfl)
              clear hr HI
              go_wp2
              exact bodyPost_ret (v := .bool false) (by simp [results, Tryz.results40, go_sem]) rfl ⟨_, rfl, .inr ⟨rfl, HBX.out, .inl HI2.out⟩⟩
          | true =>
            by_cases h2 : n = 2
            · obtain ⟨s1, hr1⟩ : ∃ s1, r = [s1] := by
                match r, hn with
                | [a], _ => exact ⟨a, rfl⟩
                | [], hn => simp at hn; omega
                | _ :: _ :: _, hn => simp at hn; omega
              subst h2
              have c1 := HWE.out 1 s1 (by rw [hr1]; rfl)
              have hs1 := hsz s1 (by rw [hr1]; simp)
              have hgl := cell_some_lt c1
              by_cases h16 : op = 16
              · have h16i : (op : Int) = 16 := by omega
                rw [if_pos h16] at HI
                have CN := fun w => refname_any s1 (by omega) w
                cases hq : isNameL s1.data.toList with
                | false =>
                  rw [hq] at CN
                  have HI2 := hide (show insW (s0 :: r) = none by
                    rw [HI.out, hr1]
                    simp only [oneName, hq, Bool.false_eq_true, if_false]
                    rfl)
                  subst h16
                  clear HI
                  go_wp2_with (go_at_call 15; go_must (refine (CN _).mono ?_; rintro e wz ⟨rfl, hwz⟩; replace hwz := hwz.symm; subst hwz))
                  exact bodyPost_ret (v := .bool false) (by simp [results, Tryz.results40, go_sem]) rfl ⟨_, rfl, .inr ⟨rfl, HBX.out, .inl HI2.out⟩⟩
                | true =>
                  rw [hq] at CN
                  have HI2 := hide (show insW (s0 :: r) = some (((op : Int), 0), s1) by
                    rw [HI.out, hr1]
                    simp only [oneName, hq, if_true]
                    rfl)
                  subst h16
                  clear HI
                  go_upto_region 20 with (go_at_call 15; go_must (refine (CN _).mono ?_; rintro e wz ⟨rfl, hwz⟩; replace hwz := hwz.symm; subst hwz))
                  have hou := HRx.out.uses
                  have hbself := HRx.out.self
                  obtain ⟨fcur, hfcur⟩ := own_tag HRx.out.fns (g := fg) rfl
                  have hBw2 : B ≤ wx.heap.size := Nat.le_trans hB HBX.out.size
                  have hfb' : ¬ fg = b := fun e => by
                    rw [e] at hfcur
                    exact tag_ne hfcur (by decide) hbself
                  have hgb' : ¬ g = b := fun e => by
                    have h1 := HWx.out
                    rw [e] at h1
                    exact tag_ne h1 (by decide) hbself
                  have hus : (if (16 : Int) = 16 then 1 else 0) = 1 := rfl
                  obtain ⟨i0, hi, hz0, hz1, hz2⟩ := info_parts Tryz.info61
                  refine wp_region_noPanic ?_
                  refine wp_region_held_drew (S := fun W => W.cell? ⟨b, 0, none⟩ = some (.slice (some ⟨fg, 0, none⟩) (m + 1) fc) ∧ W.cell? ⟨fg, m * 4 + 3, none⟩ = some (.slice ca cn cc) ∧ W.cell? ⟨g, 1, none⟩ = some (.string s1)) (by kernel_rfl) ⟨by simpa using x0, by simpa using xc, by simpa using c1⟩ (fun hHeld => ?_)
                  refine takeD (i := 0) (d := some 82) (v := ?_) rfl rfl (by kernel_rfl) (by kernel_rfl) (by kernel_rfl) (fun _ _ _ h => h) (Or.inl ⟨by rfl, ?_⟩) (by assumption) ?_
                  rotate_left
                  · intro w hSw
                    go_simp
                    try (with_reducible rfl)
                  try simp only [Act.put, List.setIfInBounds_toArray, List.set_cons_zero, List.set_cons_succ]
                  refine takeD (i := 1) (d := some 83) (v := ?_) rfl rfl (by kernel_rfl) (by kernel_rfl) (by kernel_rfl) (fun _ _ _ h => h) (Or.inl ⟨by rfl, ?_⟩) (by assumption) ?_
                  rotate_left
                  · intro w hSw
                    go_simp
                    try (with_reducible rfl)
                  try simp only [Act.put, List.setIfInBounds_toArray, List.set_cons_zero, List.set_cons_succ]
                  refine takeD (i := 2) (d := some 84) (v := ?_) rfl rfl (by kernel_rfl) (by kernel_rfl) (by kernel_rfl) (fun _ _ _ h => h) (Or.inl ⟨by rfl, ?_⟩) (by assumption) ?_
                  rotate_left
                  · intro w hSw
                    go_simp
                    try (with_reducible rfl)
                  try simp only [Act.put, List.setIfInBounds_toArray, List.set_cons_zero, List.set_cons_succ]
                  refine takeD (i := 3) (d := some 85) (v := ?_) rfl rfl (by kernel_rfl) (by kernel_rfl) (by kernel_rfl) (fun _ _ _ h => h) (Or.inl ⟨by rfl, ?_⟩) (by assumption) ?_
                  rotate_left
                  · intro w hSw
                    go_simp
                    try (with_reducible rfl)
                  try simp only [Act.put, List.setIfInBounds_toArray, List.set_cons_zero, List.set_cons_succ]
                  refine takeD (i := 5) (d := some 87) (v := ?_) rfl rfl (by kernel_rfl) (by kernel_rfl) (by kernel_rfl) (fun _ _ _ h => h) (Or.inl ⟨by rfl, ?_⟩) (by assumption) ?_
                  rotate_left
                  · intro w hSw
                    go_simp
                    try (with_reducible rfl)
                  try simp only [Act.put, List.setIfInBounds_toArray, List.set_cons_zero, List.set_cons_succ]
                  refine takeD (i := 6) (d := some 88) (v := ?_) rfl rfl (by kernel_rfl) (by kernel_rfl) (by kernel_rfl) (fun _ _ _ h => h) (Or.inl ⟨by rfl, ?_⟩) (by assumption) ?_
                  rotate_left
                  · intro w hSw
                    go_simp
                    try (with_reducible rfl)
                  try simp only [Act.put, List.setIfInBounds_toArray, List.set_cons_zero, List.set_cons_succ]
                  refine takeD (i := 7) (d := some 89) (v := ?_) rfl rfl (by kernel_rfl) (by kernel_rfl) (by kernel_rfl) (fun _ _ _ h => h) (Or.inl ⟨by rfl, ?_⟩) (by assumption) ?_
                  rotate_left
                  · intro w hSw
                    go_simp
                    try (with_reducible rfl)
                  try simp only [Act.put, List.setIfInBounds_toArray, List.set_cons_zero, List.set_cons_succ]
                  refine takeD (i := 8) (d := some 90) (v := ?_) rfl rfl (by kernel_rfl) (by kernel_rfl) (by kernel_rfl) (fun _ _ _ h => h) (Or.inl ⟨by rfl, ?_⟩) (by assumption) ?_
                  rotate_left
                  · intro w hSw
                    go_simp
                    try (with_reducible rfl)
                  try simp only [Act.put, List.setIfInBounds_toArray, List.set_cons_zero, List.set_cons_succ]
                  refine takeD (i := 9) (d := some 91) (v := ?_) rfl rfl (by kernel_rfl) (by kernel_rfl) (by kernel_rfl) (fun _ _ _ h => h) (Or.inl ⟨by rfl, ?_⟩) (by assumption) ?_
                  rotate_left
                  · intro w hSw
                    go_simp
                    try (with_reducible rfl)
                  try simp only [Act.put, List.setIfInBounds_toArray, List.set_cons_zero, List.set_cons_succ]
                  refine takeD (i := 10) (d := some 92) (v := ?_) rfl rfl (by kernel_rfl) (by kernel_rfl) (by kernel_rfl) (fun _ _ _ h => h) (Or.inl ⟨by rfl, ?_⟩) (by assumption) ?_
                  rotate_left
                  · intro w hSw
                    go_simp
                    try (with_reducible rfl)
                  try simp only [Act.put, List.setIfInBounds_toArray, List.set_cons_zero, List.set_cons_succ]
                  refine takeD (i := 11) (d := some 93) (v := ?_) rfl rfl (by kernel_rfl) (by kernel_rfl) (by kernel_rfl) (fun _ _ _ h => h) (Or.inl ⟨by rfl, ?_⟩) (by assumption) ?_
                  rotate_left
                  · intro w hSw
                    go_simp
                    try (with_reducible rfl)
                  try simp only [Act.put, List.setIfInBounds_toArray, List.set_cons_zero, List.set_cons_succ]
                  refine takeD (i := 12) (d := some 94) (v := ?_) rfl rfl (by kernel_rfl) (by kernel_rfl) (by kernel_rfl) (fun _ _ _ h => h) (Or.inl ⟨by rfl, ?_⟩) (by assumption) ?_
                  rotate_left
                  · intro w hSw
                    go_simp
                    try (with_reducible rfl)
                  try simp only [Act.put, List.setIfInBounds_toArray, List.set_cons_zero, List.set_cons_succ]
                  refine takeD (i := 13) (d := some 95) (v := ?_) rfl rfl (by kernel_rfl) (by kernel_rfl) (by kernel_rfl) (fun _ _ _ h => h) (Or.inl ⟨by rfl, ?_⟩) (by assumption) ?_
                  rotate_left
                  · intro w hSw
                    go_simp
                    try (with_reducible rfl)
                  try simp only [Act.put, List.setIfInBounds_toArray, List.set_cons_zero, List.set_cons_succ]
                  refine takeD (i := 14) (d := some 96) (v := ?_) rfl rfl (by kernel_rfl) (by kernel_rfl) (by kernel_rfl) (fun _ _ _ h => h) (Or.inl ⟨by rfl, ?_⟩) (by assumption) ?_
                  rotate_left
                  · intro w hSw
                    go_simp
                    try (with_reducible rfl)
                  try simp only [Act.put, List.setIfInBounds_toArray, List.set_cons_zero, List.set_cons_succ]
                  refine takeD (i := 15) (d := some 97) (v := ?_) rfl rfl (by kernel_rfl) (by kernel_rfl) (by kernel_rfl) (fun _ _ _ h => h) (Or.inl ⟨by rfl, ?_⟩) (by assumption) ?_
                  rotate_left
                  · intro w hSw
                    go_simp
                    try (with_reducible rfl)
                  try simp only [Act.put, List.setIfInBounds_toArray, List.set_cons_zero, List.set_cons_succ]
                  refine takeD (i := 16) (d := some 98) (v := ?_) rfl rfl (by kernel_rfl) (by kernel_rfl) (by kernel_rfl) (fun _ _ _ h => h) (Or.inl ⟨by rfl, ?_⟩) (by assumption) ?_
                  rotate_left
                  · intro w hSw
                    go_simp
                    try (with_reducible rfl)
                  try simp only [Act.put, List.setIfInBounds_toArray, List.set_cons_zero, List.set_cons_succ]
                  refine takeD (i := 17) (d := some 99) (v := ?_) rfl rfl (by kernel_rfl) (by kernel_rfl) (by kernel_rfl) (fun _ _ _ h => h) (Or.inl ⟨by rfl, ?_⟩) (by assumption) ?_
                  rotate_left
                  · intro w hSw
                    go_simp
                    try (with_reducible rfl)
                  try simp only [Act.put, List.setIfInBounds_toArray, List.set_cons_zero, List.set_cons_succ]
                  refine takeD (i := 18) (d := some 100) (v := ?_) rfl rfl (by kernel_rfl) (by kernel_rfl) (by kernel_rfl) (fun _ _ _ h => h) (Or.inl ⟨by rfl, ?_⟩) (by assumption) ?_
                  rotate_left
                  · intro w hSw
                    go_simp
                    try (with_reducible rfl)
                  try simp only [Act.put, List.setIfInBounds_toArray, List.set_cons_zero, List.set_cons_succ]
                  refine takeD (i := 19) (d := some 101) (v := ?_) rfl rfl (by kernel_rfl) (by kernel_rfl) (by kernel_rfl) (fun _ _ _ h => h) (Or.inl ⟨by rfl, ?_⟩) (by assumption) ?_
                  rotate_left
                  · intro w hSw
                    go_simp
                    try (with_reducible rfl)
                  try simp only [Act.put, List.setIfInBounds_toArray, List.set_cons_zero, List.set_cons_succ]
                  refine takeD (i := 20) (d := some 102) (v := ?_) rfl rfl (by kernel_rfl) (by kernel_rfl) (by kernel_rfl) (fun _ _ _ h => h) (Or.inl ⟨by rfl, ?_⟩) (by assumption) ?_
                  rotate_left
                  · intro w hSw
                    go_simp
                    try (with_reducible rfl)
                  try simp only [Act.put, List.setIfInBounds_toArray, List.set_cons_zero, List.set_cons_succ]
                  refine wpAnyH_ready (rs := [4, 21]) (by kernel_rfl) (by simp) ?_
                  refine AllReadyH.cons rfl (fun K hK => ?_) (AllReadyH.cons rfl (fun K hK => ?_) AllReadyH.nil)
                  · go_simp
                    refine hK.out _ _ hHeld (fun hHeld => ?_)
                    clear hK K
                    try simp only [Act.put, List.setIfInBounds_toArray, List.set_cons_zero, List.set_cons_succ]
                    refine wpAnyH_ready (rs := [21]) (by kernel_rfl) (by simp) ?_
                    refine AllReadyH.cons rfl (fun K hK => ?_) AllReadyH.nil
                    go_simp
                    clear hHeld
                    refine hK.out _ _ ⟨by simp [World.cell?_alloc_some, x0], by simp [World.cell?_alloc_some, xc], by simp [World.cell?_alloc_some, c1]⟩ (fun hHeld => ?_)
                    clear hK K
                    try simp only [Act.put, List.setIfInBounds_toArray, List.set_cons_zero, List.set_cons_succ]
                    refine wpAnyH_ready (rs := [22]) (by kernel_rfl) (by simp) ?_
                    refine AllReadyH.cons rfl (fun K hK => ?_) AllReadyH.nil
                    rw [if_pos (by rfl)]
                    refine wp_append_own _ (.tmp 86) (.tmp 103) 56 rfl B 61 i0 (.agg #[.int .i64 0, .int .i64 0, .int .i64 0, .string ⟨#[]⟩]) 4 40 Tryz.underlying56 hi hz0 hz1 hz2 rfl (by decide) uv st.uses.length (lateV st.uses) rfl (by exact hou.alloc _) ⟨wx.heap.size, 0, none⟩ 1 1 [.int .i64 line, .int .i64 (m : Int), .int .i64 (cn : Int), .string s1] (by rfl) rfl (by exact cells_new wx _ 61) (by simp [Value.oneCell']) (by unfold maxLen; omega) (by omega) (by simp; omega) ?_
                    intro v3 w3 ho3 hg3 _
                    have hb73 := grown_heap hg3 (own_keep hou ((alloc_below wx (.cells #[.int .i64 line, .int .i64 (m : Int), .int .i64 (cn : Int), .string s1] 61)).drew)) (by rw [((alloc_below wx (.cells #[.int .i64 line, .int .i64 (m : Int), .int .i64 (cn : Int), .string s1] 61)).drew).block b (lt_row hbself)]; exact hbself) (by decide)
                    have k73 := cell_row (i := 5) hb73 rfl
                    have f73 := frozen_row (i := 5) hb73
                    obtain ⟨a3, c3, rfl⟩ := own_any ho3
                    clear hHeld
                    refine hK.out _ _ ⟨cell_grown' ((alloc_below wx (.cells #[.int .i64 line, .int .i64 (m : Int), .int .i64 (cn : Int), .string s1] 61)).drew) hg3 hou x0 hbself (by decide), cell_grown' ((alloc_below wx (.cells #[.int .i64 line, .int .i64 (m : Int), .int .i64 (cn : Int), .string s1] 61)).drew) hg3 hou xc hfcur (by decide), cell_grown' ((alloc_below wx (.cells #[.int .i64 line, .int .i64 (m : Int), .int .i64 (cn : Int), .string s1] 61)).drew) hg3 hou c1 HWx.out (by decide)⟩ (fun hHeld => ?_)
                    clear hK K
                    try simp only [Act.put, List.setIfInBounds_toArray, List.set_cons_zero, List.set_cons_succ]
                    refine takeD (i := 23) (d := some 105) (v := ?_) rfl rfl (by kernel_rfl) (by kernel_rfl) (by kernel_rfl) (fun _ _ _ h => h) (Or.inl ⟨by rfl, ?_⟩) (by assumption) ?_
                    rotate_left
                    · intro w hSw
                      go_simp
                      try (with_reducible rfl)
                    try simp only [Act.put, List.setIfInBounds_toArray, List.set_cons_zero, List.set_cons_succ]
                    refine takeD (i := 24) (d := some 106) (v := ?_) rfl rfl (by kernel_rfl) (by kernel_rfl) (by kernel_rfl) (fun _ _ _ h => h) (Or.inl ⟨by rfl, ?_⟩) (by assumption) ?_
                    rotate_left
                    · intro w hSw
                      go_simp
                      try (with_reducible rfl)
                    try simp only [Act.put, List.setIfInBounds_toArray, List.set_cons_zero, List.set_cons_succ]
                    refine wpAnyH_ready (rs := [25]) (by kernel_rfl) (by simp) ?_
                    refine AllReadyH.cons rfl (fun K hK => ?_) AllReadyH.nil
                    go_simp
                    refine hK.out _ _ ⟨cell_row (set_row (i := 5) hb73 _) rfl, by rw [World.cell?_setCell_far _ _ _ _ (by simpa using fun e => hfb' e.symm)]; exact hHeld.2.1, by rw [World.cell?_setCell_far _ _ _ _ (by simpa using fun e => hgb' e.symm)]; exact hHeld.2.2⟩ (fun hHeld => ?_)
                    clear hK K
                    try simp only [Act.put, List.setIfInBounds_toArray, List.set_cons_zero, List.set_cons_succ]
                    refine wpAnyH_done (by kernel_rfl) ?_ _
                    refine NoPanic.normal ?_
                    have R := HRx.out.use ⟨s1, line, (m : Int), (cn : Int)⟩ ((alloc_below wx (.cells #[.int .i64 line, .int .i64 (m : Int), .int .i64 (cn : Int), .string s1] 61)).drew) hBw2 ho3 hg3
                    have hbx3 := grown_heap hg3 (own_keep hou ((alloc_below wx (.cells #[.int .i64 line, .int .i64 (m : Int), .int .i64 (cn : Int), .string s1] 61)).drew)) (by rw [((alloc_below wx (.cells #[.int .i64 line, .int .i64 (m : Int), .int .i64 (cn : Int), .string s1] 61)).drew).block ib (lt_row HX.out)]; exact HX.out) (by decide)
                    have hbib : ib ≠ b := fun e => by
                      have h1 := HX.out
                      unfold Box2 at h1
                      rw [e] at h1
                      exact tag_ne h1 (by decide) hbself
                    have HX9 := hide (show Box2 (w3.setCell ⟨b, 5, none⟩ (.slice a3 (st.uses.length + 1) c3)) ib (.int .i64 ((16 : Nat) : Int)) (.int .i64 0) by
                      unfold Box2
                      rw [Below.heap_setCell _ _ _ _ (by simpa using hbib)]
                      exact hbx3)
                    have HR9 := hide (show Rf B (w3.setCell ⟨b, 5, none⟩ (.slice a3 (st.uses.length + 1) c3)) b (.slice (some ⟨fg, 0, none⟩) (m + 1) fc) av (.slice a3 (st.uses.length + 1) c3) cs { st with line := line, uses := if ((16 : Nat) : Int) = 16 then st.uses ++ [⟨s1, line, (m : Int), (cn : Int)⟩] else st.uses } by
                      rw [if_pos (by decide : ((16 : Nat) : Int) = 16)]
                      exact ⟨R.1.nine, R.1.le, R.1.self, R.1.len, R.1.fns, R.1.codes, R.1.apart, R.1.args, R.1.uses⟩)
                    have HB9 := hide ((HBX.out.mono hB).trans R.2)
                    have HC9 := hide hHeld.2.1
                    have HY9 := hide hHeld.1
                    go_wp2
                    go_meet
                    exact ⟨_, 0, s1, HI2, HR9, HX9, HB9, HC9.out, HY9.out⟩
                  · go_simp
                    clear hHeld
                    refine hK.out _ _ ⟨by simp [World.cell?_alloc_some, x0], by simp [World.cell?_alloc_some, xc], by simp [World.cell?_alloc_some, c1]⟩ (fun hHeld => ?_)
                    clear hK K
                    try simp only [Act.put, List.setIfInBounds_toArray, List.set_cons_zero, List.set_cons_succ]
                    have k7a := keep_cell x5 (alloc_below wx (.cells #[.int .i64 line, .int .i64 (m : Int), .int .i64 (cn : Int), .string s1] 61))
                    refine wpAnyH_ready (rs := [4]) (by kernel_rfl) (by simp) ?_
                    refine AllReadyH.cons rfl (fun K hK => ?_) AllReadyH.nil
                    go_simp
                    refine hK.out _ _ hHeld (fun hHeld => ?_)
                    clear hK K
                    try simp only [Act.put, List.setIfInBounds_toArray, List.set_cons_zero, List.set_cons_succ]
                    refine wpAnyH_ready (rs := [22]) (by kernel_rfl) (by simp) ?_
                    refine AllReadyH.cons rfl (fun K hK => ?_) AllReadyH.nil
                    rw [if_pos (by rfl)]
                    refine wp_append_own _ (.tmp 86) (.tmp 103) 56 rfl B 61 i0 (.agg #[.int .i64 0, .int .i64 0, .int .i64 0, .string ⟨#[]⟩]) 4 40 Tryz.underlying56 hi hz0 hz1 hz2 rfl (by decide) uv st.uses.length (lateV st.uses) rfl (by exact hou.alloc _) ⟨wx.heap.size, 0, none⟩ 1 1 [.int .i64 line, .int .i64 (m : Int), .int .i64 (cn : Int), .string s1] (by rfl) rfl (by exact cells_new wx _ 61) (by simp [Value.oneCell']) (by unfold maxLen; omega) (by omega) (by simp; omega) ?_
                    intro v3 w3 ho3 hg3 _
                    have hb73 := grown_heap hg3 (own_keep hou ((alloc_below wx (.cells #[.int .i64 line, .int .i64 (m : Int), .int .i64 (cn : Int), .string s1] 61)).drew)) (by rw [((alloc_below wx (.cells #[.int .i64 line, .int .i64 (m : Int), .int .i64 (cn : Int), .string s1] 61)).drew).block b (lt_row hbself)]; exact hbself) (by decide)
                    have k73 := cell_row (i := 5) hb73 rfl
                    have f73 := frozen_row (i := 5) hb73
                    obtain ⟨a3, c3, rfl⟩ := own_any ho3
                    clear hHeld
                    refine hK.out _ _ ⟨cell_grown' ((alloc_below wx (.cells #[.int .i64 line, .int .i64 (m : Int), .int .i64 (cn : Int), .string s1] 61)).drew) hg3 hou x0 hbself (by decide), cell_grown' ((alloc_below wx (.cells #[.int .i64 line, .int .i64 (m : Int), .int .i64 (cn : Int), .string s1] 61)).drew) hg3 hou xc hfcur (by decide), cell_grown' ((alloc_below wx (.cells #[.int .i64 line, .int .i64 (m : Int), .int .i64 (cn : Int), .string s1] 61)).drew) hg3 hou c1 HWx.out (by decide)⟩ (fun hHeld => ?_)
                    clear hK K
                    try simp only [Act.put, List.setIfInBounds_toArray, List.set_cons_zero, List.set_cons_succ]
                    refine takeD (i := 23) (d := some 105) (v := ?_) rfl rfl (by kernel_rfl) (by kernel_rfl) (by kernel_rfl) (fun _ _ _ h => h) (Or.inl ⟨by rfl, ?_⟩) (by assumption) ?_
                    rotate_left
                    · intro w hSw
                      go_simp
                      try (with_reducible rfl)
                    try simp only [Act.put, List.setIfInBounds_toArray, List.set_cons_zero, List.set_cons_succ]
                    refine takeD (i := 24) (d := some 106) (v := ?_) rfl rfl (by kernel_rfl) (by kernel_rfl) (by kernel_rfl) (fun _ _ _ h => h) (Or.inl ⟨by rfl, ?_⟩) (by assumption) ?_
                    rotate_left
                    · intro w hSw
                      go_simp
                      try (with_reducible rfl)
                    try simp only [Act.put, List.setIfInBounds_toArray, List.set_cons_zero, List.set_cons_succ]
                    refine wpAnyH_ready (rs := [25]) (by kernel_rfl) (by simp) ?_
                    refine AllReadyH.cons rfl (fun K hK => ?_) AllReadyH.nil
                    go_simp
                    refine hK.out _ _ ⟨cell_row (set_row (i := 5) hb73 _) rfl, by rw [World.cell?_setCell_far _ _ _ _ (by simpa using fun e => hfb' e.symm)]; exact hHeld.2.1, by rw [World.cell?_setCell_far _ _ _ _ (by simpa using fun e => hgb' e.symm)]; exact hHeld.2.2⟩ (fun hHeld => ?_)
                    clear hK K
                    try simp only [Act.put, List.setIfInBounds_toArray, List.set_cons_zero, List.set_cons_succ]
                    refine wpAnyH_done (by kernel_rfl) ?_ _
                    refine NoPanic.normal ?_
                    have R := HRx.out.use ⟨s1, line, (m : Int), (cn : Int)⟩ ((alloc_below wx (.cells #[.int .i64 line, .int .i64 (m : Int), .int .i64 (cn : Int), .string s1] 61)).drew) hBw2 ho3 hg3
                    have hbx3 := grown_heap hg3 (own_keep hou ((alloc_below wx (.cells #[.int .i64 line, .int .i64 (m : Int), .int .i64 (cn : Int), .string s1] 61)).drew)) (by rw [((alloc_below wx (.cells #[.int .i64 line, .int .i64 (m : Int), .int .i64 (cn : Int), .string s1] 61)).drew).block ib (lt_row HX.out)]; exact HX.out) (by decide)
                    have hbib : ib ≠ b := fun e => by
                      have h1 := HX.out
                      unfold Box2 at h1
                      rw [e] at h1
                      exact tag_ne h1 (by decide) hbself
                    have HX9 := hide (show Box2 (w3.setCell ⟨b, 5, none⟩ (.slice a3 (st.uses.length + 1) c3)) ib (.int .i64 ((16 : Nat) : Int)) (.int .i64 0) by
                      unfold Box2
                      rw [Below.heap_setCell _ _ _ _ (by simpa using hbib)]
                      exact hbx3)
                    have HR9 := hide (show Rf B (w3.setCell ⟨b, 5, none⟩ (.slice a3 (st.uses.length + 1) c3)) b (.slice (some ⟨fg, 0, none⟩) (m + 1) fc) av (.slice a3 (st.uses.length + 1) c3) cs { st with line := line, uses := if ((16 : Nat) : Int) = 16 then st.uses ++ [⟨s1, line, (m : Int), (cn : Int)⟩] else st.uses } by
                      rw [if_pos (by decide : ((16 : Nat) : Int) = 16)]
                      exact ⟨R.1.nine, R.1.le, R.1.self, R.1.len, R.1.fns, R.1.codes, R.1.apart, R.1.args, R.1.uses⟩)
                    have HB9 := hide ((HBX.out.mono hB).trans R.2)
                    have HC9 := hide hHeld.2.1
                    have HY9 := hide hHeld.1
                    go_wp2
                    go_meet
                    exact ⟨_, 0, s1, HI2, HR9, HX9, HB9, HC9.out, HY9.out⟩
              · have h16i : ¬ (op : Int) = 16 := by omega
                rw [if_neg h16, if_neg (by decide)] at HI
                have CR := fun w => readInt_any s1 (by omega) w
                have hnum : numsL [s1] = (num s1).map fun v => [v] := by
                  unfold numsL
                  cases h : num s1 <;> simp [h]
                cases hq : num s1 with
                | none =>
                  rw [readV_none hq] at CR
                  have HI2 := hide (show insW (s0 :: r) = none by
                    rw [HI.out, hr1, hnum, hq]
                    rfl)
                  clear HI hnum hq
                  go_wp2_with (go_at_call 39; go_must (refine (CR _).mono ?_; rintro e wz ⟨rfl, hwz⟩; replace hwz := hwz.symm; subst hwz))
                  exact bodyPost_ret (v := .bool false) (by simp [results, Tryz.results40, go_sem]) rfl ⟨_, rfl, .inr ⟨rfl, HBX.out, .inl HI2.out⟩⟩
                | some v =>
                  rw [readV_some hq] at CR
                  have HI2 := hide (show insW (s0 :: r) = some (((op : Int), v), r.headD ⟨#[]⟩) by
                    rw [HI.out, hr1, hnum, hq]
                    rfl)
                  have hbs := HBX.out.setCell (p := ⟨ib, 1, none⟩) hibw (.int .i64 v)
                  have HRs := hide (HR.out.keep hbs)
                  have HR9 := hide (show Rf B (wx.setCell ⟨ib, 1, none⟩ (.int .i64 v)) b (.slice (some ⟨fg, 0, none⟩) (m + 1) fc) av uv cs { st with line := line, uses := if (op : Int) = 16 then st.uses ++ [⟨r.headD ⟨#[]⟩, line, (m : Int), (cn : Int)⟩] else st.uses } by
                    rw [if_neg h16i]
                    exact ⟨HRs.out.nine, HRs.out.le, HRs.out.self, HRs.out.len, HRs.out.fns, HRs.out.codes, HRs.out.apart, HRs.out.args, HRs.out.uses⟩)
                  have HB9 := hide (hbs.mono hB)
                  have HX9 := hide (show Box2 (wx.setCell ⟨ib, 1, none⟩ (.int .i64 v)) ib (.int .i64 (op : Int)) (.int .i64 v) by
                    have := HX.out
                    unfold Box2 at *
                    rw [heap_setCell_same _ ib 1 _ 42 _ this]
                    rfl)
                  have HC9 := hide (keep_cell HCL.out hbs)
                  have HY9 := hide (keep_cell HY0.out hbs)
                  obtain ⟨v0, v1, v2, v3, v4⟩ := HX.out.facts
                  clear HI hnum hq hbs
                  go_wp2_with (go_at_call 39; go_must (refine (CR _).mono ?_; rintro e wz ⟨rfl, hwz⟩; replace hwz := hwz.symm; subst hwz))
                  go_meet
                  exact ⟨uv, v, _, HI2, HR9, HX9, HB9, HC9.out, HY9.out⟩
            · have q2 : ¬ (n : Int) = 2 := by omega
              have HI2 := hide (show insW (s0 :: r) = none by
                rw [HI.out]
                by_cases h16 : op = 16
                · rw [if_pos h16, if_neg]
                  · rfl
                  · intro h
                    match r, hn, h with
                    | [a], hn, _ => simp at hn; omega
                · rw [if_neg h16, if_neg (by decide)]
                  have : oneNum (numsL r) = none := by
                    cases h : numsL r with
                    | none => rfl
                    | some vs =>
                      have hl := nums_len h
                      match vs, hl with
                      | [], _ => rfl
                      | [a], hl => simp at hl hn; omega
                      | _ :: _ :: _, _ => rfl
                  rw [this]; rfl)
              go_wp2
              exact bodyPost_ret (v := .bool false) (by simp [results, Tryz.results40, go_sem]) rfl ⟨_, rfl, .inr ⟨rfl, HBX.out, .inl HI2.out⟩⟩
        case rest =>
          obtain ⟨uv', x, nm, hIn, hRx, hbx', hBx, kc, kb⟩ := hcut
          obtain ⟨v0, v1, v2, v3, v4⟩ := hbx'.out.facts
          have hcdl : cd.length = fs.length := by
            have h1 := hRx.out.len
            rw [HCS.out] at h1
            have h2 : (cd ++ [Value.slice ca cn cc]).length = (fs ++ [f]).length := by rw [← HF.out]; exact h1
            simpa using h2
          have kcode2 : wc.ownsRow B 42 2 (.slice ca cn cc) cn (insV f.code) := by
            have h1 := hRx.out.codes fs.length (by rw [HCS.out, ← hcdl]; simp) (by show fs.length < st.funcs.length; rw [HF.out]; simp)
            simp only [HF.out, HCS.out] at h1
            have h2 : wc.ownsRow B 42 2 (.slice ca cn cc) f.code.length (insV f.code) := by simpa [hcdl] using h1
            rw [← HCN.out] at h2
            exact h2
          obtain ⟨fcur, hfcur⟩ := own_tag hRx.out.fns (g := fg) rfl
          have hbself := hRx.out.self
          have hBw2 : B ≤ wc.heap.size := Nat.le_trans hB (hBx.out.size)
          obtain ⟨q0, hq0, hq1, hq2, hq3⟩ : ∃ q0, wc.ownsRow q0 42 2 (.slice ca cn cc) cn (insV f.code) ∧ q0 ≤ wc.heap.size + 1 ∧ B ≤ q0 ∧ ∀ q, q0 ≤ q → wc.heap.size + 1 ≤ q ∨ ∃ p, (Value.slice ca cn cc).ownBlock = some p ∧ p ≤ q := by
            rcases kcode2.2 with ⟨h1, h2⟩ | ⟨g', cap, cur, h1, h2, h3, h4⟩
            · exact ⟨wc.heap.size + 1, ⟨kcode2.1, .inl ⟨h1, h2⟩⟩, Nat.le_refl _, by omega, fun q hq => .inl hq⟩
            · exact ⟨g', ⟨kcode2.1, .inr ⟨g', cap, cur, h1, Nat.le_refl _, h3, h4⟩⟩, by have := lt_row h3; omega, h2, fun q hq => .inr ⟨g', by rw [h1]; rfl, hq⟩⟩
          have hne : some ib ≠ (Value.slice ca cn cc).ownBlock := fun e => by
            have h1 := (HCD.out.lt ib e.symm).2
            omega
          have hibf : ib ≠ fg := fun e => by
            have h1 := hbx'.out
            unfold Box2 at h1
            rw [e] at h1
            exact tag_ne h1 (by decide) hfcur
          have hfb' : ¬ b = fg := fun e => by
            rw [← e] at hfcur
            exact tag_ne hfcur (by decide) hbself
          obtain ⟨i0, hi, hz0, hz1, hz2⟩ := info_parts Tryz.info42
          have hff := frozen_arr (i := m * 4 + 3) hfcur
          clear hcdl
          go_upto_region 21 with fail
          refine wp_region_noPanic ?_
          refine wp_region_held_drew (S := fun W => W.cell? ⟨ib, 0, none⟩ = some (.int .i64 (op : Int)) ∧ W.cell? ⟨ib, 1, none⟩ = some (.int .i64 x) ∧ W.cell? ⟨b, 0, none⟩ = some (.slice (some ⟨fg, 0, none⟩) (m + 1) fc)) (by kernel_rfl) ⟨by simpa using v1, by simpa using v2, by simpa using kb⟩ (fun hHeld => ?_)
          refine takeD (i := 0) (d := some 107) (v := ?_) rfl rfl (by kernel_rfl) (by kernel_rfl) (by kernel_rfl) (fun _ _ _ h => h) (Or.inl ⟨by rfl, ?_⟩) (by assumption) ?_
          rotate_left
          · intro w hSw
            go_simp
            try (with_reducible rfl)
          try simp only [Act.put, List.setIfInBounds_toArray, List.set_cons_zero, List.set_cons_succ]
          refine takeD (i := 1) (d := some 108) (v := ?_) rfl rfl (by kernel_rfl) (by kernel_rfl) (by kernel_rfl) (fun _ _ _ h => h) (Or.inl ⟨by rfl, ?_⟩) (by assumption) ?_
          rotate_left
          · intro w hSw
            go_simp
            try (with_reducible rfl)
          try simp only [Act.put, List.setIfInBounds_toArray, List.set_cons_zero, List.set_cons_succ]
          refine takeD (i := 2) (d := some 109) (v := ?_) rfl rfl (by kernel_rfl) (by kernel_rfl) (by kernel_rfl) (fun _ _ _ h => h) (Or.inl ⟨by rfl, ?_⟩) (by assumption) ?_
          rotate_left
          · intro w hSw
            go_simp
            try (with_reducible rfl)
          try simp only [Act.put, List.setIfInBounds_toArray, List.set_cons_zero, List.set_cons_succ]
          refine takeD (i := 3) (d := some 110) (v := ?_) rfl rfl (by kernel_rfl) (by kernel_rfl) (by kernel_rfl) (fun _ _ _ h => h) (Or.inl ⟨by rfl, ?_⟩) (by assumption) ?_
          rotate_left
          · intro w hSw
            go_simp
            try (with_reducible rfl)
          try simp only [Act.put, List.setIfInBounds_toArray, List.set_cons_zero, List.set_cons_succ]
          refine takeD (i := 4) (d := some 111) (v := ?_) rfl rfl (by kernel_rfl) (by kernel_rfl) (by kernel_rfl) (fun _ _ _ h => h) (Or.inl ⟨by rfl, ?_⟩) (by assumption) ?_
          rotate_left
          · intro w hSw
            go_simp
            try (with_reducible rfl)
          try simp only [Act.put, List.setIfInBounds_toArray, List.set_cons_zero, List.set_cons_succ]
          refine takeD (i := 5) (d := some 112) (v := ?_) rfl rfl (by kernel_rfl) (by kernel_rfl) (by kernel_rfl) (fun _ _ _ h => h) (Or.inl ⟨by rfl, ?_⟩) (by assumption) ?_
          rotate_left
          · intro w hSw
            go_simp
            try (with_reducible rfl)
          try simp only [Act.put, List.setIfInBounds_toArray, List.set_cons_zero, List.set_cons_succ]
          refine takeD (i := 6) (d := some 113) (v := ?_) rfl rfl (by kernel_rfl) (by kernel_rfl) (by kernel_rfl) (fun _ _ _ h => h) (Or.inl ⟨by rfl, ?_⟩) (by assumption) ?_
          rotate_left
          · intro w hSw
            go_simp
            try (with_reducible rfl)
          try simp only [Act.put, List.setIfInBounds_toArray, List.set_cons_zero, List.set_cons_succ]
          refine takeD (i := 7) (d := some 114) (v := ?_) rfl rfl (by kernel_rfl) (by kernel_rfl) (by kernel_rfl) (fun _ _ _ h => h) (Or.inl ⟨by rfl, ?_⟩) (by assumption) ?_
          rotate_left
          · intro w hSw
            go_simp
            try (with_reducible rfl)
          try simp only [Act.put, List.setIfInBounds_toArray, List.set_cons_zero, List.set_cons_succ]
          refine takeD (i := 8) (d := some 115) (v := ?_) rfl rfl (by kernel_rfl) (by kernel_rfl) (by kernel_rfl) (fun _ _ _ h => h) (Or.inl ⟨by rfl, ?_⟩) (by assumption) ?_
          rotate_left
          · intro w hSw
            go_simp
            try (with_reducible rfl)
          try simp only [Act.put, List.setIfInBounds_toArray, List.set_cons_zero, List.set_cons_succ]
          refine takeD (i := 9) (d := some 116) (v := ?_) rfl rfl (by kernel_rfl) (by kernel_rfl) (by kernel_rfl) (fun _ _ _ h => h) (Or.inl ⟨by rfl, ?_⟩) (by assumption) ?_
          rotate_left
          · intro w hSw
            go_simp
            try (with_reducible rfl)
          try simp only [Act.put, List.setIfInBounds_toArray, List.set_cons_zero, List.set_cons_succ]
          refine takeD (i := 10) (d := some 117) (v := ?_) rfl rfl (by kernel_rfl) (by kernel_rfl) (by kernel_rfl) (fun _ _ _ h => h) (Or.inl ⟨by rfl, ?_⟩) (by assumption) ?_
          rotate_left
          · intro w hSw
            go_simp
            try (with_reducible rfl)
          try simp only [Act.put, List.setIfInBounds_toArray, List.set_cons_zero, List.set_cons_succ]
          refine takeD (i := 11) (d := some 118) (v := ?_) rfl rfl (by kernel_rfl) (by kernel_rfl) (by kernel_rfl) (fun _ _ _ h => h) (Or.inl ⟨by rfl, ?_⟩) (by assumption) ?_
          rotate_left
          · intro w hSw
            go_simp
            try (with_reducible rfl)
          try simp only [Act.put, List.setIfInBounds_toArray, List.set_cons_zero, List.set_cons_succ]
          refine takeD (i := 12) (d := some 119) (v := ?_) rfl rfl (by kernel_rfl) (by kernel_rfl) (by kernel_rfl) (fun _ _ _ h => h) (Or.inl ⟨by rfl, ?_⟩) (by assumption) ?_
          rotate_left
          · intro w hSw
            go_simp
            try (with_reducible rfl)
          try simp only [Act.put, List.setIfInBounds_toArray, List.set_cons_zero, List.set_cons_succ]
          refine takeD (i := 13) (d := some 120) (v := ?_) rfl rfl (by kernel_rfl) (by kernel_rfl) (by kernel_rfl) (fun _ _ _ h => h) (Or.inl ⟨by rfl, ?_⟩) (by assumption) ?_
          rotate_left
          · intro w hSw
            go_simp
            try (with_reducible rfl)
          try simp only [Act.put, List.setIfInBounds_toArray, List.set_cons_zero, List.set_cons_succ]
          refine takeD (i := 15) (d := some 122) (v := ?_) rfl rfl (by kernel_rfl) (by kernel_rfl) (by kernel_rfl) (fun _ _ _ h => h) (Or.inl ⟨by rfl, ?_⟩) (by assumption) ?_
          rotate_left
          · intro w hSw
            go_simp
            try (with_reducible rfl)
          try simp only [Act.put, List.setIfInBounds_toArray, List.set_cons_zero, List.set_cons_succ]
          refine wpAnyH_ready (rs := [14, 16]) (by kernel_rfl) (by simp) ?_
          refine AllReadyH.cons rfl (fun K hK => ?_) (AllReadyH.cons rfl (fun K hK => ?_) AllReadyH.nil)
          · go_simp
            refine hK.out _ _ hHeld (fun hHeld => ?_)
            clear hK K
            try simp only [Act.put, List.setIfInBounds_toArray, List.set_cons_zero, List.set_cons_succ]
            refine wpAnyH_ready (rs := [16]) (by kernel_rfl) (by simp) ?_
            refine AllReadyH.cons rfl (fun K hK => ?_) AllReadyH.nil
            go_simp
            clear hHeld
            refine hK.out _ _ ⟨by simp [World.cell?_alloc_some, v1], by simp [World.cell?_alloc_some, v2], by simp [World.cell?_alloc_some, kb]⟩ (fun hHeld => ?_)
            clear hK K
            try simp only [Act.put, List.setIfInBounds_toArray, List.set_cons_zero, List.set_cons_succ]
            refine wpAnyH_ready (rs := [17]) (by kernel_rfl) (by simp) ?_
            refine AllReadyH.cons rfl (fun K hK => ?_) AllReadyH.nil
            rw [if_pos (by rfl)]
            refine wp_append_own _ (.tmp 121) (.tmp 123) 43 rfl q0 42 i0 (.agg #[.int .i64 0, .int .i64 0]) 2 16 Tryz.underlying43 hi hz0 hz1 hz2 rfl (by decide) (.slice ca cn cc) cn (insV f.code) rfl (by exact hq0.alloc _) ⟨wc.heap.size, 0, none⟩ 1 1 [.int .i64 (op : Int), .int .i64 x] (by rfl) rfl (by exact cells_new wc _ 42) (by simp [Value.oneCell']) (by unfold maxLen; omega) (by omega) (by simp; omega) ?_
            intro v3 w3 ho3 hg3 hnew3
            have hf73 := grown_heap hg3 (own_keep kcode2 ((alloc_below wc (.cells #[.int .i64 (op : Int), .int .i64 x] 42)).drew)) (by rw [((alloc_below wc (.cells #[.int .i64 (op : Int), .int .i64 x] 42)).drew).block fg (lt_row hfcur)]; exact hfcur) (by decide)
            have k73 := cell_grown' ((alloc_below wc (.cells #[.int .i64 (op : Int), .int .i64 x] 42)).drew) hg3 kcode2 kc hfcur (by decide)
            have f73 := frozen_arr (i := m * 4 + 3) hf73
            obtain ⟨a3, c3, rfl⟩ := own_any ho3
            clear hHeld
            refine hK.out _ _ ⟨hg3.cell (keep_cell v1 ((alloc_below wc (.cells #[.int .i64 (op : Int), .int .i64 x] 42)).drew)) hne, hg3.cell (keep_cell v2 ((alloc_below wc (.cells #[.int .i64 (op : Int), .int .i64 x] 42)).drew)) hne, cell_grown' ((alloc_below wc (.cells #[.int .i64 (op : Int), .int .i64 x] 42)).drew) hg3 kcode2 kb hbself (by decide)⟩ (fun hHeld => ?_)
            clear hK K
            try simp only [Act.put, List.setIfInBounds_toArray, List.set_cons_zero, List.set_cons_succ]
            refine takeD (i := 18) (d := some 125) (v := ?_) rfl rfl (by kernel_rfl) (by kernel_rfl) (by kernel_rfl) (fun _ _ _ h => h) (Or.inl ⟨by rfl, ?_⟩) (by assumption) ?_
            rotate_left
            · intro w hSw
              go_simp
              try (with_reducible rfl)
            try simp only [Act.put, List.setIfInBounds_toArray, List.set_cons_zero, List.set_cons_succ]
            refine takeD (i := 19) (d := some 126) (v := ?_) rfl rfl (by kernel_rfl) (by kernel_rfl) (by kernel_rfl) (fun _ _ _ h => h) (Or.inl ⟨by rfl, ?_⟩) (by assumption) ?_
            rotate_left
            · intro w hSw
              go_simp
              try (with_reducible rfl)
            try simp only [Act.put, List.setIfInBounds_toArray, List.set_cons_zero, List.set_cons_succ]
            refine wpAnyH_ready (rs := [20]) (by kernel_rfl) (by simp) ?_
            refine AllReadyH.cons rfl (fun K hK => ?_) AllReadyH.nil
            go_simp
            refine hK.out _ _ ⟨by rw [World.cell?_setCell_far _ _ _ _ (by simpa using hibf.symm)]; exact hHeld.1, by rw [World.cell?_setCell_far _ _ _ _ (by simpa using hibf.symm)]; exact hHeld.2.1, by rw [World.cell?_setCell_far _ _ _ _ (by simpa using fun e => hfb' e.symm)]; exact hHeld.2.2⟩ (fun hHeld => ?_)
            clear hK K
            try simp only [Act.put, List.setIfInBounds_toArray, List.set_cons_zero, List.set_cons_succ]
            refine wpAnyH_done (by kernel_rfl) ?_ _
            refine NoPanic.normal ?_
            have R := hRx.out.codeAdd (fs := fs) (f := f) (cd := cd) HF.out HM.out HCS.out (op : Int) x ((alloc_below wc (.cells #[.int .i64 (op : Int), .int .i64 x] 42)).drew) hBw2 (by rw [← HCN.out]; exact own_low ho3 hq2) hg3 (fun q hq => by
              rcases hq3 q (ho3.lt q hq).1 with h1 | h1
              · exact .inl (by simpa using h1)
              · exact .inr h1)
            have hfin := hide (show Rf B (w3.setCell ⟨fg, m * 4 + 3, none⟩ (.slice a3 (cn + 1) c3)) b (.slice (some ⟨fg, 0, none⟩) (m + 1) fc) av uv' (cd ++ [.slice a3 (cn + 1) c3]) (St.add { st with line := line } fs f (((op : Int), x), nm)) from by
              have h := R.1
              unfold St.add
              rw [← HM.out, ← HCN.out]
              exact h)
            have hfb2 := hide (hBx.out.trans R.2)
            clear R
            go_wp2
            exact bodyPost_ret (v := .bool true) (by simp [results, Tryz.results40, go_sem]) rfl ⟨_, rfl, .inl ⟨rfl, hfb2.out, _, fs, f, _, _, _, _, hIn.out, HF.out, (by rw [← HCN.out]; exact h256), hfin.out⟩⟩
          · go_simp
            clear hHeld
            refine hK.out _ _ ⟨by simp [World.cell?_alloc_some, v1], by simp [World.cell?_alloc_some, v2], by simp [World.cell?_alloc_some, kb]⟩ (fun hHeld => ?_)
            clear hK K
            try simp only [Act.put, List.setIfInBounds_toArray, List.set_cons_zero, List.set_cons_succ]
            have k7a := keep_cell kc (alloc_below wc (.cells #[.int .i64 (op : Int), .int .i64 x] 42))
            refine wpAnyH_ready (rs := [14]) (by kernel_rfl) (by simp) ?_
            refine AllReadyH.cons rfl (fun K hK => ?_) AllReadyH.nil
            go_simp
            refine hK.out _ _ hHeld (fun hHeld => ?_)
            clear hK K
            try simp only [Act.put, List.setIfInBounds_toArray, List.set_cons_zero, List.set_cons_succ]
            refine wpAnyH_ready (rs := [17]) (by kernel_rfl) (by simp) ?_
            refine AllReadyH.cons rfl (fun K hK => ?_) AllReadyH.nil
            rw [if_pos (by rfl)]
            refine wp_append_own _ (.tmp 121) (.tmp 123) 43 rfl q0 42 i0 (.agg #[.int .i64 0, .int .i64 0]) 2 16 Tryz.underlying43 hi hz0 hz1 hz2 rfl (by decide) (.slice ca cn cc) cn (insV f.code) rfl (by exact hq0.alloc _) ⟨wc.heap.size, 0, none⟩ 1 1 [.int .i64 (op : Int), .int .i64 x] (by rfl) rfl (by exact cells_new wc _ 42) (by simp [Value.oneCell']) (by unfold maxLen; omega) (by omega) (by simp; omega) ?_
            intro v3 w3 ho3 hg3 hnew3
            have hf73 := grown_heap hg3 (own_keep kcode2 ((alloc_below wc (.cells #[.int .i64 (op : Int), .int .i64 x] 42)).drew)) (by rw [((alloc_below wc (.cells #[.int .i64 (op : Int), .int .i64 x] 42)).drew).block fg (lt_row hfcur)]; exact hfcur) (by decide)
            have k73 := cell_grown' ((alloc_below wc (.cells #[.int .i64 (op : Int), .int .i64 x] 42)).drew) hg3 kcode2 kc hfcur (by decide)
            have f73 := frozen_arr (i := m * 4 + 3) hf73
            obtain ⟨a3, c3, rfl⟩ := own_any ho3
            clear hHeld
            refine hK.out _ _ ⟨hg3.cell (keep_cell v1 ((alloc_below wc (.cells #[.int .i64 (op : Int), .int .i64 x] 42)).drew)) hne, hg3.cell (keep_cell v2 ((alloc_below wc (.cells #[.int .i64 (op : Int), .int .i64 x] 42)).drew)) hne, cell_grown' ((alloc_below wc (.cells #[.int .i64 (op : Int), .int .i64 x] 42)).drew) hg3 kcode2 kb hbself (by decide)⟩ (fun hHeld => ?_)
            clear hK K
            try simp only [Act.put, List.setIfInBounds_toArray, List.set_cons_zero, List.set_cons_succ]
            refine takeD (i := 18) (d := some 125) (v := ?_) rfl rfl (by kernel_rfl) (by kernel_rfl) (by kernel_rfl) (fun _ _ _ h => h) (Or.inl ⟨by rfl, ?_⟩) (by assumption) ?_
            rotate_left
            · intro w hSw
              go_simp
              try (with_reducible rfl)
            try simp only [Act.put, List.setIfInBounds_toArray, List.set_cons_zero, List.set_cons_succ]
            refine takeD (i := 19) (d := some 126) (v := ?_) rfl rfl (by kernel_rfl) (by kernel_rfl) (by kernel_rfl) (fun _ _ _ h => h) (Or.inl ⟨by rfl, ?_⟩) (by assumption) ?_
            rotate_left
            · intro w hSw
              go_simp
              try (with_reducible rfl)
            try simp only [Act.put, List.setIfInBounds_toArray, List.set_cons_zero, List.set_cons_succ]
            refine wpAnyH_ready (rs := [20]) (by kernel_rfl) (by simp) ?_
            refine AllReadyH.cons rfl (fun K hK => ?_) AllReadyH.nil
            go_simp
            refine hK.out _ _ ⟨by rw [World.cell?_setCell_far _ _ _ _ (by simpa using hibf.symm)]; exact hHeld.1, by rw [World.cell?_setCell_far _ _ _ _ (by simpa using hibf.symm)]; exact hHeld.2.1, by rw [World.cell?_setCell_far _ _ _ _ (by simpa using fun e => hfb' e.symm)]; exact hHeld.2.2⟩ (fun hHeld => ?_)
            clear hK K
            try simp only [Act.put, List.setIfInBounds_toArray, List.set_cons_zero, List.set_cons_succ]
            refine wpAnyH_done (by kernel_rfl) ?_ _
            refine NoPanic.normal ?_
            have R := hRx.out.codeAdd (fs := fs) (f := f) (cd := cd) HF.out HM.out HCS.out (op : Int) x ((alloc_below wc (.cells #[.int .i64 (op : Int), .int .i64 x] 42)).drew) hBw2 (by rw [← HCN.out]; exact own_low ho3 hq2) hg3 (fun q hq => by
              rcases hq3 q (ho3.lt q hq).1 with h1 | h1
              · exact .inl (by simpa using h1)
              · exact .inr h1)
            have hfin := hide (show Rf B (w3.setCell ⟨fg, m * 4 + 3, none⟩ (.slice a3 (cn + 1) c3)) b (.slice (some ⟨fg, 0, none⟩) (m + 1) fc) av uv' (cd ++ [.slice a3 (cn + 1) c3]) (St.add { st with line := line } fs f (((op : Int), x), nm)) from by
              have h := R.1
              unfold St.add
              rw [← HM.out, ← HCN.out]
              exact h)
            have hfb2 := hide (hBx.out.trans R.2)
            clear R
            go_wp2
            exact bodyPost_ret (v := .bool true) (by simp [results, Tryz.results40, go_sem]) rfl ⟨_, rfl, .inl ⟨rfl, hfb2.out, _, fs, f, _, _, _, _, hIn.out, HF.out, (by rw [← HCN.out]; exact h256), hfin.out⟩⟩
      · have q256 : (256 : Int) ≤ (cn : Int) := by omega
        go_wp2
        exact bodyPost_ret (v := .bool false) (by simp [results, Tryz.results40, go_sem]) rfl ⟨_, rfl, .inr ⟨rfl, hb1, .inr (.inr ⟨fs, f, HF.out, by rw [← HCN.out]; omega⟩)⟩⟩
    · have HI := hide (show insW (s0 :: r) = none by
        show Option.map _ (insL s0 r) = _
        unfold insL
        rw [hno]; rfl)
      go_wp2
      exact bodyPost_ret (v := .bool false) (by simp [results, Tryz.results40, go_sem]) rfl ⟨_, rfl, .inr ⟨rfl, hb1, .inl HI.out⟩⟩
end Go.Proofs.YtfnloomcianbiaaGreatDoor
