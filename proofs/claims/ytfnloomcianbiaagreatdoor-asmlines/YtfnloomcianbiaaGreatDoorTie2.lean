/- tie. -/
import Derived.Test.YtfnloomcianbiaaGreatDoorTieA
import Derived.Test.YtfnloomcianbiaaGreatDoorCodeA
namespace Go.Proofs.YtfnloomcianbiaaGreatDoor
open Go.RowKit Go.ChangeShapes Go.WideShapes Go.ChangeAt Go.Deep

/-- Functions in the place of the names they are used by. -/
def tieL : List Use → St → Except Int St
  | [], st => .ok st
  | u :: r, st =>
    if findF u.name st.funcs < 0 then .error u.line
    else if u.i < 0 then tieL r { st with main := findF u.name st.funcs }
    else tieL r (st.setN u.i.toNat u.k.toNat (findF u.name st.funcs))

/-- A use that is an instruction's. -/
def UseOk (fs : List Fun) (u : Use) : Prop := u.i < 0 ∨ (0 ≤ u.i ∧ 0 ≤ u.k ∧ ∃ f x, fs[u.i.toNat]? = some f ∧ f.code[u.k.toNat]? = some x)

theorem UseOk.main {fs : List Fun} {u : Use} (h : UseOk fs u) (i k : Nat) (n : Int) : UseOk (fs.modify i fun f => f.setN k n) u := by
  rcases h with h | ⟨h1, h2, f, x, h3, h4⟩
  · exact .inl h
  · refine .inr ⟨h1, h2, ?_⟩
    by_cases hi : i = u.i.toNat
    · refine ⟨f.setN k n, ?_⟩
      by_cases hk : k = u.k.toNat
      · exact ⟨(x.1, n), by simp [hi, h3], by simp [Fun.setN, hk, h4]⟩
      · exact ⟨x, by simp [hi, h3], by simp [Fun.setN, hk, h4]⟩
    · exact ⟨f, x, by simp [hi, h3], h4⟩

theorem useV_at {us : List Use} {k : Nat} {u : Use} (h : us[k]? = some u) (i : Nat) (hi : i < 4) : (useV us)[k * 4 + i]? = (Use.enc u)[i]? := by
  induction us generalizing k with
  | nil => simp at h
  | cons a r ih =>
    cases k with
    | zero =>
      simp at h
      subst h
      show (Use.enc a ++ useV r)[0 * 4 + i]? = _
      rw [List.getElem?_append_left (by simp [Use.enc]; omega)]
      simp
    | succ k =>
      show (Use.enc a ++ useV r)[(k + 1) * 4 + i]? = _
      rw [List.getElem?_append_right (by simp [Use.enc]; omega)]
      have e1 : (k + 1) * 4 + i - (Use.enc a).length = k * 4 + i := by simp [Use.enc]; omega
      rw [e1, ih (by simpa using h)]

theorem insV_at {c : List (Int × Int)} {k : Nat} {x : Int × Int} (h : c[k]? = some x) : (insV c)[k * 2 + 1]? = some (.int .i64 x.2) := by
  induction c generalizing k with
  | nil => simp at h
  | cons a r ih =>
    cases k with
    | zero => simp at h; subst h; rfl
    | succ k =>
      show ([Value.int .i64 a.1, Value.int .i64 a.2] ++ insV r)[(k + 1) * 2 + 1]? = _
      rw [List.getElem?_append_right (by simp; omega)]
      have e1 : (k + 1) * 2 + 1 - [Value.int .i64 a.1, Value.int .i64 a.2].length = k * 2 + 1 := by simp; omega
      rw [e1, ih (by simpa using h)]
theorem setN_code {st : St} {i j : Nat} {n : Int} (h : ∀ f ∈ st.funcs, f.code.length ≤ 1000000) {g : Fun} (hg : g ∈ (st.setN i j n).funcs) : g.code.length ≤ 1000000 := by
  obtain ⟨k, hk, rfl⟩ := List.getElem_of_mem hg
  have hk' : k < st.funcs.length := by simpa [St.setN] using hk
  have e : (st.setN i j n).funcs[k] = if i = k then (st.funcs[k]).setN j n else st.funcs[k] := by simp [St.setN, List.getElem_modify]
  rw [e]
  have := h _ (List.getElem_mem hk')
  split
  · simpa [Fun.setN] using this
  · exact this
theorem far_cell {w : World} {g i c o : Nat} {u v : Value} (hne : g ≠ c) (h : w.cell? ⟨g, i, none⟩ = some u) : (w.setCell ⟨c, o, none⟩ v).drew.cell? ⟨g, i, none⟩ = some u := by
  show (w.setCell ⟨c, o, none⟩ v).cell? ⟨g, i, none⟩ = some u
  rw [World.cell?_setCell_far _ _ _ _ (by simpa using hne.symm)]
  exact h
theorem frozen_arr2 {w : World} {b i : Nat} {cs : Array Value} {t : TypeId} (h : w.heap[b]? = some (.cells cs t (0, 0))) : w.frozen? ⟨b, i, none⟩ = false := by
  simp [World.frozen?, h]

set_option maxRecDepth 100000 in
set_option maxHeartbeats 4000000 in
theorem tie_any (B b : Nat) (fv av uv : Value) (cs : List Value) (st : St) (w : World) (hub : st.uses.length ≤ 1000000) (hfb : st.funcs.length ≤ 1000000) (hcb : ∀ f ∈ st.funcs, f.code.length ≤ 1000000) (hok : ∀ u ∈ st.uses, UseOk st.funcs u) (hB : B ≤ w.heap.size) (hR : Rd B w b fv av uv cs st) :
    Calls Tryz.prog 22 #[.pointer (some ⟨b, 0, none⟩)] w (Stood B b w (tieL st.uses st)) := by
  have h9 := hR.nine
  obtain ⟨_, _, _, _, _, _, _, y7⟩ := hR.cells
  obtain ⟨ua, uc, rfl⟩ := own_any hR.uses
  obtain ⟨m, hm⟩ : ∃ m, m = st.uses.length := ⟨_, rfl⟩
  rw [← hm] at y7 hub
  have HM := hide hm
  clear hm
  go_enter Tryz.func22, Tryz.ntmps22
  go_wp2
  go_loopw [11] (fun i wr => Hid (Below B w wr) ∧ ∃ k : Nat, k ≤ m ∧ i = .int .i64 (k : Nat) ∧ Hid (∃ st', Rd B wr b fv av (.slice ua st.uses.length uc) cs st' ∧ st'.uses = st.uses ∧ st'.funcs.length = st.funcs.length ∧ (∀ f ∈ st'.funcs, f.code.length ≤ 1000000) ∧ (∀ u ∈ st.uses, UseOk st'.funcs u) ∧ tieL st.uses st = tieL (st.uses.drop k) st')) (fun i _ => m - (intOf i).toNat)
  case atStart => exact ⟨Below.refl _ _, 0, Nat.zero_le _, rfl, st, hR, rfl, rfl, hcb, hok, by simp⟩
  case round =>
    obtain ⟨hbw, k, hk, rfl, hx⟩ := hrel
    obtain ⟨st', hR', hu', hfl', hcb', hok', htl⟩ := hx.out
    have hBr : B ≤ wr.heap.size := Nat.le_trans hB hbw.out.size
    by_cases hlt : k < m
    · have hkl : k < st.uses.length := by rw [← HM.out]; exact hlt
      obtain ⟨u, hu⟩ : ∃ u, st.uses[k]? = some u := ⟨st.uses[k], List.getElem?_eq_getElem hkl⟩
      have hum : u ∈ st.uses := List.mem_of_getElem? hu
      have hdrop : st.uses.drop k = u :: st.uses.drop (k + 1) := by
        rw [List.drop_eq_getElem_cons hkl]
        rw [List.getElem?_eq_getElem hkl] at hu
        rw [Option.some.inj hu]
      rw [hdrop] at htl
      have huk := hok' u hum
      obtain ⟨ug, rfl⟩ : ∃ ug, ua = some ⟨ug, 0, none⟩ := by
        rcases hR'.uses.2 with ⟨h, e⟩ | ⟨g', cap, cur, h, _⟩
        · rw [hu'] at e; omega
        · injection h with h1 _ _; exact ⟨g', h1⟩
      have xc : ∀ i v, i < 4 → (Use.enc u)[i]? = some v → wr.cell? ⟨ug, k * 4 + i, none⟩ = some v := fun i v hi hv => by
        have h1 := hR'.uses.cells (g := ug) rfl (k * 4 + i) v (by rw [hu', useV_at hu i hi]; exact hv)
        rwa [add_none, Nat.zero_add] at h1
      have x0 := xc 0 _ (by omega) rfl
      have x1 := xc 1 _ (by omega) rfl
      have x2 := xc 2 _ (by omega) rfl
      have x3 := xc 3 _ (by omega) rfl
      simp only [Nat.add_zero] at x0
      have hugl := cell_some_lt x0
      have hlt' : (k : Int) < (m : Int) := by omega
      have HX := hide xc
      clear xc hx hdrop
      obtain ⟨nm, ln, ui, uk⟩ := u
      go_upto_region 4 with fail
      have hbA := alloc_below wr (.cells #[.string nm, .int .i64 ln, .int .i64 ui, .int .i64 uk] 78)
      have hhA : (wr.alloc (.cells #[.string nm, .int .i64 ln, .int .i64 ui, .int .i64 uk] 78)).heap[wr.heap.size]? = some (.cells [.string nm, .int .i64 ln, .int .i64 ui, .int .i64 uk].toArray 78 (0, 0)) := heap_alloc_new wr _
      generalize wr.alloc (.cells #[.string nm, .int .i64 ln, .int .i64 ui, .int .i64 uk] 78) = wa at hbA hhA ⊢
      have hRa := hR'.keep hbA
      obtain ⟨fa, fc, rfl, hfr⟩ := hRa.freads
      have F := fun (W : World) (hb : Below wa.heap.size wa W) => find_any nm fa fc st'.funcs.length (frs st'.funcs cs) (by simp [frs, hRa.len]) (by omega) W (hfr.below hb)
      rw [findL_eq nm st'.funcs cs hRa.len] at F
      have hfg := findF_ge nm st'.funcs
      have HT := hide (show tieL st.uses st = if findF nm st'.funcs < 0 then .error ln else if ui < 0 then tieL (st.uses.drop (k + 1)) { st' with main := findF nm st'.funcs } else tieL (st.uses.drop (k + 1)) (st'.setN ui.toNat uk.toNat (findF nm st'.funcs)) from htl)
      generalize findF nm st'.funcs = fi at F hfg HT
      obtain ⟨fl, hfl⟩ : ∃ fl, fl = st'.funcs.length := ⟨_, rfl⟩
      obtain ⟨_, y1, y2, y3, _, _, _, _⟩ := hRa.cells
      rw [← hfl] at F hfg y2
      have n0 := cell_row (i := 0) hhA rfl
      have HFL := hide hfl
      have HRa := hide hRa
      have HBA := hide (hbw.out.trans (hbA.mono hBr))
      have hBa : B ≤ wa.heap.size := Nat.le_trans hBr hbA.size
      clear hR' hRa hfl htl hfr x0 x1 x2 x3 HX
      go_region_held3 (fun w' => w'.cell? ⟨wr.heap.size, 0, none⟩ = some (.string nm) ∧ w'.cell? ⟨b, 2, none⟩ = some (.slice fa fl fc)) (first | exact ⟨n0, y2⟩ | exact ⟨by simpa using n0, by simpa using y2⟩ | exact ⟨keep_cell n0 (below_undrew hb2), keep_cell y2 (below_undrew hb2)⟩ | go_keep) (first | (go_at_call 36; refine (F _ ((Below.refl _ _).drew)).mono ?_; rintro e w2 ⟨rfl, hb2⟩))
      have hbd : Below wa.heap.size wa w2 := below_undrew hb2
      have hR2 := HRa.out.keep hbd
      have hh2 : w2.heap[wr.heap.size]? = some (.cells [.string nm, .int .i64 ln, .int .i64 ui, .int .i64 uk].toArray 78 (0, 0)) := by rw [hbd.block _ (lt_row hhA)]; exact hhA
      have HB2 := hide (HBA.out.trans (hbd.mono hBa))
      have hB2 : B ≤ w2.heap.size := Nat.le_trans hBa hbd.size
      obtain ⟨_, z1, z2, z3, _, _, _, _⟩ := hR2.cells
      rw [← HFL.out] at z2
      have m1 := cell_row (i := 1) hh2 rfl
      have m2 := cell_row (i := 2) hh2 rfl
      have m3 := cell_row (i := 3) hh2 rfl
      have g1 := hR2.unfrozen 1
      have g3 := hR2.unfrozen 3
      clear F n0 y1 y2 y3 hb2 HRa HBA
      by_cases hf0 : fi < 0
      · have HH := hide (show tieL st.uses st = .error ln by rw [HT.out, if_pos hf0])
        have hfb3 := hide ((hR2.below (grown_setCell w2 b 1 (.int .i64 ln)) hB2))
        go_wp2
        go_ret
        unfold Stood
        rw [HH.out]
        exact ⟨HB2.out.trans hfb3.out, rfl, World.cell?_setCell_same _ _ _ z1⟩
      · have hd0 : decide (fi < 0) = false := decide_eq_false hf0
        by_cases hu0 : ui < 0
        · have HH := hide (show tieL st.uses st = tieL (st.uses.drop (k + 1)) { st' with main := fi } by rw [HT.out, if_neg hf0, if_pos hu0])
          have hgm := grown_setCell w2 b 3 (.int .i64 fi)
          have hRm := hide (hR2.turn hgm (set_row (i := 3) hR2.self (.int .i64 fi)))
          have hBm := hide (HB2.out.trans (hR2.below hgm hB2))
          clear HT hR2
          go_wp2
          go_roundw
          case rel => exact ⟨hBm.out, k + 1, by omega, by go_num, _, hRm.out, hu', hfl', hcb', hok', HH.out⟩
          case measure => simp [intOf]; omega
        · obtain ⟨h1, h2, f, x, h3, h4⟩ : 0 ≤ ui ∧ 0 ≤ uk ∧ ∃ f x, st'.funcs[ui.toNat]? = some f ∧ f.code[uk.toNat]? = some x := by
            rcases huk with h | h
            · exact absurd h hu0
            · exact h
          obtain ⟨i, rfl⟩ : ∃ i : Nat, ui = (i : Int) := ⟨ui.toNat, by omega⟩
          obtain ⟨j, rfl⟩ : ∃ j : Nat, uk = (j : Int) := ⟨uk.toNat, by omega⟩
          simp only [Int.toNat_natCast] at h3 h4
          have HH := hide (show tieL st.uses st = tieL (st.uses.drop (k + 1)) (st'.setN i j fi) by rw [HT.out, if_neg hf0, if_neg hu0]; simp)
          have hil : i < st'.funcs.length := by
            rcases Nat.lt_or_ge i st'.funcs.length with h | h
            · exact h
            · rw [List.getElem?_eq_none h] at h3; cases h3
          have hjl : j < f.code.length := by
            rcases Nat.lt_or_ge j f.code.length with h | h
            · exact h
            · rw [List.getElem?_eq_none h] at h4; cases h4
          have hfe : st'.funcs[i] = f := by rw [List.getElem?_eq_getElem hil] at h3; exact Option.some.inj h3
          have hic : i < cs.length := by rw [hR2.len]; exact hil
          have hc := hR2.codes i hic hil
          rw [hfe] at hc
          obtain ⟨fa', fc', e9, hfr2⟩ := hR2.freads
          injection e9 with e91 _ e93
          subst e91
          subst e93
          obtain ⟨fg, off, rfl, hfgl, hcl⟩ : ∃ fg off, fa = some ⟨fg, off, none⟩ ∧ fg < w2.heap.size ∧ ∀ j, j < (frs st'.funcs cs).length → ∀ i v, (FR.enc (frs st'.funcs cs)[j]!)[i]? = some v → w2.cell? ⟨fg, off + j * 4 + i, none⟩ = some v := by
            rcases hfr2 with ⟨_, h⟩ | h
            · have h9 : (frs st'.funcs cs).length = st'.funcs.length := by simp [frs, hR2.len]
              rw [h] at h9
              simp at h9
              omega
            · exact h
          have hcc := hcl i (by simp [frs, hR2.len]; exact hil) 3 cs[i] (by
            have e8 : (frs st'.funcs cs)[i]! = Fun.row st'.funcs[i] cs[i] := by
              rw [getElem!_pos _ i (by simp [frs, hR2.len]; exact hil)]
              simp [frs]
            rw [e8]; rfl)
          obtain ⟨fcur, hfcur⟩ := own_tag hR2.fns (g := fg) rfl
          obtain ⟨cg, cc, hcv, cur, hcur⟩ : ∃ cg cc, cs[i] = .slice (some ⟨cg, 0, none⟩) f.code.length cc ∧ ∃ cur, w2.heap[cg]? = some (.cells cur 42 (0, 0)) := by
            rcases hc.2 with ⟨h, e⟩ | ⟨g', cap, cur, h, _, hh, _⟩
            · omega
            · exact ⟨g', cap, h, cur, hh⟩
          have hcb2 : f.code.length ≤ 1000000 := hcb' f (List.mem_of_getElem? h3)
          have RR := hide (hR2.setN i j cg f x hic h3 h4 (by rw [hcv]; rfl) fi)
          have fz := frozen_arr2 (i := j * 2 + 1) hcur
          have cz : w2.cell? ⟨cg, j * 2 + 1, none⟩ = some (.int .i64 x.2) := by
            have h8 := hc.cells (g := cg) (by rw [hcv]; rfl) (j * 2 + 1) (.int .i64 x.2) (insV_at h4)
            rwa [add_none, Nat.zero_add] at h8
          have nb : b ≠ cg := fun e => by
            have h8 := hR2.self
            rw [e] at h8
            exact tag_ne h8 (by decide) hcur
          have nu : wr.heap.size ≠ cg := fun e => by
            rw [e] at hh2
            exact tag_ne hh2 (by decide) hcur
          have nf : fg ≠ cg := fun e => by
            rw [e] at hfcur
            exact tag_ne hfcur (by decide) hcur
          rw [hcv] at hcc
          obtain ⟨cn, hcn⟩ : ∃ cn, cn = f.code.length := ⟨_, rfl⟩
          rw [← hcn] at hcc hjl hcb2
          have HS2 := hide (show (∀ g ∈ (st'.setN i j fi).funcs, g.code.length ≤ 1000000) ∧ (∀ u ∈ st.uses, UseOk (st'.setN i j fi).funcs u) from ⟨fun g hg => setN_code hcb' hg, fun u hu => (hok' u hu).main i j fi⟩)
          have hi1 : (i : Int) < (fl : Int) := by have := HFL.out; omega
          have hj1 : (j : Int) < (cn : Int) := by omega
          have hd1 : ¬ ((i : Int) < 0) := by omega
          clear HT hR2 hcl hfr2 hc hcv hcn h3 h4 hfe hu0 huk
          go_upto_region 10 with fail
          go_region_held3 (fun w' => w'.cell? ⟨b, 2, none⟩ = some (.slice (some ⟨fg, off, none⟩) fl fc) ∧ w'.cell? ⟨wr.heap.size, 2, none⟩ = some (.int .i64 (i : Int)) ∧ w'.cell? ⟨wr.heap.size, 3, none⟩ = some (.int .i64 (j : Int)) ∧ w'.cell? ⟨fg, off + i * 4 + 3, none⟩ = some (.slice (some ⟨cg, 0, none⟩) cn cc)) (first | exact ⟨z2, m2, m3, hcc⟩ | exact ⟨by simpa using z2, by simpa using m2, by simpa using m3, by simpa using hcc⟩ | exact ⟨far_cell nb z2, far_cell nu m2, far_cell nu m3, far_cell nf hcc⟩ | go_keep) (fail)
          go_wp2
          go_roundw
          case rel => exact ⟨(HB2.out.trans RR.out.2).drew, k + 1, by omega, by go_num, _, RR.out.1.keep (Below.refl _ _).drew, hu', by simp [St.setN, hfl'], HS2.out.1, HS2.out.2, HH.out⟩
          case measure => simp [intOf]; omega
    · have hkm : k = m := by omega
      have HH := hide (show tieL st.uses st = .ok st' by rw [htl, List.drop_of_length_le (by rw [← HM.out]; omega)]; rfl)
      have HR := hide hR'
      have hlt' : ¬ (k : Int) < (m : Int) := by omega
      clear hx htl hkm hR'
      go_wp2
      go_ret
      unfold Stood
      rw [HH.out]
      exact ⟨hbw.out, rfl, _, _, _, _, HR.out⟩
end Go.Proofs.YtfnloomcianbiaaGreatDoor
