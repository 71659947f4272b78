/- takeIns. -/
import Derived.Test.YtfnloomcianbiaaGreatDoorCodeA
import Derived.Deep.Cut
namespace Go.Proofs.YtfnloomcianbiaaGreatDoor
open Go.RowKit Go.ChangeShapes Go.WideShapes Go.ChangeAt Go.Deep

theorem frozen_arr {w : World} {b i : Nat} {cs : Array Value} {t : TypeId} (h : w.heap[b]? = some (.cells cs t (0, 0))) : w.frozen? ⟨b, i, none⟩ = false := by
  simp [World.frozen?, h]

theorem ins_spawn {word : ByteArray} {r : List ByteArray} {x : Int} (h : insL word r = some (16, x)) : ∃ nm, r = [nm] := by
  unfold insL at h
  cases ho : opOf word with
  | none => rw [ho] at h; cases h
  | some o =>
    rw [ho] at h
    simp only at h
    by_cases h16 : o = 16
    · rw [if_pos h16] at h
      split at h
      · rename_i hn
        match r, hn with
        | [nm], _ => exact ⟨nm, rfl⟩
      · cases h
    · rw [if_neg h16] at h
      split at h
      · split at h
        · simp only [Option.some.injEq, Prod.mk.injEq] at h
          omega
        · cases h
      · cases hq : oneNum (numsL r) with
        | none => rw [hq] at h; cases h
        | some v =>
          rw [hq] at h
          simp only [Option.map_some, Option.some.injEq, Prod.mk.injEq] at h
          omega

theorem keep_cell2 {w w0 : World} {g i : Nat} {u v1 v2 : Value} (h : w.cell? ⟨g, i, none⟩ = some u) (hg : g < w0.heap.size) : ((w.setCell ⟨w0.heap.size, 0, none⟩ v1).setCell ⟨w0.heap.size, 1, none⟩ v2).cell? ⟨g, i, none⟩ = some u := by
  rw [World.cell?_setCell_far _ _ _ _ (by simp; omega), World.cell?_setCell_far _ _ _ _ (by simp; omega)]
  exact h

set_option maxRecDepth 100000 in
set_option maxHeartbeats 8000000 in
set_option linter.unusedSimpArgs false in
theorem takeIns_any (B b : Nat) (fv av uv : Value) (cs : List Value) (st : St) (ws : List ByteArray) (g n : Nat) (hn : ws.length = n) (hbig : n ≤ 1000000) (hfb : st.funcs.length ≤ 1000000) (hub : st.uses.length ≤ 1000000) (hcb : ∀ f ∈ st.funcs, f.code.length ≤ 1000000) (hsz : ∀ s ∈ ws, s.size < 4294967281) (w : World) (hE : Env w) (hB : B ≤ w.heap.size) (hR : Rd B w b fv av uv cs st)
    (hw : w.heap[g]? = some (.cells (ws.map Value.string).toArray 9 (0, 0))) :
    Calls Tryz.prog 35 #[.pointer (some ⟨b, 0, none⟩), .slice (some ⟨g, 0, none⟩) n n] w (InsPost B b st ws w) := by
  obtain ⟨fa, fc, rfl, hfr⟩ := hR.freads
  obtain ⟨_, y1, y2, _, _, _, _, y7⟩ := hR.cells
  rcases List.eq_nil_or_concat st.funcs with hnil | ⟨fs, f, hfs⟩
  · have hl : st.funcs.length = 0 := by rw [hnil]; rfl
    rw [hl] at y2
    have HN := hide hnil
    clear hnil hl
    go_enter Tryz.func35, Tryz.ntmps35
    go_wp2
    go_ret
    exact ⟨_, rfl, .inr ⟨rfl, Below.refl _ _, .inr (.inl HN.out)⟩⟩
  · rw [List.concat_eq_append] at hfs
    obtain ⟨m, hm⟩ : ∃ m, m = fs.length := ⟨_, rfl⟩
    have hl : st.funcs.length = m + 1 := by rw [hfs, hm]; simp
    rw [hl] at y2 hfb
    have HM := hide hm
    have HL := hide hl
    have HF := hide hfs
    clear hm hl hfs
    by_cases h3 : n < 3
    · have HI : Hid (insLineL ws = none) := by
        refine Lib.hid ?_
        match ws, hn with
        | [], _ => rfl
        | [_], _ => rfl
        | [_, _], _ => rfl
        | _ :: _ :: _ :: _, hn => simp at hn; omega
      have h3' : (n : Int) < 3 := by omega
      have hm0 : ¬ ((m : Int) < 0) := by omega
      go_enter Tryz.func35, Tryz.ntmps35
      go_wp2
      go_ret
      exact ⟨_, rfl, .inr ⟨rfl, Below.refl _ _, .inl HI.out⟩⟩
    · obtain ⟨s0, s1, s2, r, rfl⟩ : ∃ s0 s1 s2 r, ws = s0 :: s1 :: s2 :: r := by
        match ws, hn with
        | [], hn => simp at hn; omega
        | [_], hn => simp at hn; omega
        | [_, _], hn => simp at hn; omega
        | a :: b :: c :: r, _ => exact ⟨a, b, c, r, rfl⟩
      obtain ⟨k, rfl⟩ : ∃ k, n = k + 3 := ⟨n - 3, by omega⟩
      have h3' : ¬ ((k : Int) + 3 < 3) := by omega
      have hm0 : ¬ ((m : Int) < 0) := by omega
      have hrk : r.length = k := by simpa using hn
      have hr := words_reads hw
      have hr3 : Reads w (some ⟨g, 3, none⟩) (r.map Value.string) := by
        have := reads_drop (k := 3) hr
        simpa using this
      have C := fun (wz : World) (hb : Below w.heap.size w wz) (a : Option Addr) (ha : a = some ⟨g, 3, none⟩ ∨ k = 0) => ins_any s2 r a k k hrk (by omega) (fun x hx => hsz x (by simp [hx])) wz (by
        rcases ha with rfl | rfl
        · exact hr3.below hb
        · exact .inl (by rw [List.eq_nil_of_length_eq_zero hrk]; rfl)) (hE.below hb)
      have c0 := cell_row (i := 0) hw rfl
      have c1 := cell_row (i := 1) hw rfl
      have c2 := cell_row (i := 2) hw rfl
      have e01 : (0 : Int) < (k : Int) + 3 := by omega
      have e11 : (1 : Int) < (k : Int) + 3 := by omega
      have e21 : (2 : Int) < (k : Int) + 3 := by omega
      have HI := hide (show insLineL (s0 :: s1 :: s2 :: r) = if s0.toList.isEmpty && s1.toList.isEmpty then (insL s2 r).map fun x => (x, r.headD ⟨#[]⟩) else none from rfl)
      have HW := hide hw
      cases q0 : s0.toList.isEmpty with
      | false =>
        rw [q0] at HI
        have HI := hide (show insLineL (s0 :: s1 :: s2 :: r) = none from HI.out)
        go_enter Tryz.func35, Tryz.ntmps35
        go_wp2
        go_ret
        exact ⟨_, rfl, .inr ⟨rfl, Below.refl _ _, .inl HI.out⟩⟩
      | true =>
        rw [q0] at HI
        cases q1 : s1.toList.isEmpty with
        | false =>
          rw [q1] at HI
          have HI := hide (show insLineL (s0 :: s1 :: s2 :: r) = none from HI.out)
          go_enter Tryz.func35, Tryz.ntmps35
          go_wp2
          go_ret
          exact ⟨_, rfl, .inr ⟨rfl, Below.refl _ _, .inl HI.out⟩⟩
        | true =>
          rw [q1] at HI
          have HI := hide (show insLineL (s0 :: s1 :: s2 :: r) = (insL s2 r).map fun x => (x, r.headD ⟨#[]⟩) from HI.out)
          obtain ⟨fg, ho0, rfl, hfg, hfc⟩ : ∃ fg ho0, fa = some ⟨fg, ho0, none⟩ ∧ fg < w.heap.size ∧ ∀ j, j < (frs st.funcs cs).length → ∀ i v, (FR.enc (frs st.funcs cs)[j]!)[i]? = some v → w.cell? ⟨fg, ho0 + j * 4 + i, none⟩ = some v := by
            rcases hfr with ⟨_, h⟩ | h
            · have h1 : (frs st.funcs cs).length = m + 1 := by simp [frs, hR.len, HL.out]
              rw [h] at h1; cases h1
            · exact h
          have hho : ho0 = 0 := by
            rcases hR.fns.2 with ⟨h, _⟩ | ⟨g', cap, cur, h, _⟩
            · cases h
            · cases h; rfl
          subst hho
          obtain ⟨cd, cl, hcs⟩ : ∃ cd cl, cs = cd ++ [cl] := by
            rcases List.eq_nil_or_concat cs with h | ⟨cd, cl, h⟩
            · have h1 := hR.len
              rw [h, HL.out] at h1; cases h1
            · exact ⟨cd, cl, by rw [h, List.concat_eq_append]⟩
          have hcdl : cd.length = fs.length := by
            have h1 := hR.len
            rw [hcs, HF.out] at h1
            simpa using h1
          have hcell : w.cell? ⟨fg, m * 4 + 3, none⟩ = some cl := by
            have h1 := hfc m (by simp [frs, hR.len, HL.out]) 3 cl (by
              rw [HF.out, hcs, HM.out]
              unfold frs
              rw [List.zipWith_append hcdl.symm]
              simp [Fun.row, FR.enc, hcdl])
            simpa using h1
          have hcode : w.ownsRow B 42 2 cl f.code.length (insV f.code) := by
            have h1 := hR.codes fs.length (by rw [hcs, ← hcdl]; simp) (by rw [HF.out]; simp)
            simp only [HF.out, hcs] at h1
            simpa [hcdl] using h1
          have hfm : f ∈ st.funcs := by rw [HF.out]; simp
          have hcn0 := hcb f hfm
          obtain ⟨cn, hcn⟩ : ∃ cn, cn = f.code.length := ⟨_, rfl⟩
          rw [← hcn] at hcode hcn0
          have HCN := hide hcn
          have HCS := hide hcs
          have HR := hide hR
          clear hcn hcs hfc hfr hR hcb hfm hcdl
          obtain ⟨ca, cc, rfl⟩ := own_any hcode
          rw [HL.out] at HR
          have hm1 : (m : Int) < (m : Int) + 1 := by omega
          go_enter Tryz.func35, Tryz.ntmps35
          go_upto_region 5 with fail
          go_cut [7, 8] from 9 (fun s7 s8 wx => ∃ (ib : Nat) (op x : Int) (ok : Bool), s7 = .pointer (some ⟨ib, 0, none⟩) ∧ s8 = .bool ok ∧ Hid (ok = true ∧ insL s2 r = some (op, x) ∨ ok = false ∧ insL s2 r = none) ∧ Hid (Box2 wx ib (.int .i64 op) (.int .i64 x)) ∧ Hid (Below w.heap.size w wx) ∧ w.heap.size ≤ ib)
          case first =>
            rcases Nat.eq_zero_or_pos k with hn0 | hn0
            all_goals
              first
                | (subst hn0; have C' := fun wz hb => C wz hb (some ⟨g, 0, none⟩) (Or.inr rfl))
                | (have hn1 : ¬ (k = 0) := (by omega); have hn3 : (3 : Int) ≤ (k : Int) + 3 := (by omega); have C' := fun wz hb => C wz hb (some ⟨g, 3, none⟩) (Or.inl rfl))
              clear C
              refine wp_region_noPanic ?_
              refine wp_region_held_drew (S := fun w' => w'.cell? ⟨g, 2, none⟩ = some (.string s2)) (by kernel_rfl) (by simpa using c2) (fun hHeld => ?_)
              refine takeD (i := 0) (d := some 43) (v := ?_) rfl rfl (by kernel_rfl) (by kernel_rfl) (by kernel_rfl) (fun _ _ _ h => h) (Or.inl ⟨by rfl, ?_⟩) (by assumption) ?_
              rotate_left
              · intro w hSw
                go_simp
                try (with_reducible rfl)
              try simp only [Act.put, List.setIfInBounds_toArray, List.set_cons_zero, List.set_cons_succ]
              refine takeD (i := 1) (d := some 44) (v := ?_) rfl rfl (by kernel_rfl) (by kernel_rfl) (by kernel_rfl) (fun _ _ _ h => h) (Or.inl ⟨by rfl, ?_⟩) (by assumption) ?_
              rotate_left
              · intro w hSw
                go_simp
                try (with_reducible rfl)
              try simp only [Act.put, List.setIfInBounds_toArray, List.set_cons_zero, List.set_cons_succ]
              refine takeD (i := 2) (d := some 45) (v := ?_) rfl rfl (by kernel_rfl) (by kernel_rfl) (by kernel_rfl) (fun _ _ _ h => h) (Or.inl ⟨by rfl, ?_⟩) (by assumption) ?_
              rotate_left
              · intro w hSw
                go_simp
                try (with_reducible rfl)
              try simp only [Act.put, List.setIfInBounds_toArray, List.set_cons_zero, List.set_cons_succ]
              refine takeD (i := 3) (d := some 46) (v := ?_) rfl rfl (by kernel_rfl) (by kernel_rfl) (by kernel_rfl) (fun _ _ _ h => h) (Or.inl ⟨by rfl, ?_⟩) (by assumption) ?_
              rotate_left
              · intro w hSw
                go_simp
                try (with_reducible rfl)
              try simp only [Act.put, List.setIfInBounds_toArray, List.set_cons_zero, List.set_cons_succ]
              refine takeD (i := 4) (d := some 47) (v := ?_) rfl rfl (by kernel_rfl) (by kernel_rfl) (by kernel_rfl) (fun _ _ _ h => h) (Or.inl ⟨by rfl, ?_⟩) (by assumption) ?_
              rotate_left
              · intro w hSw
                go_simp
                try (with_reducible rfl)
              try simp only [Act.put, List.setIfInBounds_toArray, List.set_cons_zero, List.set_cons_succ]
              refine wpAnyH_ready (rs := [5, 9]) (by kernel_rfl) (by simp) ?_
              refine AllReadyH.cons rfl (fun K hK => ?_) (AllReadyH.cons rfl (fun K hK => ?_) AllReadyH.nil)
              · go_simp
                refine (C' _ ((Below.refl _ _).drew)).mono ?_
                rintro e w1 ⟨op, x, ok, rfl, hI, hb1⟩
                go_wp2_with fail
                clear hHeld
                have hbd : Below w.heap.size w w1 := (((Below.refl _ _).drew)).trans (hb1.mono (by simp))
                refine hK.out _ _ (keep_cell c2 hbd) (fun hHeld => ?_)
                clear hK K
                try simp only [Act.put, List.setIfInBounds_toArray, List.set_cons_zero, List.set_cons_succ]
                refine takeD (i := 6) (d := some 42) (v := ?_) rfl rfl (by kernel_rfl) (by kernel_rfl) (by kernel_rfl) (fun _ _ _ h => h) (Or.inl ⟨by rfl, ?_⟩) (by assumption) ?_
                rotate_left
                · intro w hSw
                  go_simp
                  try (with_reducible rfl)
                try simp only [Act.put, List.setIfInBounds_toArray, List.set_cons_zero, List.set_cons_succ]
                refine takeD (i := 7) (d := some 49) (v := ?_) rfl rfl (by kernel_rfl) (by kernel_rfl) (by kernel_rfl) (fun _ _ _ h => h) (Or.inl ⟨by rfl, ?_⟩) (by assumption) ?_
                rotate_left
                · intro w hSw
                  go_simp
                  try (with_reducible rfl)
                try simp only [Act.put, List.setIfInBounds_toArray, List.set_cons_zero, List.set_cons_succ]
                refine takeD (i := 8) (d := some 50) (v := ?_) rfl rfl (by kernel_rfl) (by kernel_rfl) (by kernel_rfl) (fun _ _ _ h => h) (Or.inl ⟨by rfl, ?_⟩) (by assumption) ?_
                rotate_left
                · intro w hSw
                  go_simp
                  try (with_reducible rfl)
                try simp only [Act.put, List.setIfInBounds_toArray, List.set_cons_zero, List.set_cons_succ]
                refine wpAnyH_ready (rs := [9]) (by kernel_rfl) (by simp) ?_
                refine AllReadyH.cons rfl (fun K hK => ?_) AllReadyH.nil
                go_simp
                clear hHeld
                refine hK.out _ _ (keep_cell (keep_cell c2 hbd) (alloc_below w1 _)) (fun hHeld => ?_)
                clear hK K
                try simp only [Act.put, List.setIfInBounds_toArray, List.set_cons_zero, List.set_cons_succ]
                refine wpAnyH_ready (rs := [10]) (by kernel_rfl) (by simp) ?_
                refine AllReadyH.cons rfl (fun K hK => ?_) AllReadyH.nil
                go_simp
                clear hHeld
                refine hK.out _ _ (keep_cell (keep_cell c2 hbd) (alloc_below w1 _)) (fun hHeld => ?_)
                clear hK K
                try simp only [Act.put, List.setIfInBounds_toArray, List.set_cons_zero, List.set_cons_succ]
                refine takeD (i := 11) (d := some 8) (v := ?_) rfl rfl (by kernel_rfl) (by kernel_rfl) (by kernel_rfl) (fun _ _ _ h => h) (Or.inl ⟨by rfl, ?_⟩) (by assumption) ?_
                rotate_left
                · intro w hSw
                  go_simp
                  try (with_reducible rfl)
                try simp only [Act.put, List.setIfInBounds_toArray, List.set_cons_zero, List.set_cons_succ]
                refine wpAnyH_done (by kernel_rfl) ?_ _
                refine NoPanic.normal ?_
                go_wp2_with fail
                go_meet
                case rel => exact ⟨_, op, x, ok, rfl, rfl, hI, heap_alloc_new w1 _, hbd.trans ((alloc_below w1 _).mono hbd.size), hbd.size⟩
              · go_simp
                clear hHeld
                refine hK.out _ _ (keep_cell c2 (alloc_below w _).drew) (fun hHeld => ?_)
                clear hK K
                try simp only [Act.put, List.setIfInBounds_toArray, List.set_cons_zero, List.set_cons_succ]
                refine wpAnyH_ready (rs := [5]) (by kernel_rfl) (by simp) ?_
                refine AllReadyH.cons rfl (fun K hK => ?_) AllReadyH.nil
                go_simp
                refine (C' _ ((alloc_below w (.cells #[.int .i64 0, .int .i64 0] 42)).drew)).mono ?_
                rintro e w1 ⟨op, x, ok, rfl, hI, hb1⟩
                go_wp2_with fail
                clear hHeld
                have hbd : Below w.heap.size w w1 := (((alloc_below w (.cells #[.int .i64 0, .int .i64 0] 42)).drew)).trans (hb1.mono (by simp))
                refine hK.out _ _ (keep_cell c2 hbd) (fun hHeld => ?_)
                clear hK K
                try simp only [Act.put, List.setIfInBounds_toArray, List.set_cons_zero, List.set_cons_succ]
                refine takeD (i := 6) (d := some 42) (v := ?_) rfl rfl (by kernel_rfl) (by kernel_rfl) (by kernel_rfl) (fun _ _ _ h => h) (Or.inl ⟨by rfl, ?_⟩) (by assumption) ?_
                rotate_left
                · intro w hSw
                  go_simp
                  try (with_reducible rfl)
                try simp only [Act.put, List.setIfInBounds_toArray, List.set_cons_zero, List.set_cons_succ]
                refine takeD (i := 7) (d := some 49) (v := ?_) rfl rfl (by kernel_rfl) (by kernel_rfl) (by kernel_rfl) (fun _ _ _ h => h) (Or.inl ⟨by rfl, ?_⟩) (by assumption) ?_
                rotate_left
                · intro w hSw
                  go_simp
                  try (with_reducible rfl)
                try simp only [Act.put, List.setIfInBounds_toArray, List.set_cons_zero, List.set_cons_succ]
                refine takeD (i := 8) (d := some 50) (v := ?_) rfl rfl (by kernel_rfl) (by kernel_rfl) (by kernel_rfl) (fun _ _ _ h => h) (Or.inl ⟨by rfl, ?_⟩) (by assumption) ?_
                rotate_left
                · intro w hSw
                  go_simp
                  try (with_reducible rfl)
                try simp only [Act.put, List.setIfInBounds_toArray, List.set_cons_zero, List.set_cons_succ]
                have hbx : Box2 w1 w.heap.size (.int .i64 0) (.int .i64 0) := Box2.keep (w := (w.alloc (.cells #[.int .i64 0, .int .i64 0] 42))) (heap_alloc_new w _) (below_undrew hb1)
                obtain ⟨x0, x1, x2, x3, x4⟩ := hbx.facts
                refine wpAnyH_ready (rs := [10]) (by kernel_rfl) (by simp) ?_
                refine AllReadyH.cons rfl (fun K hK => ?_) AllReadyH.nil
                go_simp
                clear hHeld
                refine hK.out _ _ (keep_cell2 (keep_cell c2 hbd) (cell_some_lt c2)) (fun hHeld => ?_)
                clear hK K
                try simp only [Act.put, List.setIfInBounds_toArray, List.set_cons_zero, List.set_cons_succ]
                refine takeD (i := 11) (d := some 8) (v := ?_) rfl rfl (by kernel_rfl) (by kernel_rfl) (by kernel_rfl) (fun _ _ _ h => h) (Or.inl ⟨by rfl, ?_⟩) (by assumption) ?_
                rotate_left
                · intro w hSw
                  go_simp
                  try (with_reducible rfl)
                try simp only [Act.put, List.setIfInBounds_toArray, List.set_cons_zero, List.set_cons_succ]
                refine wpAnyH_done (by kernel_rfl) ?_ _
                refine NoPanic.normal ?_
                go_wp2_with fail
                go_meet
                case rel => exact ⟨_, op, x, ok, rfl, rfl, hI, hbx.set _ _, (hbd.setCell (p := ⟨w.heap.size, 0, none⟩) (Nat.le_refl _) _).setCell (p := ⟨w.heap.size, 1, none⟩) (Nat.le_refl _) _, Nat.le_refl _⟩
          case rest =>
            obtain ⟨ib, op, x, ok, rfl, rfl, hI, hbx, hbw, hibw⟩ := hcut
            have hRc := HR.out.keep hbw.out
            have kc := keep_cell hcell hbw.out
            have kcode := own_keep hcode hbw.out
            obtain ⟨x0, x1, x2, x3, x4⟩ := hbx.out.facts
            obtain ⟨_, z1, z2, _, _, _, _, z7⟩ := hRc.cells
            have hBc := hide (hbw.out.mono hB)
            have hBw : B ≤ wc.heap.size := Nat.le_trans hB hbw.out.size
            cases ok with
            | false =>
              have hIn := hide (show insLineL (s0 :: s1 :: s2 :: r) = none by
                rw [HI.out]
                rcases hI.out with ⟨h, _⟩ | ⟨_, h⟩
                · cases h
                · rw [h]; rfl)
              clear HI
              go_wp2
              go_ret
              exact ⟨_, rfl, .inr ⟨rfl, hbw.out, .inl hIn.out⟩⟩
            | true =>
              have hI' := hide (show insL s2 r = some (op, x) by
                rcases hI.out with ⟨_, h⟩ | ⟨h, _⟩
                · exact h
                · cases h)
              by_cases h256 : cn = 256
              · have h256' : ((cn : Int) == 256) = true := by simp [h256]
                have H256 := hide h256
                clear h256
                go_wp2
                go_ret
                exact ⟨_, rfl, .inr ⟨rfl, hbw.out, .inr (.inr ⟨fs, f, HF.out, by rw [← HCN.out]; exact H256.out⟩)⟩⟩
              · have h256' : ¬ (cn : Int) = 256 := by omega
                have hIn := hide (show insLineL (s0 :: s1 :: s2 :: r) = some ((op, x), r.headD ⟨#[]⟩) by rw [HI.out, hI'.out]; rfl)
                clear HI hI
                go_upto_if 63 with fail
                go_cut [] from 9 (fun wx => ∃ uv', Hid (Rd B wx b (.slice (some ⟨fg, 0, none⟩) (m + 1) fc) av uv' cs { st with uses := if op = 16 then st.uses ++ [⟨r.headD ⟨#[]⟩, st.line, (m : Int), (cn : Int)⟩] else st.uses }) ∧ Hid (Box2 wx ib (.int .i64 op) (.int .i64 x)) ∧ Hid (Below B w wx) ∧ wx.cell? ⟨fg, m * 4 + 3, none⟩ = some (.slice ca cn cc))
                case first =>
                  by_cases h16 : op = 16
                  · subst h16
                    obtain ⟨nm, hrn⟩ := ins_spawn hI'.out
                    subst hrn
                    have hk1 : k = 1 := by simpa using hrk.symm
                    subst hk1
                    have HWc : wc.heap[g]? = some (.cells ([s0, s1, s2, nm].map Value.string).toArray 9 (0, 0)) := by
                      rw [hbw.out.block g (lt_row HW.out)]; exact HW.out
                    have cg := cell_row (i := 3) HWc rfl
                    obtain ⟨i0, hi, hz0, hz1, hz2⟩ := info_parts Tryz.info78
                    have hou := hRc.uses
                    have hb7 := hRc.self
                    obtain ⟨fcur, hfcur⟩ := own_tag hRc.fns (g := fg) rfl
                    have hgb : g ≠ b := fun e => by
                      rw [e] at HWc
                      exact tag_ne HWc (by decide) hb7
                    have hfb' : fg ≠ b := fun e => by
                      rw [e] at hfcur
                      exact tag_ne hfcur (by decide) hb7
                    have hib : ib ≠ b := fun e => by
                      have h1 := hbx.out
                      unfold Box2 at h1
                      rw [e] at h1
                      exact tag_ne h1 (by decide) hb7
                    have HRc := hide hRc
                    clear hRc
                    go_upto_region 9 with fail
                    refine wp_region_noPanic ?_
                    refine wp_region_held_drew (S := fun w' => w'.cell? ⟨g, 3, none⟩ = some (.string nm) ∧ w'.cell? ⟨b, 1, none⟩ = some (.int .i64 st.line) ∧ w'.cell? ⟨fg, m * 4 + 3, none⟩ = some (.slice ca cn cc)) (by kernel_rfl) ⟨by simpa using cg, by simpa using z1, by simpa using kc⟩ (fun hHeld => ?_)
                    refine takeD (i := 0) (d := some 64) (v := ?_) rfl rfl (by kernel_rfl) (by kernel_rfl) (by kernel_rfl) (fun _ _ _ h => h) (Or.inl ⟨by rfl, ?_⟩) (by assumption) ?_
                    rotate_left
                    · intro w hSw
                      go_simp
                      try (with_reducible rfl)
                    try simp only [Act.put, List.setIfInBounds_toArray, List.set_cons_zero, List.set_cons_succ]
                    refine takeD (i := 1) (d := some 65) (v := ?_) rfl rfl (by kernel_rfl) (by kernel_rfl) (by kernel_rfl) (fun _ _ _ h => h) (Or.inl ⟨by rfl, ?_⟩) (by assumption) ?_
                    rotate_left
                    · intro w hSw
                      go_simp
                      try (with_reducible rfl)
                    try simp only [Act.put, List.setIfInBounds_toArray, List.set_cons_zero, List.set_cons_succ]
                    refine takeD (i := 2) (d := some 66) (v := ?_) rfl rfl (by kernel_rfl) (by kernel_rfl) (by kernel_rfl) (fun _ _ _ h => h) (Or.inl ⟨by rfl, ?_⟩) (by assumption) ?_
                    rotate_left
                    · intro w hSw
                      go_simp
                      try (with_reducible rfl)
                    try simp only [Act.put, List.setIfInBounds_toArray, List.set_cons_zero, List.set_cons_succ]
                    refine takeD (i := 3) (d := some 67) (v := ?_) rfl rfl (by kernel_rfl) (by kernel_rfl) (by kernel_rfl) (fun _ _ _ h => h) (Or.inl ⟨by rfl, ?_⟩) (by assumption) ?_
                    rotate_left
                    · intro w hSw
                      go_simp
                      try (with_reducible rfl)
                    try simp only [Act.put, List.setIfInBounds_toArray, List.set_cons_zero, List.set_cons_succ]
                    refine takeD (i := 5) (d := some 69) (v := ?_) rfl rfl (by kernel_rfl) (by kernel_rfl) (by kernel_rfl) (fun _ _ _ h => h) (Or.inl ⟨by rfl, ?_⟩) (by assumption) ?_
                    rotate_left
                    · intro w hSw
                      go_simp
                      try (with_reducible rfl)
                    try simp only [Act.put, List.setIfInBounds_toArray, List.set_cons_zero, List.set_cons_succ]
                    refine takeD (i := 6) (d := some 70) (v := ?_) rfl rfl (by kernel_rfl) (by kernel_rfl) (by kernel_rfl) (fun _ _ _ h => h) (Or.inl ⟨by rfl, ?_⟩) (by assumption) ?_
                    rotate_left
                    · intro w hSw
                      go_simp
                      try (with_reducible rfl)
                    try simp only [Act.put, List.setIfInBounds_toArray, List.set_cons_zero, List.set_cons_succ]
                    refine takeD (i := 7) (d := some 71) (v := ?_) rfl rfl (by kernel_rfl) (by kernel_rfl) (by kernel_rfl) (fun _ _ _ h => h) (Or.inl ⟨by rfl, ?_⟩) (by assumption) ?_
                    rotate_left
                    · intro w hSw
                      go_simp
                      try (with_reducible rfl)
                    try simp only [Act.put, List.setIfInBounds_toArray, List.set_cons_zero, List.set_cons_succ]
                    refine takeD (i := 8) (d := some 72) (v := ?_) rfl rfl (by kernel_rfl) (by kernel_rfl) (by kernel_rfl) (fun _ _ _ h => h) (Or.inl ⟨by rfl, ?_⟩) (by assumption) ?_
                    rotate_left
                    · intro w hSw
                      go_simp
                      try (with_reducible rfl)
                    try simp only [Act.put, List.setIfInBounds_toArray, List.set_cons_zero, List.set_cons_succ]
                    refine takeD (i := 9) (d := some 73) (v := ?_) rfl rfl (by kernel_rfl) (by kernel_rfl) (by kernel_rfl) (fun _ _ _ h => h) (Or.inl ⟨by rfl, ?_⟩) (by assumption) ?_
                    rotate_left
                    · intro w hSw
                      go_simp
                      try (with_reducible rfl)
                    try simp only [Act.put, List.setIfInBounds_toArray, List.set_cons_zero, List.set_cons_succ]
                    refine takeD (i := 10) (d := some 74) (v := ?_) rfl rfl (by kernel_rfl) (by kernel_rfl) (by kernel_rfl) (fun _ _ _ h => h) (Or.inl ⟨by rfl, ?_⟩) (by assumption) ?_
                    rotate_left
                    · intro w hSw
                      go_simp
                      try (with_reducible rfl)
                    try simp only [Act.put, List.setIfInBounds_toArray, List.set_cons_zero, List.set_cons_succ]
                    refine takeD (i := 11) (d := some 75) (v := ?_) rfl rfl (by kernel_rfl) (by kernel_rfl) (by kernel_rfl) (fun _ _ _ h => h) (Or.inl ⟨by rfl, ?_⟩) (by assumption) ?_
                    rotate_left
                    · intro w hSw
                      go_simp
                      try (with_reducible rfl)
                    try simp only [Act.put, List.setIfInBounds_toArray, List.set_cons_zero, List.set_cons_succ]
                    refine takeD (i := 12) (d := some 76) (v := ?_) rfl rfl (by kernel_rfl) (by kernel_rfl) (by kernel_rfl) (fun _ _ _ h => h) (Or.inl ⟨by rfl, ?_⟩) (by assumption) ?_
                    rotate_left
                    · intro w hSw
                      go_simp
                      try (with_reducible rfl)
                    try simp only [Act.put, List.setIfInBounds_toArray, List.set_cons_zero, List.set_cons_succ]
                    refine takeD (i := 13) (d := some 77) (v := ?_) rfl rfl (by kernel_rfl) (by kernel_rfl) (by kernel_rfl) (fun _ _ _ h => h) (Or.inl ⟨by rfl, ?_⟩) (by assumption) ?_
                    rotate_left
                    · intro w hSw
                      go_simp
                      try (with_reducible rfl)
                    try simp only [Act.put, List.setIfInBounds_toArray, List.set_cons_zero, List.set_cons_succ]
                    refine takeD (i := 14) (d := some 78) (v := ?_) rfl rfl (by kernel_rfl) (by kernel_rfl) (by kernel_rfl) (fun _ _ _ h => h) (Or.inl ⟨by rfl, ?_⟩) (by assumption) ?_
                    rotate_left
                    · intro w hSw
                      go_simp
                      try (with_reducible rfl)
                    try simp only [Act.put, List.setIfInBounds_toArray, List.set_cons_zero, List.set_cons_succ]
                    refine takeD (i := 15) (d := some 79) (v := ?_) rfl rfl (by kernel_rfl) (by kernel_rfl) (by kernel_rfl) (fun _ _ _ h => h) (Or.inl ⟨by rfl, ?_⟩) (by assumption) ?_
                    rotate_left
                    · intro w hSw
                      go_simp
                      try (with_reducible rfl)
                    try simp only [Act.put, List.setIfInBounds_toArray, List.set_cons_zero, List.set_cons_succ]
                    refine takeD (i := 16) (d := some 80) (v := ?_) rfl rfl (by kernel_rfl) (by kernel_rfl) (by kernel_rfl) (fun _ _ _ h => h) (Or.inl ⟨by rfl, ?_⟩) (by assumption) ?_
                    rotate_left
                    · intro w hSw
                      go_simp
                      try (with_reducible rfl)
                    try simp only [Act.put, List.setIfInBounds_toArray, List.set_cons_zero, List.set_cons_succ]
                    refine takeD (i := 17) (d := some 81) (v := ?_) rfl rfl (by kernel_rfl) (by kernel_rfl) (by kernel_rfl) (fun _ _ _ h => h) (Or.inl ⟨by rfl, ?_⟩) (by assumption) ?_
                    rotate_left
                    · intro w hSw
                      go_simp
                      try (with_reducible rfl)
                    try simp only [Act.put, List.setIfInBounds_toArray, List.set_cons_zero, List.set_cons_succ]
                    refine takeD (i := 18) (d := some 82) (v := ?_) rfl rfl (by kernel_rfl) (by kernel_rfl) (by kernel_rfl) (fun _ _ _ h => h) (Or.inl ⟨by rfl, ?_⟩) (by assumption) ?_
                    rotate_left
                    · intro w hSw
                      go_simp
                      try (with_reducible rfl)
                    try simp only [Act.put, List.setIfInBounds_toArray, List.set_cons_zero, List.set_cons_succ]
                    refine takeD (i := 19) (d := some 83) (v := ?_) rfl rfl (by kernel_rfl) (by kernel_rfl) (by kernel_rfl) (fun _ _ _ h => h) (Or.inl ⟨by rfl, ?_⟩) (by assumption) ?_
                    rotate_left
                    · intro w hSw
                      go_simp
                      try (with_reducible rfl)
                    try simp only [Act.put, List.setIfInBounds_toArray, List.set_cons_zero, List.set_cons_succ]
                    refine wpAnyH_ready (rs := [4, 20]) (by kernel_rfl) (by simp) ?_
                    refine AllReadyH.cons rfl (fun K hK => ?_) (AllReadyH.cons rfl (fun K hK => ?_) AllReadyH.nil)
                    · go_simp
                      refine hK.out _ _ hHeld (fun hHeld => ?_)
                      clear hK K
                      try simp only [Act.put, List.setIfInBounds_toArray, List.set_cons_zero, List.set_cons_succ]
                      refine wpAnyH_ready (rs := [20]) (by kernel_rfl) (by simp) ?_
                      refine AllReadyH.cons rfl (fun K hK => ?_) AllReadyH.nil
                      go_simp
                      clear hHeld
                      refine hK.out _ _ ⟨by simp [World.cell?_alloc_some, cg], by simp [World.cell?_alloc_some, z1], by simp [World.cell?_alloc_some, kc]⟩ (fun hHeld => ?_)
                      clear hK K
                      try simp only [Act.put, List.setIfInBounds_toArray, List.set_cons_zero, List.set_cons_succ]
                      refine wpAnyH_ready (rs := [21]) (by kernel_rfl) (by simp) ?_
                      refine AllReadyH.cons rfl (fun K hK => ?_) AllReadyH.nil
                      rw [if_pos (by rfl)]
                      refine wp_append_own _ (.tmp 68) (.tmp 84) 52 rfl B 78 i0 (.agg #[.string ⟨#[]⟩, .int .i64 0, .int .i64 0, .int .i64 0]) 4 40 Tryz.underlying52 hi hz0 hz1 hz2 rfl (by decide) uv st.uses.length (useV st.uses) rfl (by exact hou.alloc _) ⟨wc.heap.size, 0, none⟩ 1 1 [.string nm, .int .i64 st.line, .int .i64 (m : Int), .int .i64 (cn : Int)] (by rfl) rfl (by exact cells_new wc _ 78) (by simp [Value.oneCell']) (by unfold maxLen; omega) (by omega) (by simp; omega) ?_
                      intro v3 w3 ho3 hg3 _
                      have hb73 : w3.heap[b]? = _ := grown_heap hg3 (own_keep hou ((alloc_below wc (.cells #[.string nm, .int .i64 st.line, .int .i64 (m : Int), .int .i64 (cn : Int)] 78)).drew)) (by rw [((alloc_below wc (.cells #[.string nm, .int .i64 st.line, .int .i64 (m : Int), .int .i64 (cn : Int)] 78)).drew).block b (lt_row hb7)]; exact hb7) (by decide)
                      have k73 := cell_row (i := 7) hb73 rfl
                      have f73 := frozen_row (i := 7) hb73
                      obtain ⟨a3, c3, rfl⟩ := own_any ho3
                      clear hHeld
                      refine hK.out _ _ ⟨cell_grown' ((alloc_below wc (.cells #[.string nm, .int .i64 st.line, .int .i64 (m : Int), .int .i64 (cn : Int)] 78)).drew) hg3 hou cg HWc (by decide), cell_grown' ((alloc_below wc (.cells #[.string nm, .int .i64 st.line, .int .i64 (m : Int), .int .i64 (cn : Int)] 78)).drew) hg3 hou z1 hb7 (by decide), cell_grown' ((alloc_below wc (.cells #[.string nm, .int .i64 st.line, .int .i64 (m : Int), .int .i64 (cn : Int)] 78)).drew) hg3 hou kc hfcur (by decide)⟩ (fun hHeld => ?_)
                      clear hK K
                      try simp only [Act.put, List.setIfInBounds_toArray, List.set_cons_zero, List.set_cons_succ]
                      refine takeD (i := 22) (d := some 86) (v := ?_) rfl rfl (by kernel_rfl) (by kernel_rfl) (by kernel_rfl) (fun _ _ _ h => h) (Or.inl ⟨by rfl, ?_⟩) (by assumption) ?_
                      rotate_left
                      · intro w hSw
                        go_simp
                        try (with_reducible rfl)
                      try simp only [Act.put, List.setIfInBounds_toArray, List.set_cons_zero, List.set_cons_succ]
                      refine takeD (i := 23) (d := some 87) (v := ?_) rfl rfl (by kernel_rfl) (by kernel_rfl) (by kernel_rfl) (fun _ _ _ h => h) (Or.inl ⟨by rfl, ?_⟩) (by assumption) ?_
                      rotate_left
                      · intro w hSw
                        go_simp
                        try (with_reducible rfl)
                      try simp only [Act.put, List.setIfInBounds_toArray, List.set_cons_zero, List.set_cons_succ]
                      refine wpAnyH_ready (rs := [24]) (by kernel_rfl) (by simp) ?_
                      refine AllReadyH.cons rfl (fun K hK => ?_) AllReadyH.nil
                      go_simp
                      refine hK.out _ _ ⟨by rw [World.cell?_setCell_far _ _ _ _ (by simpa using hgb.symm)]; exact hHeld.1, cell_row (set_row (i := 7) hb73 _) rfl, by rw [World.cell?_setCell_far _ _ _ _ (by simpa using hfb'.symm)]; exact hHeld.2.2⟩ (fun hHeld => ?_)
                      clear hK K
                      try simp only [Act.put, List.setIfInBounds_toArray, List.set_cons_zero, List.set_cons_succ]
                      refine wpAnyH_done (by kernel_rfl) ?_ _
                      refine NoPanic.normal ?_
                      have R := HRc.out.use ⟨nm, st.line, (m : Int), (cn : Int)⟩ ((alloc_below wc (.cells #[.string nm, .int .i64 st.line, .int .i64 (m : Int), .int .i64 (cn : Int)] 78)).drew) hBw ho3 hg3
                      have kx3 := cell_grown' ((alloc_below wc (.cells #[.string nm, .int .i64 st.line, .int .i64 (m : Int), .int .i64 (cn : Int)] 78)).drew) hg3 hou kc hfcur (by decide)
                      have hbx3 : Box2 w3 ib (.int .i64 16) (.int .i64 x) := grown_heap hg3 (own_keep hou ((alloc_below wc (.cells #[.string nm, .int .i64 st.line, .int .i64 (m : Int), .int .i64 (cn : Int)] 78)).drew)) (by have := hbx.out; unfold Box2 at this; rw [((alloc_below wc (.cells #[.string nm, .int .i64 st.line, .int .i64 (m : Int), .int .i64 (cn : Int)] 78)).drew).block ib (lt_row this)]; exact this) (by decide)
                      go_wp2_with fail
                      go_meet
                      case rel =>
                        refine ⟨.slice a3 (st.uses.length + 1) c3, ?_, ?_, hBc.out.trans R.2, ?_⟩
                        · refine Lib.hid ?_; simpa using R.1
                        · unfold Box2; rw [Below.heap_setCell _ _ _ _ (by simpa using hib)]; exact hbx3
                        · rw [World.cell?_setCell_far _ _ _ _ (by simpa using hfb'.symm)]; exact kx3
                    · go_simp
                      clear hHeld
                      refine hK.out _ _ ⟨by simp [World.cell?_alloc_some, cg], by simp [World.cell?_alloc_some, z1], by simp [World.cell?_alloc_some, kc]⟩ (fun hHeld => ?_)
                      clear hK K
                      try simp only [Act.put, List.setIfInBounds_toArray, List.set_cons_zero, List.set_cons_succ]
                      have k7a := keep_cell z7 (alloc_below wc (.cells #[.string nm, .int .i64 st.line, .int .i64 (m : Int), .int .i64 (cn : Int)] 78))
                      refine wpAnyH_ready (rs := [4]) (by kernel_rfl) (by simp) ?_
                      refine AllReadyH.cons rfl (fun K hK => ?_) AllReadyH.nil
                      go_simp
                      refine hK.out _ _ hHeld (fun hHeld => ?_)
                      clear hK K
                      try simp only [Act.put, List.setIfInBounds_toArray, List.set_cons_zero, List.set_cons_succ]
                      refine wpAnyH_ready (rs := [21]) (by kernel_rfl) (by simp) ?_
                      refine AllReadyH.cons rfl (fun K hK => ?_) AllReadyH.nil
                      rw [if_pos (by rfl)]
                      refine wp_append_own _ (.tmp 68) (.tmp 84) 52 rfl B 78 i0 (.agg #[.string ⟨#[]⟩, .int .i64 0, .int .i64 0, .int .i64 0]) 4 40 Tryz.underlying52 hi hz0 hz1 hz2 rfl (by decide) uv st.uses.length (useV st.uses) rfl (by exact hou.alloc _) ⟨wc.heap.size, 0, none⟩ 1 1 [.string nm, .int .i64 st.line, .int .i64 (m : Int), .int .i64 (cn : Int)] (by rfl) rfl (by exact cells_new wc _ 78) (by simp [Value.oneCell']) (by unfold maxLen; omega) (by omega) (by simp; omega) ?_
                      intro v3 w3 ho3 hg3 _
                      have hb73 : w3.heap[b]? = _ := grown_heap hg3 (own_keep hou ((alloc_below wc (.cells #[.string nm, .int .i64 st.line, .int .i64 (m : Int), .int .i64 (cn : Int)] 78)).drew)) (by rw [((alloc_below wc (.cells #[.string nm, .int .i64 st.line, .int .i64 (m : Int), .int .i64 (cn : Int)] 78)).drew).block b (lt_row hb7)]; exact hb7) (by decide)
                      have k73 := cell_row (i := 7) hb73 rfl
                      have f73 := frozen_row (i := 7) hb73
                      obtain ⟨a3, c3, rfl⟩ := own_any ho3
                      clear hHeld
                      refine hK.out _ _ ⟨cell_grown' ((alloc_below wc (.cells #[.string nm, .int .i64 st.line, .int .i64 (m : Int), .int .i64 (cn : Int)] 78)).drew) hg3 hou cg HWc (by decide), cell_grown' ((alloc_below wc (.cells #[.string nm, .int .i64 st.line, .int .i64 (m : Int), .int .i64 (cn : Int)] 78)).drew) hg3 hou z1 hb7 (by decide), cell_grown' ((alloc_below wc (.cells #[.string nm, .int .i64 st.line, .int .i64 (m : Int), .int .i64 (cn : Int)] 78)).drew) hg3 hou kc hfcur (by decide)⟩ (fun hHeld => ?_)
                      clear hK K
                      try simp only [Act.put, List.setIfInBounds_toArray, List.set_cons_zero, List.set_cons_succ]
                      refine takeD (i := 22) (d := some 86) (v := ?_) rfl rfl (by kernel_rfl) (by kernel_rfl) (by kernel_rfl) (fun _ _ _ h => h) (Or.inl ⟨by rfl, ?_⟩) (by assumption) ?_
                      rotate_left
                      · intro w hSw
                        go_simp
                        try (with_reducible rfl)
                      try simp only [Act.put, List.setIfInBounds_toArray, List.set_cons_zero, List.set_cons_succ]
                      refine takeD (i := 23) (d := some 87) (v := ?_) rfl rfl (by kernel_rfl) (by kernel_rfl) (by kernel_rfl) (fun _ _ _ h => h) (Or.inl ⟨by rfl, ?_⟩) (by assumption) ?_
                      rotate_left
                      · intro w hSw
                        go_simp
                        try (with_reducible rfl)
                      try simp only [Act.put, List.setIfInBounds_toArray, List.set_cons_zero, List.set_cons_succ]
                      refine wpAnyH_ready (rs := [24]) (by kernel_rfl) (by simp) ?_
                      refine AllReadyH.cons rfl (fun K hK => ?_) AllReadyH.nil
                      go_simp
                      refine hK.out _ _ ⟨by rw [World.cell?_setCell_far _ _ _ _ (by simpa using hgb.symm)]; exact hHeld.1, cell_row (set_row (i := 7) hb73 _) rfl, by rw [World.cell?_setCell_far _ _ _ _ (by simpa using hfb'.symm)]; exact hHeld.2.2⟩ (fun hHeld => ?_)
                      clear hK K
                      try simp only [Act.put, List.setIfInBounds_toArray, List.set_cons_zero, List.set_cons_succ]
                      refine wpAnyH_done (by kernel_rfl) ?_ _
                      refine NoPanic.normal ?_
                      have R := HRc.out.use ⟨nm, st.line, (m : Int), (cn : Int)⟩ ((alloc_below wc (.cells #[.string nm, .int .i64 st.line, .int .i64 (m : Int), .int .i64 (cn : Int)] 78)).drew) hBw ho3 hg3
                      have kx3 := cell_grown' ((alloc_below wc (.cells #[.string nm, .int .i64 st.line, .int .i64 (m : Int), .int .i64 (cn : Int)] 78)).drew) hg3 hou kc hfcur (by decide)
                      have hbx3 : Box2 w3 ib (.int .i64 16) (.int .i64 x) := grown_heap hg3 (own_keep hou ((alloc_below wc (.cells #[.string nm, .int .i64 st.line, .int .i64 (m : Int), .int .i64 (cn : Int)] 78)).drew)) (by have := hbx.out; unfold Box2 at this; rw [((alloc_below wc (.cells #[.string nm, .int .i64 st.line, .int .i64 (m : Int), .int .i64 (cn : Int)] 78)).drew).block ib (lt_row this)]; exact this) (by decide)
                      go_wp2_with fail
                      go_meet
                      case rel =>
                        refine ⟨.slice a3 (st.uses.length + 1) c3, ?_, ?_, hBc.out.trans R.2, ?_⟩
                        · refine Lib.hid ?_; simpa using R.1
                        · unfold Box2; rw [Below.heap_setCell _ _ _ _ (by simpa using hib)]; exact hbx3
                        · rw [World.cell?_setCell_far _ _ _ _ (by simpa using hfb'.symm)]; exact kx3
                  · go_wp2_with fail
                    go_meet
                    case rel => exact ⟨uv, by rw [if_neg h16]; exact hRc, hbx, hBc.out, kc⟩
                case rest =>
                  obtain ⟨uv', hRx, hbx', hBx, kx⟩ := hcut
                  obtain ⟨v0, v1, v2, v3, v4⟩ := hbx'.out.facts
                  have hcdl : cd.length = fs.length := by
                    have h1 := hRx.out.len
                    rw [HCS.out] at h1
                    have h2 : (cd ++ [Value.slice ca cn cc]).length = (fs ++ [f]).length := by rw [← HF.out]; exact h1
                    simpa using h2
                  have kcode2 : wc.ownsRow B 42 2 (.slice ca cn cc) cn (insV f.code) := by
                    have h1 := hRx.out.codes fs.length (by rw [HCS.out, ← hcdl]; simp) (by show fs.length < st.funcs.length; rw [HF.out]; simp)
                    simp only [HF.out, HCS.out] at h1
                    have h2 : wc.ownsRow B 42 2 (.slice ca cn cc) f.code.length (insV f.code) := by simpa [hcdl] using h1
                    rw [← HCN.out] at h2
                    exact h2
                  obtain ⟨fcur, hfcur⟩ := own_tag hRx.out.fns (g := fg) rfl
                  have hBw2 : B ≤ wc.heap.size := Nat.le_trans hB (hBx.out.size)
                  obtain ⟨q0, hq0, hq1, hq2, hq3⟩ : ∃ q0, wc.ownsRow q0 42 2 (.slice ca cn cc) cn (insV f.code) ∧ q0 ≤ wc.heap.size + 1 ∧ B ≤ q0 ∧ ∀ q, q0 ≤ q → wc.heap.size + 1 ≤ q ∨ ∃ p, (Value.slice ca cn cc).ownBlock = some p ∧ p ≤ q := by
                    rcases kcode2.2 with ⟨h1, h2⟩ | ⟨g', cap, cur, h1, h2, h3, h4⟩
                    · exact ⟨wc.heap.size + 1, ⟨kcode2.1, .inl ⟨h1, h2⟩⟩, Nat.le_refl _, Nat.le_succ_of_le hBw2, fun q hq => .inl hq⟩
                    · exact ⟨g', ⟨kcode2.1, .inr ⟨g', cap, cur, h1, Nat.le_refl _, h3, h4⟩⟩, Nat.le_succ_of_le (Nat.le_of_lt (lt_row h3)), h2, fun q hq => .inr ⟨g', by rw [h1]; rfl, hq⟩⟩
                  have hne : some ib ≠ (Value.slice ca cn cc).ownBlock := fun e => by
                    have h1 := (hcode.lt ib e.symm).2
                    omega
                  have hibf : ib ≠ fg := fun e => by
                    have h1 := hbx'.out
                    unfold Box2 at h1
                    rw [e] at h1
                    exact tag_ne h1 (by decide) hfcur
                  obtain ⟨i0, hi, hz0, hz1, hz2⟩ := info_parts Tryz.info42
                  have hff := frozen_arr (i := m * 4 + 3) hfcur
                  clear hcdl
                  go_upto_region 10 with fail
                  refine wp_region_noPanic ?_
                  refine wp_region_held_drew (S := fun w' => w'.cell? ⟨ib, 0, none⟩ = some (.int .i64 op) ∧ w'.cell? ⟨ib, 1, none⟩ = some (.int .i64 x)) (by kernel_rfl) ⟨by simpa using v1, by simpa using v2⟩ (fun hHeld => ?_)
                  refine takeD (i := 0) (d := some 88) (v := ?_) rfl rfl (by kernel_rfl) (by kernel_rfl) (by kernel_rfl) (fun _ _ _ h => h) (Or.inl ⟨by rfl, ?_⟩) (by assumption) ?_
                  rotate_left
                  · intro w hSw
                    go_simp
                    try (with_reducible rfl)
                  try simp only [Act.put, List.setIfInBounds_toArray, List.set_cons_zero, List.set_cons_succ]
                  refine takeD (i := 1) (d := some 89) (v := ?_) rfl rfl (by kernel_rfl) (by kernel_rfl) (by kernel_rfl) (fun _ _ _ h => h) (Or.inl ⟨by rfl, ?_⟩) (by assumption) ?_
                  rotate_left
                  · intro w hSw
                    go_simp
                    try (with_reducible rfl)
                  try simp only [Act.put, List.setIfInBounds_toArray, List.set_cons_zero, List.set_cons_succ]
                  refine takeD (i := 2) (d := some 90) (v := ?_) rfl rfl (by kernel_rfl) (by kernel_rfl) (by kernel_rfl) (fun _ _ _ h => h) (Or.inl ⟨by rfl, ?_⟩) (by assumption) ?_
                  rotate_left
                  · intro w hSw
                    go_simp
                    try (with_reducible rfl)
                  try simp only [Act.put, List.setIfInBounds_toArray, List.set_cons_zero, List.set_cons_succ]
                  refine takeD (i := 3) (d := some 91) (v := ?_) rfl rfl (by kernel_rfl) (by kernel_rfl) (by kernel_rfl) (fun _ _ _ h => h) (Or.inl ⟨by rfl, ?_⟩) (by assumption) ?_
                  rotate_left
                  · intro w hSw
                    go_simp
                    try (with_reducible rfl)
                  try simp only [Act.put, List.setIfInBounds_toArray, List.set_cons_zero, List.set_cons_succ]
                  refine takeD (i := 5) (d := some 93) (v := ?_) rfl rfl (by kernel_rfl) (by kernel_rfl) (by kernel_rfl) (fun _ _ _ h => h) (Or.inl ⟨by rfl, ?_⟩) (by assumption) ?_
                  rotate_left
                  · intro w hSw
                    go_simp
                    try (with_reducible rfl)
                  try simp only [Act.put, List.setIfInBounds_toArray, List.set_cons_zero, List.set_cons_succ]
                  refine wpAnyH_ready (rs := [4, 6]) (by kernel_rfl) (by simp) ?_
                  refine AllReadyH.cons rfl (fun K hK => ?_) (AllReadyH.cons rfl (fun K hK => ?_) AllReadyH.nil)
                  · go_simp
                    refine hK.out _ _ hHeld (fun hHeld => ?_)
                    clear hK K
                    try simp only [Act.put, List.setIfInBounds_toArray, List.set_cons_zero, List.set_cons_succ]
                    refine wpAnyH_ready (rs := [6]) (by kernel_rfl) (by simp) ?_
                    refine AllReadyH.cons rfl (fun K hK => ?_) AllReadyH.nil
                    go_simp
                    clear hHeld
                    refine hK.out _ _ ⟨by simp [World.cell?_alloc_some, v1], by simp [World.cell?_alloc_some, v2]⟩ (fun hHeld => ?_)
                    clear hK K
                    try simp only [Act.put, List.setIfInBounds_toArray, List.set_cons_zero, List.set_cons_succ]
                    refine wpAnyH_ready (rs := [7]) (by kernel_rfl) (by simp) ?_
                    refine AllReadyH.cons rfl (fun K hK => ?_) AllReadyH.nil
                    rw [if_pos (by rfl)]
                    refine wp_append_own _ (.tmp 92) (.tmp 94) 43 rfl q0 42 i0 (.agg #[.int .i64 0, .int .i64 0]) 2 16 Tryz.underlying43 hi hz0 hz1 hz2 rfl (by decide) (.slice ca cn cc) cn (insV f.code) rfl (by exact hq0.alloc _) ⟨wc.heap.size, 0, none⟩ 1 1 [.int .i64 op, .int .i64 x] (by rfl) rfl (by exact cells_new wc _ 42) (by simp [Value.oneCell']) (by unfold maxLen; omega) (by omega) (by simp; omega) ?_
                    intro v3 w3 ho3 hg3 _
                    have hf73 := grown_heap hg3 (own_keep kcode2 ((alloc_below wc (.cells #[.int .i64 op, .int .i64 x] 42)).drew)) (by rw [((alloc_below wc (.cells #[.int .i64 op, .int .i64 x] 42)).drew).block fg (lt_row hfcur)]; exact hfcur) (by decide)
                    have k73 := cell_grown' ((alloc_below wc (.cells #[.int .i64 op, .int .i64 x] 42)).drew) hg3 kcode2 kx hfcur (by decide)
                    have f73 := frozen_arr (i := m * 4 + 3) hf73
                    obtain ⟨a3, c3, rfl⟩ := own_any ho3
                    clear hHeld
                    refine hK.out _ _ ⟨hg3.cell (keep_cell v1 ((alloc_below wc (.cells #[.int .i64 op, .int .i64 x] 42)).drew)) hne, hg3.cell (keep_cell v2 ((alloc_below wc (.cells #[.int .i64 op, .int .i64 x] 42)).drew)) hne⟩ (fun hHeld => ?_)
                    clear hK K
                    try simp only [Act.put, List.setIfInBounds_toArray, List.set_cons_zero, List.set_cons_succ]
                    refine takeD (i := 8) (d := some 96) (v := ?_) rfl rfl (by kernel_rfl) (by kernel_rfl) (by kernel_rfl) (fun _ _ _ h => h) (Or.inl ⟨by rfl, ?_⟩) (by assumption) ?_
                    rotate_left
                    · intro w hSw
                      go_simp
                      try (with_reducible rfl)
                    try simp only [Act.put, List.setIfInBounds_toArray, List.set_cons_zero, List.set_cons_succ]
                    refine takeD (i := 9) (d := some 97) (v := ?_) rfl rfl (by kernel_rfl) (by kernel_rfl) (by kernel_rfl) (fun _ _ _ h => h) (Or.inl ⟨by rfl, ?_⟩) (by assumption) ?_
                    rotate_left
                    · intro w hSw
                      go_simp
                      try (with_reducible rfl)
                    try simp only [Act.put, List.setIfInBounds_toArray, List.set_cons_zero, List.set_cons_succ]
                    refine wpAnyH_ready (rs := [10]) (by kernel_rfl) (by simp) ?_
                    refine AllReadyH.cons rfl (fun K hK => ?_) AllReadyH.nil
                    go_simp
                    refine hK.out _ _ ⟨by rw [World.cell?_setCell_far _ _ _ _ (by simpa using hibf.symm)]; exact hHeld.1, by rw [World.cell?_setCell_far _ _ _ _ (by simpa using hibf.symm)]; exact hHeld.2⟩ (fun hHeld => ?_)
                    clear hK K
                    try simp only [Act.put, List.setIfInBounds_toArray, List.set_cons_zero, List.set_cons_succ]
                    refine wpAnyH_done (by kernel_rfl) ?_ _
                    refine NoPanic.normal ?_
                    have R := hRx.out.codeAdd (fs := fs) (f := f) (cd := cd) HF.out HM.out HCS.out op x ((alloc_below wc (.cells #[.int .i64 op, .int .i64 x] 42)).drew) hBw2 (by rw [← HCN.out]; exact own_low ho3 hq2) hg3 (fun q hq => by
                      rcases hq3 q (ho3.lt q hq).1 with h1 | h1
                      · exact .inl (by simpa using h1)
                      · exact .inr h1)
                    have hfin := hide (show Rd B (w3.setCell ⟨fg, m * 4 + 3, none⟩ (.slice a3 (cn + 1) c3)) b (.slice (some ⟨fg, 0, none⟩) (m + 1) fc) av uv' (cd ++ [.slice a3 (cn + 1) c3]) (st.add fs f ((op, x), r.headD ⟨#[]⟩)) from by
                      have h := R.1
                      unfold St.add
                      rw [← HM.out, ← HCN.out]
                      exact h)
                    have hfb2 := hide (hBx.out.trans R.2)
                    clear R
                    go_wp2
                    go_ret
                    exact ⟨_, rfl, .inl ⟨rfl, hfb2.out, _, fs, f, _, _, _, _, hIn.out, HF.out, (by rw [← HCN.out]; exact h256), hfin.out⟩⟩
                  · go_simp
                    clear hHeld
                    refine hK.out _ _ ⟨by simp [World.cell?_alloc_some, v1], by simp [World.cell?_alloc_some, v2]⟩ (fun hHeld => ?_)
                    clear hK K
                    try simp only [Act.put, List.setIfInBounds_toArray, List.set_cons_zero, List.set_cons_succ]
                    have k7a := keep_cell kx (alloc_below wc (.cells #[.int .i64 op, .int .i64 x] 42))
                    refine wpAnyH_ready (rs := [4]) (by kernel_rfl) (by simp) ?_
                    refine AllReadyH.cons rfl (fun K hK => ?_) AllReadyH.nil
                    go_simp
                    refine hK.out _ _ hHeld (fun hHeld => ?_)
                    clear hK K
                    try simp only [Act.put, List.setIfInBounds_toArray, List.set_cons_zero, List.set_cons_succ]
                    refine wpAnyH_ready (rs := [7]) (by kernel_rfl) (by simp) ?_
                    refine AllReadyH.cons rfl (fun K hK => ?_) AllReadyH.nil
                    rw [if_pos (by rfl)]
                    refine wp_append_own _ (.tmp 92) (.tmp 94) 43 rfl q0 42 i0 (.agg #[.int .i64 0, .int .i64 0]) 2 16 Tryz.underlying43 hi hz0 hz1 hz2 rfl (by decide) (.slice ca cn cc) cn (insV f.code) rfl (by exact hq0.alloc _) ⟨wc.heap.size, 0, none⟩ 1 1 [.int .i64 op, .int .i64 x] (by rfl) rfl (by exact cells_new wc _ 42) (by simp [Value.oneCell']) (by unfold maxLen; omega) (by omega) (by simp; omega) ?_
                    intro v3 w3 ho3 hg3 _
                    have hf73 := grown_heap hg3 (own_keep kcode2 ((alloc_below wc (.cells #[.int .i64 op, .int .i64 x] 42)).drew)) (by rw [((alloc_below wc (.cells #[.int .i64 op, .int .i64 x] 42)).drew).block fg (lt_row hfcur)]; exact hfcur) (by decide)
                    have k73 := cell_grown' ((alloc_below wc (.cells #[.int .i64 op, .int .i64 x] 42)).drew) hg3 kcode2 kx hfcur (by decide)
                    have f73 := frozen_arr (i := m * 4 + 3) hf73
                    obtain ⟨a3, c3, rfl⟩ := own_any ho3
                    clear hHeld
                    refine hK.out _ _ ⟨hg3.cell (keep_cell v1 ((alloc_below wc (.cells #[.int .i64 op, .int .i64 x] 42)).drew)) hne, hg3.cell (keep_cell v2 ((alloc_below wc (.cells #[.int .i64 op, .int .i64 x] 42)).drew)) hne⟩ (fun hHeld => ?_)
                    clear hK K
                    try simp only [Act.put, List.setIfInBounds_toArray, List.set_cons_zero, List.set_cons_succ]
                    refine takeD (i := 8) (d := some 96) (v := ?_) rfl rfl (by kernel_rfl) (by kernel_rfl) (by kernel_rfl) (fun _ _ _ h => h) (Or.inl ⟨by rfl, ?_⟩) (by assumption) ?_
                    rotate_left
                    · intro w hSw
                      go_simp
                      try (with_reducible rfl)
                    try simp only [Act.put, List.setIfInBounds_toArray, List.set_cons_zero, List.set_cons_succ]
                    refine takeD (i := 9) (d := some 97) (v := ?_) rfl rfl (by kernel_rfl) (by kernel_rfl) (by kernel_rfl) (fun _ _ _ h => h) (Or.inl ⟨by rfl, ?_⟩) (by assumption) ?_
                    rotate_left
                    · intro w hSw
                      go_simp
                      try (with_reducible rfl)
                    try simp only [Act.put, List.setIfInBounds_toArray, List.set_cons_zero, List.set_cons_succ]
                    refine wpAnyH_ready (rs := [10]) (by kernel_rfl) (by simp) ?_
                    refine AllReadyH.cons rfl (fun K hK => ?_) AllReadyH.nil
                    go_simp
                    refine hK.out _ _ ⟨by rw [World.cell?_setCell_far _ _ _ _ (by simpa using hibf.symm)]; exact hHeld.1, by rw [World.cell?_setCell_far _ _ _ _ (by simpa using hibf.symm)]; exact hHeld.2⟩ (fun hHeld => ?_)
                    clear hK K
                    try simp only [Act.put, List.setIfInBounds_toArray, List.set_cons_zero, List.set_cons_succ]
                    refine wpAnyH_done (by kernel_rfl) ?_ _
                    refine NoPanic.normal ?_
                    have R := hRx.out.codeAdd (fs := fs) (f := f) (cd := cd) HF.out HM.out HCS.out op x ((alloc_below wc (.cells #[.int .i64 op, .int .i64 x] 42)).drew) hBw2 (by rw [← HCN.out]; exact own_low ho3 hq2) hg3 (fun q hq => by
                      rcases hq3 q (ho3.lt q hq).1 with h1 | h1
                      · exact .inl (by simpa using h1)
                      · exact .inr h1)
                    have hfin := hide (show Rd B (w3.setCell ⟨fg, m * 4 + 3, none⟩ (.slice a3 (cn + 1) c3)) b (.slice (some ⟨fg, 0, none⟩) (m + 1) fc) av uv' (cd ++ [.slice a3 (cn + 1) c3]) (st.add fs f ((op, x), r.headD ⟨#[]⟩)) from by
                      have h := R.1
                      unfold St.add
                      rw [← HM.out, ← HCN.out]
                      exact h)
                    have hfb2 := hide (hBx.out.trans R.2)
                    clear R
                    go_wp2
                    go_ret
                    exact ⟨_, rfl, .inl ⟨rfl, hfb2.out, _, fs, f, _, _, _, _, hIn.out, HF.out, (by rw [← HCN.out]; exact h256), hfin.out⟩⟩
end Go.Proofs.YtfnloomcianbiaaGreatDoor
