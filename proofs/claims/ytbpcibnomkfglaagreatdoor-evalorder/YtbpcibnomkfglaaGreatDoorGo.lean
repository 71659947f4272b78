/- A task goes on to its next event. -/
import Derived.Test.YtbpcibnomkfglaaGreatDoorEvL
import Derived.BigRegion
import Derived.Deep.CutBlock
namespace Go.Proofs.YtbpcibnomkfglaaGreatDoor
open Go.RowKit Go.ChangeShapes Go.WideShapes Go.ChangeAt Go.Deep

theorem wp_append_rows {w w' : World} {o : Oper} {a : Act} {K : Act → World → Prop} {Q : Exit → Act → World → Prop} {v vx v' : Value} {ty : TypeId} (s x : Operand)
    (ho : o.op = .call { callee := .builtin .append, args := #[s, x], argTypes := #[ty, ty] }) (hs : a.eval s = v) (hx : a.eval x = vx)
    (hrun : (Builtin.append_ #[ty, ty] o.type #[v, vx]).run Tryz.prog w = .ok v' w') (h : K (a.put o.dst v') w') : Oper.wp Tryz.prog o a w K Q := by
  unfold Oper.wp
  simp [execOp, ho, resolve, invoke, builtin, hs, hx, hrun, Result.andThen]
  exact h
set_option linter.unusedSimpArgs false in
set_option maxRecDepth 100000 in
set_option maxHeartbeats 8000000 in
theorem goOn_any {B X v x : Nat} {w wE w0 : World} {j : JV} {cs : List Value} {fs : List Fun} {args : List Int} {L0 N : List ET} {ev a aw sv lv rv : Value} {d : Dg} {D : DoF} {n : Nat} {q : List En × Bool × Dg}
    (hJ : JobR w0 j cs fs args) (hE : Env w0) (hB : B = w0.heap.size) (hb : Below B w0 w) (hD : DoOk B v w0 j D) (hM : EvM B w v j (L0 ++ N) ev false) (hX : X = wE.heap.size) (hBX : B ≤ X) (hK : Kp B X wE w) (h0 : Ents B wE L0) (hN : Ents X w N) (hap : Ap aw N) (hG : DgM X w x d a aw sv lv rv) (hend : d.ended = false)
    (hq : goE D fs j.fuel n ((L0 ++ N).map (·.1)) d = some q) :
    Calls Tryz.prog 23 #[.pointer (some ⟨v, 0, none⟩), .pointer (some ⟨x, 0, none⟩)] w (GoPost B X v x j L0 N a q w) := by
  subst hB
  unfold goE at hq
  split at hq
  case isFalse => cases hq
  rename_i hsm
  split at hq
  case h_2 => cases hq
  rename_i r hR
  split at hq
  case isFalse => cases hq
  rename_i hes
  split at hq
  case h_2 => cases hq
  rename_i E' ov y t2 hev
  simp only [Option.some.injEq] at hq
  subst hq
  obtain ⟨m1, m2, m3, m4, m5, m6, m7⟩ := hsm
  have hidl : ((bs d.e.id).size : Int) = (d.e.id.length : Int) := by rw [bs_size]
  rw [← hidl] at hR
  have v0 : w.cell? ⟨v, 0, none⟩ = some (.slice j.fa j.nf j.fc) := hM.cell 0 _ rfl
  have v1 : w.cell? ⟨v, 1, none⟩ = some (.int .i64 j.main) := hM.cell 1 _ rfl
  have v2 : w.cell? ⟨v, 2, none⟩ = some (.slice j.aa j.na j.ac) := hM.cell 2 _ rfl
  have v3 : w.cell? ⟨v, 3, none⟩ = some (.int .i64 j.fuel) := hM.cell 3 _ rfl
  have v4 : w.cell? ⟨v, 4, none⟩ = some (.int .i64 j.tasks) := hM.cell 4 _ rfl
  have x0 : w.cell? ⟨x, 0, none⟩ = some (.string (bs d.e.id)) := hG.cell 0 _ rfl
  have x8 : w.cell? ⟨x, 8, none⟩ = some (.int .i64 (d.s.fn : Int)) := hG.cell 8 _ rfl
  have x9 : w.cell? ⟨x, 9, none⟩ = some (.int .i64 (d.s.pc : Int)) := hG.cell 9 _ rfl
  have x10 : w.cell? ⟨x, 10, none⟩ = some (.int .i64 (d.s.fu : Int)) := hG.cell 10 _ rfl
  have x11 : w.cell? ⟨x, 11, none⟩ = some (sv) := hG.cell 11 _ rfl
  have x12 : w.cell? ⟨x, 12, none⟩ = some (lv) := hG.cell 12 _ rfl
  have x13 : w.cell? ⟨x, 13, none⟩ = some (.int .i64 d.s.kd) := hG.cell 13 _ rfl
  have x14 : w.cell? ⟨x, 14, none⟩ = some (.bool d.s.wt) := hG.cell 14 _ rfl
  have C38 := fun (W : World) (hW : Below w.heap.size w W) => run_R j cs fs args d.s ((bs d.e.id).size : Int) j.fuel X sv lv r n W (hJ.below (hb.trans (hW.mono hb.size))) (hE.below (hb.trans (hW.mono hb.size))) (own_belowI hG.st hW) (own_belowI hG.lo hW) m1 m2 hR
  have HM := hide hM
  have HG := hide hG
  have HJ := hide hJ
  have HE := hide hE
  have HB := hide hb
  have HD := hide hD
  have HBX := hide hBX
  have HK := hide hK
  have H0 := hide h0
  have HN := hide hN
  have HAP := hide hap
  have HEV := hide hev
  have HES := hide hes
  have HX := hide hX
  have HS0 := hide (show (bs d.e.id).data.toList = d.e.id from bs_list _)
  have HS1 := hide (show (bs d.e.id).size ≤ 1000 by rw [bs_size]; exact m7)
  clear hM hG hJ hE hb hD hBX hK h0 hN hap hev hR hes hX hidl
  generalize bs d.e.id = S0 at *
  have HS2 := hide (show S0 = bs d.e.id by rw [← HS0.out, bs_self])
  generalize finM r = t at *
  go_enter Tryz.func23, Tryz.ntmps23
  go_upto_region 0 with fail
  go_cut [4, 5] from 8 (fun s4 s5 wc => ∃ (sb eb : Nat) (sa la aa : Option Addr) (sc lc ac : Nat), s4 = .pointer (some ⟨sb, 0, none⟩) ∧ s5 = .pointer (some ⟨eb, 0, none⟩) ∧ Hid (SE w.heap.size wc sb eb t (.slice sa t.sk.length sc) (.slice la t.lo.length lc) (.slice aa t.ar.length ac)) ∧ Hid (Below w.heap.size w wc))
  case rest =>
    obtain ⟨sb, eb, sa, la, aa, sc, lc, ac, rfl, rfl, hSE, hbc⟩ := hcut
    replace hSE := hSE.out
    replace hbc := hbc.out
    have hXw : X ≤ w.heap.size := by have := HK.out.size; have := HX.out; omega
    have hG1 := HG.out.kp (Kp.of (B := w0.heap.size) hbc (Nat.le_trans HBX.out hXw)) (Nat.le_refl _)
    have hM1 := HM.out.below hbc
    have hK1 : Kp w0.heap.size X w wc := Kp.of (hbc.mono hXw) HBX.out
    have hN1 := HN.out.kp (Kp.of (B := w0.heap.size) hbc (Nat.le_trans HBX.out hXw)) (Nat.le_refl _)
    have e3 : wc.cell? ⟨eb, 3, none⟩ = some (.int .i64 (t.es : Int)) := cell_row hSE.e rfl
    have x5 : wc.cell? ⟨x, 5, none⟩ = some (.int .i64 (d.e.steps : Int)) := hG1.cell 5 _ rfl
    have f5 := hG1.froz 5
    have hes := HES.out
    have wr5 : IntKind.i64.wrap ((d.e.steps : Int) + (t.es : Int)) = (d.e.steps : Int) + (t.es : Int) := wrapi (by omega)
    have hG2 := (hG1.put 5 (.int .i64 ((d.e.steps : Int) + (t.es : Int))) ⟨{ d.e with steps := d.e.steps + t.es }, d.s, d.res, d.ended⟩ rfl rfl rfl rfl rfl rfl).kp (Kp.of (B := w0.heap.size) ((Below.refl _ _).drew) (by have := hbc.size; have := HBX.out; simp; omega)) (Nat.le_refl _)
    have hEl := Else.cell x 5 wc (.int .i64 ((d.e.steps : Int) + (t.es : Int)))
    have hM2 := (hM1.els hEl hG1.at_ (by decide) (by decide)).below ((Below.refl _ _).drew)
    have hS2 := (hSE.els hEl hG1.at_ (by decide) (by decide) (by decide)).kp (Kp.of (B := w0.heap.size) ((Below.refl _ _).drew) (by have := hbc.size; have := HBX.out; simp; omega)) (Nat.le_refl _)
    have hK2 : Kp w0.heap.size X w (wc.setCell ⟨x, 5, none⟩ (.int .i64 ((d.e.steps : Int) + (t.es : Int)))).drew := (hK1.setCell hG1.bx HBX.out _).below_more ((Below.refl _ _).drew) (by have := hbc.size; simp; omega) HBX.out
    have hN2 := (hN1.els hEl hG1.at_ (by decide)).kp (Kp.of (B := w0.heap.size) ((Below.refl _ _).drew) (by have := hbc.size; have := HBX.out; simp; omega)) (Nat.le_refl _)
    have hsz2 : w.heap.size ≤ (wc.setCell ⟨x, 5, none⟩ (.int .i64 ((d.e.steps : Int) + (t.es : Int)))).drew.heap.size := hK2.size
    have H1 := hide hG2.w
    have H2 := hide hM2
    have H3 := hide hS2
    have H4 := hide hK2
    have H5 := hide hN2
    have H6 := hide hsz2
    clear hG2 hM2 hS2 hK2 hN2 hsz2 hG1 hM1 hK1 hN1 hSE hbc hEl
    clear v0 v1 v2 v3 v4 x0 x8 x9 x10 x11 x12 x13 x14 C38
    go_wp2_with fail
    go_big_region
    clear e3 x5 f5 wr5
    generalize (wc.setCell ⟨x, 5, none⟩ (.int .i64 ((d.e.steps : Int) + (t.es : Int)))).drew = w2 at *
    have e0 : w2.cell? ⟨eb, 0, none⟩ = some (.int .i64 t.ek) := cell_row H3.out.e rfl
    go_upto_block 0 with fail
    clear e0
    go_cut [] from 43 (fun wz => ∃ (N' : List ET) (ev' aw' rv' : Value) (sa2 la2 aa2 : Option Addr) (sc2 lc2 ac2 : Nat), Hid ((L0 ++ (N ++ N')).map (·.1) = E') ∧ Hid (EvM w0.heap.size wz v j (L0 ++ (N ++ N')) ev' ov) ∧ Hid (Ents X wz (N ++ N')) ∧ Hid (Ap aw' (N ++ N')) ∧ Hid (DgW X wz x y a aw' sv lv rv') ∧ Hid (Kp w0.heap.size X w wz) ∧ Hid (SE w.heap.size wz sb eb t2 (.slice sa2 t2.sk.length sc2) (.slice la2 t2.lo.length lc2) (.slice aa2 t2.ar.length ac2)))
    case rest =>
      obtain ⟨N', ev', aw', rv', sa2, la2, aa2, sc2, lc2, ac2, hE1, hM3, hN3, hA3, hG3, hK3, hS3⟩ := hcut
      have s0 : wc.cell? ⟨sb, 0, none⟩ = some (.int .i64 (t2.fn : Int)) := cell_row hS3.out.s rfl
      have s1 : wc.cell? ⟨sb, 1, none⟩ = some (.int .i64 (t2.pc : Int)) := cell_row hS3.out.s rfl
      have s2 : wc.cell? ⟨sb, 2, none⟩ = some (.int .i64 (t2.fu : Int)) := cell_row hS3.out.s rfl
      have s3 : wc.cell? ⟨sb, 3, none⟩ = some (.slice sa2 t2.sk.length sc2) := cell_row hS3.out.s rfl
      have s4 : wc.cell? ⟨sb, 4, none⟩ = some (.slice la2 t2.lo.length lc2) := cell_row hS3.out.s rfl
      have s5 : wc.cell? ⟨sb, 5, none⟩ = some (.int .i64 t2.kd) := cell_row hS3.out.s rfl
      have s6 : wc.cell? ⟨sb, 6, none⟩ = some (.bool t2.wt) := cell_row hS3.out.s rfl
      have x8 : wc.cell? ⟨x, 8, none⟩ = some (.int .i64 (y.s.fn : Int)) := hG3.out.cell 8 _ rfl
      have f8 := hG3.out.froz 8
      have x9 : wc.cell? ⟨x, 9, none⟩ = some (.int .i64 (y.s.pc : Int)) := hG3.out.cell 9 _ rfl
      have f9 := hG3.out.froz 9
      have x10 : wc.cell? ⟨x, 10, none⟩ = some (.int .i64 (y.s.fu : Int)) := hG3.out.cell 10 _ rfl
      have f10 := hG3.out.froz 10
      have x11 : wc.cell? ⟨x, 11, none⟩ = some (sv) := hG3.out.cell 11 _ rfl
      have f11 := hG3.out.froz 11
      have x12 : wc.cell? ⟨x, 12, none⟩ = some (lv) := hG3.out.cell 12 _ rfl
      have f12 := hG3.out.froz 12
      have x13 : wc.cell? ⟨x, 13, none⟩ = some (.int .i64 y.s.kd) := hG3.out.cell 13 _ rfl
      have f13 := hG3.out.froz 13
      have x14 : wc.cell? ⟨x, 14, none⟩ = some (.bool y.s.wt) := hG3.out.cell 14 _ rfl
      have f14 := hG3.out.froz 14
      have hsx : sb ≠ x := tagNe hS3.out.s hG3.out.at_ (by decide)
      have hxs := hsx.symm
      go_upto_region 11 with fail
      show Code.wp _ _ _ _ (wc.setCells x 8 [.int .i64 (t2.fn : Int), .int .i64 (t2.pc : Int), .int .i64 (t2.fu : Int), .slice sa2 t2.sk.length sc2, .slice la2 t2.lo.length lc2, .int .i64 t2.kd, .bool t2.wt])
      have hEl := Else.cells x 8 wc [.int .i64 (t2.fn : Int), .int .i64 (t2.pc : Int), .int .i64 (t2.fu : Int), .slice sa2 t2.sk.length sc2, .slice la2 t2.lo.length lc2, .int .i64 t2.kd, .bool t2.wt]
      have hG4 : DgM X (wc.setCells x 8 [.int .i64 (t2.fn : Int), .int .i64 (t2.pc : Int), .int .i64 (t2.fu : Int), .slice sa2 t2.sk.length sc2, .slice la2 t2.lo.length lc2, .int .i64 t2.kd, .bool t2.wt]) x ⟨y.e, t2, y.res, y.ended⟩ a aw' (.slice sa2 t2.sk.length sc2) (.slice la2 t2.lo.length lc2) rv' := hG3.out.state hS3.out hXw
      have hM4 := hM3.out.els hEl hG3.out.at_ (by decide) (by decide)
      have hN4 := hN3.out.els hEl hG3.out.at_ (by decide)
      have hK4 : Kp w0.heap.size X w (wc.setCells x 8 [.int .i64 (t2.fn : Int), .int .i64 (t2.pc : Int), .int .i64 (t2.fu : Int), .slice sa2 t2.sk.length sc2, .slice la2 t2.lo.length lc2, .int .i64 t2.kd, .bool t2.wt]) := hK3.out.setCells hG3.out.bx HBX.out 8 _
      have hS4 := hS3.out.els hEl hG3.out.at_ (by decide) (by decide) (by decide)
      clear s0 s1 s2 s3 s4 s5 s6 x8 x9 x10 x11 x12 x13 x14 f8 f9 f10 f11 f12 f13 f14 hEl hsx hxs
      generalize wc.setCells x 8 [.int .i64 (t2.fn : Int), .int .i64 (t2.pc : Int), .int .i64 (t2.fu : Int), .slice sa2 t2.sk.length sc2, .slice la2 t2.lo.length lc2, .int .i64 t2.kd, .bool t2.wt] = w3 at *
      have e0 : w3.cell? ⟨eb, 0, none⟩ = some (.int .i64 t2.ek) := cell_row hS4.e rfl
      have hex : eb ≠ x := tagNe hS4.e hG4.at_ (by decide)
      have hxe := hex.symm
      by_cases h3 : t2.ek = 3
      · have hk3 : (t2.ek == 3) = true := by rw [h3]; rfl
        have e5 : w3.cell? ⟨eb, 5, none⟩ = some (.int .i64 t2.er) := cell_row hS4.e rfl
        have e6 : w3.cell? ⟨eb, 6, none⟩ = some (.int .i64 t2.ev) := cell_row hS4.e rfl
        have x3 : w3.cell? ⟨x, 3, none⟩ = some (.int .i64 y.e.er) := hG4.cell 3 _ rfl
        have x4 : w3.cell? ⟨x, 4, none⟩ = some (.int .i64 y.e.ev) := hG4.cell 4 _ rfl
        have x16 : w3.cell? ⟨x, 16, none⟩ = some (.bool y.ended) := hG4.cell 16 _ rfl
        have g3 := hG4.froz 3
        have g4 := hG4.froz 4
        have g16 := hG4.froz 16
        have hfin : y.fin t2 = ⟨{ y.e with er := t2.er, ev := t2.ev }, t2, y.res, true⟩ := by unfold Dg.fin; rw [if_pos h3, if_pos h3]
        have HG5 := hide (show DgM X (((w3.setCell ⟨x, 3, none⟩ (.int .i64 t2.er)).setCell ⟨x, 4, none⟩ (.int .i64 t2.ev)).setCell ⟨x, 16, none⟩ (.bool true)) x (y.fin t2) a aw' (.slice sa2 t2.sk.length sc2) (.slice la2 t2.lo.length lc2) rv' by
          rw [hfin]
          exact ((hG4.put 3 (.int .i64 t2.er) ⟨{ y.e with er := t2.er }, t2, y.res, y.ended⟩ rfl rfl rfl rfl rfl rfl).put 4 (.int .i64 t2.ev) ⟨{ y.e with er := t2.er, ev := t2.ev }, t2, y.res, y.ended⟩ rfl rfl rfl rfl rfl rfl).put 16 (.bool true) ⟨{ y.e with er := t2.er, ev := t2.ev }, t2, y.res, true⟩ rfl rfl rfl rfl rfl rfl)
        have q1 := hG4.at_
        have HE5 := hide (show Else x w3 (((w3.setCell ⟨x, 3, none⟩ (.int .i64 t2.er)).setCell ⟨x, 4, none⟩ (.int .i64 t2.ev)).setCell ⟨x, 16, none⟩ (.bool true)) from fun g hg => by
          rw [heap_setCell_other _ _ _ _ hg, heap_setCell_other _ _ _ _ hg, heap_setCell_other _ _ _ _ hg])
        have HK5 := hide (((hK4.setCell (i := 3) hG4.bx HBX.out (.int .i64 t2.er)).setCell (i := 4) hG4.bx HBX.out (.int .i64 t2.ev)).setCell (i := 16) hG4.bx HBX.out (.bool true))
        have HM5 := hide (hM4.els HE5.out q1 (by decide) (by decide))
        have HN5 := hide (hN4.els HE5.out q1 (by decide))
        clear hG4 hM4 hN4 hK4 hS4 q1 hfin h3
        go_wp2_with fail
        go_end0
        exact ⟨rfl, N', ev', aw', _, _, rv', hE1.out, HM5.out, HN5.out, hA3.out, HG5.out, HK5.out⟩
      · have hk3 : (t2.ek == 3) = false := by simpa using h3
        have hfin : y.fin t2 = ⟨y.e, t2, y.res, y.ended⟩ := by unfold Dg.fin; rw [if_neg h3, if_neg h3]
        have HG5 := hide (show DgM X w3 x (y.fin t2) a aw' (.slice sa2 t2.sk.length sc2) (.slice la2 t2.lo.length lc2) rv' by rw [hfin]; exact hG4)
        have HK5 := hide hK4
        have HM5 := hide hM4
        have HN5 := hide hN4
        clear hG4 hM4 hN4 hK4 hS4 hfin h3
        go_wp2_with fail
        go_end0
        exact ⟨rfl, N', ev', aw', _, _, rv', hE1.out, HM5.out, HN5.out, hA3.out, HG5.out, HK5.out⟩
    case first =>
      by_cases h1 : t.ek = 1
      · have k1 : (t.ek == 1) = true := by rw [h1]; rfl
        have hev := HEV.out
        unfold evE at hev
        rw [if_pos h1] at hev
        split at hev
        case isFalse => cases hev
        rename_i hko
        split at hev
        case h_2 => cases hev
        rename_i E2 ov2 r2 hdo
        simp only [Option.some.injEq, Prod.mk.injEq] at hev
        obtain ⟨rfl, rfl, rfl, rfl⟩ := hev
        have HDO := hide hdo
        have HKO := hide hko
        clear hdo hko
        have x0 : w2.cell? ⟨x, 0, none⟩ = some (.string S0) := by have := H1.out.cell 0 _ rfl; rw [HS2.out]; exact this
        have e2 : w2.cell? ⟨eb, 2, none⟩ = some (.int .i64 t.ei) := cell_row H3.out.e rfl
        have C39 := fun (W : World) => kid_any S0 (by have := HS1.out; omega) t.ei W
        rw [HS0.out, HKO.out.1] at C39
        obtain ⟨S1, hS1⟩ : ∃ S1, S1 = bs (kidL d.e.id t.ei) := ⟨_, rfl⟩
        rw [← hS1] at C39
        have HS3 := hide hS1
        clear hS1 h1
        go_upto_region 4 with fail
        refine wp_region_noPanic ?_
        have hN : Below w2.heap.size w2 w2.drew := (Below.refl _ _).drew
        refine wp_region_held_drew (S := fun W => W.cell? ⟨x, 0, none⟩ = some (.string S0) ∧ W.cell? ⟨eb, 2, none⟩ = some (.int .i64 t.ei)) (by kernel_rfl) (⟨keep_cell x0 hN, keep_cell e2 hN⟩) (fun hHeld => ?_)
        generalize w2.drew = wd at hN hHeld ⊢
        refine takeD (i := 0) (d := some 47) (v := ?_) rfl rfl (by kernel_rfl) (by kernel_rfl) (by kernel_rfl) (fun _ _ _ h => h) (Or.inl ⟨by rfl, ?_⟩) (by assumption) ?_
        rotate_left
        · intro w hSw
          go_simp
          try (with_reducible rfl)
        try simp only [Act.put, List.setIfInBounds_toArray, List.set_cons_zero, List.set_cons_succ]
        refine takeD (i := 1) (d := some 48) (v := ?_) rfl rfl (by kernel_rfl) (by kernel_rfl) (by kernel_rfl) (fun _ _ _ h => h) (Or.inl ⟨by rfl, ?_⟩) (by assumption) ?_
        rotate_left
        · intro w hSw
          go_simp
          try (with_reducible rfl)
        try simp only [Act.put, List.setIfInBounds_toArray, List.set_cons_zero, List.set_cons_succ]
        refine takeD (i := 2) (d := some 49) (v := ?_) rfl rfl (by kernel_rfl) (by kernel_rfl) (by kernel_rfl) (fun _ _ _ h => h) (Or.inl ⟨by rfl, ?_⟩) (by assumption) ?_
        rotate_left
        · intro w hSw
          go_simp
          try (with_reducible rfl)
        try simp only [Act.put, List.setIfInBounds_toArray, List.set_cons_zero, List.set_cons_succ]
        refine takeD (i := 3) (d := some 50) (v := ?_) rfl rfl (by kernel_rfl) (by kernel_rfl) (by kernel_rfl) (fun _ _ _ h => h) (Or.inl ⟨by rfl, ?_⟩) (by assumption) ?_
        rotate_left
        · intro w hSw
          go_simp
          try (with_reducible rfl)
        try simp only [Act.put, List.setIfInBounds_toArray, List.set_cons_zero, List.set_cons_succ]
        refine takeD (i := 4) (d := some 51) (v := ?_) rfl rfl (by kernel_rfl) (by kernel_rfl) (by kernel_rfl) (fun _ _ _ h => h) (Or.inl ⟨by rfl, ?_⟩) (by assumption) ?_
        rotate_left
        · intro w hSw
          go_simp
          try (with_reducible rfl)
        try simp only [Act.put, List.setIfInBounds_toArray, List.set_cons_zero, List.set_cons_succ]
        refine takeD (i := 5) (d := some 52) (v := ?_) rfl rfl (by kernel_rfl) (by kernel_rfl) (by kernel_rfl) (fun _ _ _ h => h) (Or.inl ⟨by rfl, ?_⟩) (by assumption) ?_
        rotate_left
        · intro w hSw
          go_simp
          try (with_reducible rfl)
        try simp only [Act.put, List.setIfInBounds_toArray, List.set_cons_zero, List.set_cons_succ]
        refine takeD (i := 6) (d := some 53) (v := ?_) rfl rfl (by kernel_rfl) (by kernel_rfl) (by kernel_rfl) (fun _ _ _ h => h) (Or.inl ⟨by rfl, ?_⟩) (by assumption) ?_
        rotate_left
        · intro w hSw
          go_simp
          try (with_reducible rfl)
        try simp only [Act.put, List.setIfInBounds_toArray, List.set_cons_zero, List.set_cons_succ]
        refine wpAnyH_ready (rs := [7]) (by kernel_rfl) (by simp) ?_
        refine AllReadyH.cons rfl (fun K hK => ?_) AllReadyH.nil
        go_simp
        refine (C39 _).mono ?_
        rintro e w3 ⟨rfl, hb3⟩
        have hN := chain hN hb3
        go_wp2_with fail
        clear hHeld hb3
        refine hK.out _ _ (⟨keep_cell x0 hN, keep_cell e2 hN⟩) (fun hHeld => ?_)
        clear hK K
        try simp only [Act.put, List.setIfInBounds_toArray, List.set_cons_zero, List.set_cons_succ]
        refine takeD (i := 8) (d := some 46) (v := ?_) rfl rfl (by kernel_rfl) (by kernel_rfl) (by kernel_rfl) (fun _ _ _ h => h) (Or.inl ⟨by rfl, ?_⟩) (by assumption) ?_
        rotate_left
        · intro w hSw
          go_simp
          try (with_reducible rfl)
        try simp only [Act.put, List.setIfInBounds_toArray, List.set_cons_zero, List.set_cons_succ]
        refine takeD (i := 9) (d := some 55) (v := ?_) rfl rfl (by kernel_rfl) (by kernel_rfl) (by kernel_rfl) (fun _ _ _ h => h) (Or.inl ⟨by rfl, ?_⟩) (by assumption) ?_
        rotate_left
        · intro w hSw
          go_simp
          try (with_reducible rfl)
        try simp only [Act.put, List.setIfInBounds_toArray, List.set_cons_zero, List.set_cons_succ]
        refine takeD (i := 10) (d := some 56) (v := ?_) rfl rfl (by kernel_rfl) (by kernel_rfl) (by kernel_rfl) (fun _ _ _ h => h) (Or.inl ⟨by rfl, ?_⟩) (by assumption) ?_
        rotate_left
        · intro w hSw
          go_simp
          try (with_reducible rfl)
        try simp only [Act.put, List.setIfInBounds_toArray, List.set_cons_zero, List.set_cons_succ]
        refine takeD (i := 11) (d := some 6) (v := ?_) rfl rfl (by kernel_rfl) (by kernel_rfl) (by kernel_rfl) (fun _ _ _ h => h) (Or.inl ⟨by rfl, ?_⟩) (by assumption) ?_
        rotate_left
        · intro w hSw
          go_simp
          try (with_reducible rfl)
        try simp only [Act.put, List.setIfInBounds_toArray, List.set_cons_zero, List.set_cons_succ]
        refine takeD (i := 12) (d := some 7) (v := ?_) rfl rfl (by kernel_rfl) (by kernel_rfl) (by kernel_rfl) (fun _ _ _ h => h) (Or.inl ⟨by rfl, ?_⟩) (by assumption) ?_
        rotate_left
        · intro w hSw
          go_simp
          try (with_reducible rfl)
        try simp only [Act.put, List.setIfInBounds_toArray, List.set_cons_zero, List.set_cons_succ]
        refine wpAnyH_done (by kernel_rfl) ?_ _
        refine NoPanic.normal ?_
        clear hHeld x0 e2 C39
        have hKK := Kp.of (B := w0.heap.size) hN (Nat.le_trans HBX.out (Nat.le_trans hXw H6.out))
        have H4 := hide (H4.out.below_more hN (Nat.le_trans hXw H6.out) HBX.out)
        have H1 := hide (H1.out.kp hKK (Nat.le_refl _))
        have H2 := hide (H2.out.below hN)
        have H3 := hide (H3.out.kp hKK (Nat.le_refl _))
        have H5 := hide (H5.out.kp hKK (Nat.le_refl _))
        have H6 := hide (Nat.le_trans H6.out (hN).size)
        clear hKK
        clear hN
        have x6 : w3.cell? ⟨x, 6, none⟩ = some (.int .i64 (d.e.kids : Int)) := H1.out.cell 6 _ rfl
        have f6 := H1.out.froz 6
        have wr6 : IntKind.i64.wrap ((d.e.kids : Int) + 1) = (d.e.kids : Int) + 1 := wrapi (by omega)
        go_upto_region 6 with fail
        clear x6 f6 wr6
        have hEl := Else.cell x 6 w3 (.int .i64 ((d.e.kids : Int) + 1))
        have hxat := H1.out.at_
        have H2 := hide (H2.out.els hEl hxat (by decide) (by decide))
        have H3 := hide (H3.out.els hEl hxat (by decide) (by decide) (by decide))
        have H5 := hide (H5.out.els hEl hxat (by decide))
        have H4 := hide (H4.out.setCell (i := 6) H1.out.bx HBX.out (.int .i64 ((d.e.kids : Int) + 1)))
        have H1 := hide (H1.out.put 6 (.int .i64 ((d.e.kids : Int) + 1)) ⟨{ d.e with steps := d.e.steps + t.es, kids := d.e.kids + 1 }, d.s, d.res, d.ended⟩ rfl rfl rfl rfl)
        have H6 := hide (show w.heap.size ≤ (w3.setCell ⟨x, 6, none⟩ (.int .i64 ((d.e.kids : Int) + 1))).heap.size from H4.out.size)
        clear hEl hxat
        generalize w3.setCell ⟨x, 6, none⟩ (.int .i64 ((d.e.kids : Int) + 1)) = w4 at *
        obtain ⟨ra, rc, hrv⟩ : ∃ ra rc, rv = .slice ra d.res.length rc := by
          rcases H1.out.res.2 with ⟨q1, q2⟩ | ⟨g, cap, cur, q1, _⟩
          · exact ⟨none, 0, by rw [q1]; simp at q2; simp [q2]⟩
          · exact ⟨_, cap, q1⟩
        subst hrv
        have e1 : w4.cell? ⟨eb, 1, none⟩ = some (.int .i64 t.ef) := cell_row H3.out.e rfl
        have e4 : w4.cell? ⟨eb, 4, none⟩ = some (.slice aa t.ar.length ac) := cell_row H3.out.e rfl
        have x15 : w4.cell? ⟨x, 15, none⟩ = some (.slice ra d.res.length rc) := H1.out.cell 15 _ rfl
        have hef : ((t.ef.toNat : Nat) : Int) = t.ef := Int.toNat_of_nonneg HKO.out.2
        have hidl : (kidL d.e.id t.ei).length ≤ 12 := by
          have h := (kid_parts.1 HKO.out.1).2.2.1
          unfold kidL
          rw [HKO.out.1]
          simp
          omega
        have C17 : ∀ (W : World), Below w4.heap.size w4 W → Calls Tryz.prog 17 #[.pointer (some ⟨v, 0, none⟩), .string S1, .int .i64 t.ef, .slice aa t.ar.length ac] W (DoPost w0.heap.size v j (L0 ++ N) (E2, ov2, r2) W) := by
          intro W hW
          have hX4 : X ≤ w4.heap.size := Nat.le_trans hXw H6.out
          have hK4 := Kp.of (B := w0.heap.size) hW (Nat.le_trans HBX.out hX4)
          have hw0 : Below w0.heap.size w0 W := HB.out.trans (H4.out.below.trans (hW.mono (Nat.le_trans HBX.out hX4)))
          have hEnt : Ents w0.heap.size W (L0 ++ N) := (H0.out.kp ((HK.out.trans H4.out (Nat.le_refl _)).below_more hW hX4 HBX.out) (by rw [HX.out]; exact Nat.le_refl _)).app ((H5.out.kp hK4 (Nat.le_refl _)).mono HBX.out)
          obtain ⟨qa, qc, qe, _, qn, qr, _⟩ := own_formI (own_kp H3.out.ar hK4 (Nat.le_refl _) (by decide) (by decide))
          simp only [Value.slice.injEq] at qe
          obtain ⟨rfl, _, rfl⟩ := qe
          have := HD.out W (L0 ++ N) ev (kidL d.e.id t.ei) t.ef.toNat t.ar aa t.ar.length ac (E2, ov2, r2) hw0 (H2.out.below hW) hEnt qr rfl qn hidl HDO.out
          rw [hef, ← HS3.out] at this
          exact this
        refine wp_region_noPanic ?_
        have hN : Below w4.heap.size w4 w4.drew := (Below.refl _ _).drew
        refine wp_region_held_drew (S := fun W => W.cell? ⟨eb, 1, none⟩ = some (.int .i64 t.ef) ∧ W.cell? ⟨eb, 4, none⟩ = some (.slice aa t.ar.length ac)) (by kernel_rfl) (⟨keep_cell e1 hN, keep_cell e4 hN⟩) (fun hHeld => ?_)
        generalize w4.drew = wd at hN hHeld ⊢
        have x15 := keep_cell x15 hN
        refine takeD (i := 0) (d := some 66) (v := ?_) rfl rfl (by kernel_rfl) (by kernel_rfl) (by kernel_rfl) (fun _ _ _ h => h) (Or.inl ⟨by rfl, ?_⟩) (by assumption) ?_
        rotate_left
        · intro w hSw
          go_simp
          try (with_reducible rfl)
        try simp only [Act.put, List.setIfInBounds_toArray, List.set_cons_zero, List.set_cons_succ]
        refine takeD (i := 1) (d := some 67) (v := ?_) rfl rfl (by kernel_rfl) (by kernel_rfl) (by kernel_rfl) (fun _ _ _ h => h) (Or.inl ⟨by rfl, ?_⟩) (by assumption) ?_
        rotate_left
        · intro w hSw
          go_simp
          try (with_reducible rfl)
        try simp only [Act.put, List.setIfInBounds_toArray, List.set_cons_zero, List.set_cons_succ]
        refine takeD (i := 2) (d := some 68) (v := ?_) rfl rfl (by kernel_rfl) (by kernel_rfl) (by kernel_rfl) (fun _ _ _ h => h) (Or.inl ⟨by rfl, ?_⟩) (by assumption) ?_
        rotate_left
        · intro w hSw
          go_simp
          try (with_reducible rfl)
        try simp only [Act.put, List.setIfInBounds_toArray, List.set_cons_zero, List.set_cons_succ]
        refine takeD (i := 3) (d := some 69) (v := ?_) rfl rfl (by kernel_rfl) (by kernel_rfl) (by kernel_rfl) (fun _ _ _ h => h) (Or.inl ⟨by rfl, ?_⟩) (by assumption) ?_
        rotate_left
        · intro w hSw
          go_simp
          try (with_reducible rfl)
        try simp only [Act.put, List.setIfInBounds_toArray, List.set_cons_zero, List.set_cons_succ]
        refine takeD (i := 5) (d := some 71) (v := ?_) rfl rfl (by kernel_rfl) (by kernel_rfl) (by kernel_rfl) (fun _ _ _ h => h) (Or.inl ⟨by rfl, ?_⟩) (by assumption) ?_
        rotate_left
        · intro w hSw
          go_simp
          try (with_reducible rfl)
        try simp only [Act.put, List.setIfInBounds_toArray, List.set_cons_zero, List.set_cons_succ]
        refine takeD (i := 6) (d := some 72) (v := ?_) rfl rfl (by kernel_rfl) (by kernel_rfl) (by kernel_rfl) (fun _ _ _ h => h) (Or.inl ⟨by rfl, ?_⟩) (by assumption) ?_
        rotate_left
        · intro w hSw
          go_simp
          try (with_reducible rfl)
        try simp only [Act.put, List.setIfInBounds_toArray, List.set_cons_zero, List.set_cons_succ]
        refine takeD (i := 7) (d := some 73) (v := ?_) rfl rfl (by kernel_rfl) (by kernel_rfl) (by kernel_rfl) (fun _ _ _ h => h) (Or.inl ⟨by rfl, ?_⟩) (by assumption) ?_
        rotate_left
        · intro w hSw
          go_simp
          try (with_reducible rfl)
        try simp only [Act.put, List.setIfInBounds_toArray, List.set_cons_zero, List.set_cons_succ]
        refine takeD (i := 8) (d := some 74) (v := ?_) rfl rfl (by kernel_rfl) (by kernel_rfl) (by kernel_rfl) (fun _ _ _ h => h) (Or.inl ⟨by rfl, ?_⟩) (by assumption) ?_
        rotate_left
        · intro w hSw
          go_simp
          try (with_reducible rfl)
        try simp only [Act.put, List.setIfInBounds_toArray, List.set_cons_zero, List.set_cons_succ]
        refine takeD (i := 9) (d := some 75) (v := ?_) rfl rfl (by kernel_rfl) (by kernel_rfl) (by kernel_rfl) (fun _ _ _ h => h) (Or.inl ⟨by rfl, ?_⟩) (by assumption) ?_
        rotate_left
        · intro w hSw
          go_simp
          try (with_reducible rfl)
        try simp only [Act.put, List.setIfInBounds_toArray, List.set_cons_zero, List.set_cons_succ]
        refine takeD (i := 10) (d := some 76) (v := ?_) rfl rfl (by kernel_rfl) (by kernel_rfl) (by kernel_rfl) (fun _ _ _ h => h) (Or.inl ⟨by rfl, ?_⟩) (by assumption) ?_
        rotate_left
        · intro w hSw
          go_simp
          try (with_reducible rfl)
        try simp only [Act.put, List.setIfInBounds_toArray, List.set_cons_zero, List.set_cons_succ]
        refine wpAnyH_ready (rs := [4, 11]) (by kernel_rfl) (by simp) ?_
        refine AllReadyH.cons rfl (fun K hK => ?_) (AllReadyH.cons rfl (fun K hK => ?_) AllReadyH.nil)
        · skip
          have hHeld2 := hHeld
          go_simp
          go_wp2_with fail
          clear hHeld2
          refine hK.out _ _ (⟨keep_cell e1 hN, keep_cell e4 hN⟩) (fun hHeld => ?_)
          clear hK K
          try simp only [Act.put, List.setIfInBounds_toArray, List.set_cons_zero, List.set_cons_succ]
          refine wpAnyH_ready (rs := [11]) (by kernel_rfl) (by simp) ?_
          refine AllReadyH.cons rfl (fun K hK => ?_) AllReadyH.nil
          go_simp
          refine (C17 _ hN).mono ?_
          rintro e w5 ⟨rfl, N1, ev5, q1, q2, q3, q4⟩
          have hKK := Kp.of (B := w0.heap.size) hN (Nat.le_trans HBX.out (Nat.le_trans hXw H6.out))
          have H4 := hide (H4.out.below_more hN (Nat.le_trans hXw H6.out) HBX.out)
          have H1 := hide (H1.out.kp hKK (Nat.le_refl _))
          have H2 := hide (H2.out.below hN)
          have H3 := hide (H3.out.kp hKK (Nat.le_refl _))
          have H5 := hide (H5.out.kp hKK (Nat.le_refl _))
          have H6 := hide (Nat.le_trans H6.out (hN).size)
          clear hKK
          have hAp := Ap.fresh H1.out.aws q3
          have hX5 : X ≤ wd.heap.size := Nat.le_trans hXw H6.out
          have H3 := hide (H3.out.kp q4 (Nat.le_refl _))
          have H1 := hide (H1.out.kp q4 (Nat.le_refl _))
          have H5 := hide ((H5.out.kp q4 (Nat.le_refl _)).app (q3.mono hX5))
          have H4 := hide (H4.out.trans q4 hX5)
          have H2 := hide q2
          have H6 := hide (Nat.le_trans H6.out q4.size)
          have HQ := hide q1
          have e1 : w5.cell? ⟨eb, 1, none⟩ = some (.int .i64 t.ef) := cell_row H3.out.e rfl
          have e4 : w5.cell? ⟨eb, 4, none⟩ = some (.slice aa t.ar.length ac) := cell_row H3.out.e rfl
          have x15 : w5.cell? ⟨x, 15, none⟩ = some (.slice ra d.res.length rc) := H1.out.cell 15 _ rfl
          have HAp := hide hAp
          clear hN q1 q2 q3 q4 hX5 hAp
          have hN : Below w5.heap.size w5 w5 := Below.refl _ _
          obtain ⟨r21, r22⟩ := r2
          go_wp2_with fail
          clear hHeld
          refine hK.out _ _ (⟨keep_cell e1 hN, keep_cell e4 hN⟩) (fun hHeld => ?_)
          clear hK K
          try simp only [Act.put, List.setIfInBounds_toArray, List.set_cons_zero, List.set_cons_succ]
          refine wpAnyH_ready (rs := [12]) (by kernel_rfl) (by simp) ?_
          refine AllReadyH.cons rfl (fun K hK => ?_) AllReadyH.nil
          go_simp
          go_wp2_with fail
          have hA := alloc_below w5 (.cells #[.int .i64 r21, .int .i64 r22] 34)
          have hb0 := heap_alloc_new w5 (.cells #[.int .i64 r21, .int .i64 r22] 34)
          have hKK := Kp.of (B := w0.heap.size) hA (Nat.le_trans HBX.out (Nat.le_trans hXw H6.out))
          have H4 := hide (H4.out.below_more hA (Nat.le_trans hXw H6.out) HBX.out)
          have H1 := hide (H1.out.kp hKK (Nat.le_refl _))
          have H2 := hide (H2.out.below hA)
          have H3 := hide (H3.out.kp hKK (Nat.le_refl _))
          have H5 := hide (H5.out.kp hKK (Nat.le_refl _))
          have H6 := hide (Nat.le_trans H6.out (hA).size)
          clear hKK
          have x15 := keep_cell x15 hA
          have e1 := keep_cell e1 hA
          have e4 := keep_cell e4 hA
          generalize w5.alloc (.cells #[.int .i64 r21, .int .i64 r22] 34) = w6 at *
          have hN : Below w6.heap.size w6 w6 := Below.refl _ _
          clear hA hHeld
          refine hK.out _ _ (⟨keep_cell e1 hN, keep_cell e4 hN⟩) (fun hHeld => ?_)
          clear hK K
          try simp only [Act.put, List.setIfInBounds_toArray, List.set_cons_zero, List.set_cons_succ]
          refine wpAnyH_ready (rs := [13]) (by kernel_rfl) (by simp) ?_
          refine AllReadyH.cons rfl (fun K hK => ?_) AllReadyH.nil
          obtain ⟨a7, c7, w7, hrun, ho7, hg7, hw7⟩ := append_one (t := 71) (e := 34) (size := 2) (bytes := 16) (z := .agg #[.int .i64 0, .int .i64 0]) Tryz.underlying71 (by kernel_rfl) rfl (by decide) (by decide) w6 X (.slice ra d.res.length rc) d.res.length (rowsR d.res) [.int .i64 r21, .int .i64 r22] w5.heap.size H1.out.res rfl (fun j u hu => cell_row hb0 hu) (by intro u hu; simp at hu; rcases hu with rfl | rfl <;> rfl) (by omega) (Nat.le_trans hXw H6.out)
          have hT := Tg.of H1.out.res hg7
          have hbX : Below X w6 w7 := (Below.refl X w6).grown hg7 (Nat.le_trans hXw H6.out) (fun k hk => (H1.out.res.lt k hk).1)
          have x15 : w7.cell? ⟨x, 15, none⟩ = some (.slice ra d.res.length rc) := cell_row ((hT x _ _ (by decide) H1.out.at_).trans H1.out.at_) rfl
          have f15 : w7.frozen? ⟨x, 15, none⟩ = false := by simp [World.frozen?, (hT x _ _ (by decide) H1.out.at_).trans H1.out.at_]
          have hxat : w7.heap[x]? = some (.cells (dgRow ⟨{ d.e with steps := d.e.steps + t.es, kids := d.e.kids + 1 }, d.s, d.res, d.ended⟩ a aw sv lv (.slice ra d.res.length rc)).toArray 73 (0, 0)) := (hT x _ _ (by decide) H1.out.at_).trans H1.out.at_
          have hEl := Else.cell x 15 w7 (.slice a7 (d.res.length + 1) c7)
          have H2 := hide (H2.out.tg hT (by decide) (by decide))
          have H3 := hide (H3.out.tg hT (by decide) (by decide) (by decide))
          have H5 := hide (H5.out.tg hT (by decide))
          have H4 := hide (H4.out.trans (Kp.of hbX HBX.out) (Nat.le_refl _))
          have e1 : w7.cell? ⟨eb, 1, none⟩ = some (.int .i64 t.ef) := cell_row H3.out.e rfl
          have e4 : w7.cell? ⟨eb, 4, none⟩ = some (.slice aa t.ar.length ac) := cell_row H3.out.e rfl
          have H1 := hide (H1.out.putRes (res := d.res ++ [(r21, r22)]) hT (by rw [rowsR_app, List.length_append]; exact ho7))
          have H2 := hide (H2.out.els hEl hxat (by decide) (by decide))
          have H3 := hide (H3.out.els hEl hxat (by decide) (by decide) (by decide))
          have H5 := hide (H5.out.els hEl hxat (by decide))
          have H4 := hide (H4.out.setCell (i := 15) H1.out.bx HBX.out (.slice a7 (d.res.length + 1) c7))
          clear ho7 hg7 hw7 hbX hxat hEl hb0
          have hN : Below w7.heap.size w7 w7 := Below.refl _ _
          refine wp_append_rows (.tmp 70) (.tmp 78) rfl rfl rfl hrun ?_
          clear hHeld
          refine hK.out _ _ (⟨keep_cell e1 hN, keep_cell e4 hN⟩) (fun hHeld => ?_)
          clear hK K
          try simp only [Act.put, List.setIfInBounds_toArray, List.set_cons_zero, List.set_cons_succ]
          refine takeD (i := 14) (d := some 80) (v := ?_) rfl rfl (by kernel_rfl) (by kernel_rfl) (by kernel_rfl) (fun _ _ _ h => h) (Or.inl ⟨by rfl, ?_⟩) (by assumption) ?_
          rotate_left
          · intro w hSw
            go_simp
            try (with_reducible rfl)
          try simp only [Act.put, List.setIfInBounds_toArray, List.set_cons_zero, List.set_cons_succ]
          refine takeD (i := 15) (d := some 81) (v := ?_) rfl rfl (by kernel_rfl) (by kernel_rfl) (by kernel_rfl) (fun _ _ _ h => h) (Or.inl ⟨by rfl, ?_⟩) (by assumption) ?_
          rotate_left
          · intro w hSw
            go_simp
            try (with_reducible rfl)
          try simp only [Act.put, List.setIfInBounds_toArray, List.set_cons_zero, List.set_cons_succ]
          refine wpAnyH_ready (rs := [16]) (by kernel_rfl) (by simp) ?_
          refine AllReadyH.cons rfl (fun K hK => ?_) AllReadyH.nil
          go_simp
          go_wp2_with fail
          have e1 : (w7.setCell ⟨x, 15, none⟩ (.slice a7 (d.res.length + 1) c7)).cell? ⟨eb, 1, none⟩ = some (.int .i64 t.ef) := cell_row H3.out.e rfl
          have e4 : (w7.setCell ⟨x, 15, none⟩ (.slice a7 (d.res.length + 1) c7)).cell? ⟨eb, 4, none⟩ = some (.slice aa t.ar.length ac) := cell_row H3.out.e rfl
          generalize w7.setCell ⟨x, 15, none⟩ (.slice a7 (d.res.length + 1) c7) = w8 at *
          have hN : Below w8.heap.size w8 w8 := Below.refl _ _
          clear hHeld
          refine hK.out _ _ (⟨keep_cell e1 hN, keep_cell e4 hN⟩) (fun hHeld => ?_)
          clear hK K
          try simp only [Act.put, List.setIfInBounds_toArray, List.set_cons_zero, List.set_cons_succ]
          refine wpAnyH_done (by kernel_rfl) ?_ _
          refine NoPanic.normal ?_
          go_wp2_with fail
          go_meet
          case rel => exact ⟨N1, ev5, aw, .slice a7 (d.res.length + 1) c7, sa, la, aa, sc, lc, ac, (by rw [← List.append_assoc]; exact HQ.out), (by rw [← List.append_assoc]; exact H2.out), H5.out, HAP.out.app HAp.out, H1.out, H4.out, H3.out⟩
        · skip
          go_simp
          refine (C17 _ hN).mono ?_
          rintro e w5 ⟨rfl, N1, ev5, q1, q2, q3, q4⟩
          have hKK := Kp.of (B := w0.heap.size) hN (Nat.le_trans HBX.out (Nat.le_trans hXw H6.out))
          have H4 := hide (H4.out.below_more hN (Nat.le_trans hXw H6.out) HBX.out)
          have H1 := hide (H1.out.kp hKK (Nat.le_refl _))
          have H2 := hide (H2.out.below hN)
          have H3 := hide (H3.out.kp hKK (Nat.le_refl _))
          have H5 := hide (H5.out.kp hKK (Nat.le_refl _))
          have H6 := hide (Nat.le_trans H6.out (hN).size)
          clear hKK
          have hAp := Ap.fresh H1.out.aws q3
          have hX5 : X ≤ wd.heap.size := Nat.le_trans hXw H6.out
          have H3 := hide (H3.out.kp q4 (Nat.le_refl _))
          have H1 := hide (H1.out.kp q4 (Nat.le_refl _))
          have H5 := hide ((H5.out.kp q4 (Nat.le_refl _)).app (q3.mono hX5))
          have H4 := hide (H4.out.trans q4 hX5)
          have H2 := hide q2
          have H6 := hide (Nat.le_trans H6.out q4.size)
          have HQ := hide q1
          have e1 : w5.cell? ⟨eb, 1, none⟩ = some (.int .i64 t.ef) := cell_row H3.out.e rfl
          have e4 : w5.cell? ⟨eb, 4, none⟩ = some (.slice aa t.ar.length ac) := cell_row H3.out.e rfl
          have x15 : w5.cell? ⟨x, 15, none⟩ = some (.slice ra d.res.length rc) := H1.out.cell 15 _ rfl
          have HAp := hide hAp
          clear hN q1 q2 q3 q4 hX5 hAp
          have hN : Below w5.heap.size w5 w5 := Below.refl _ _
          obtain ⟨r21, r22⟩ := r2
          go_wp2_with fail
          clear hHeld
          refine hK.out _ _ (⟨keep_cell e1 hN, keep_cell e4 hN⟩) (fun hHeld => ?_)
          clear hK K
          try simp only [Act.put, List.setIfInBounds_toArray, List.set_cons_zero, List.set_cons_succ]
          refine wpAnyH_ready (rs := [4, 12]) (by kernel_rfl) (by simp) ?_
          refine AllReadyH.cons rfl (fun K hK => ?_) (AllReadyH.cons rfl (fun K hK => ?_) AllReadyH.nil)
          · skip
            have hHeld2 := hHeld
            go_simp
            go_wp2_with fail
            clear hHeld2
            refine hK.out _ _ (⟨keep_cell e1 hN, keep_cell e4 hN⟩) (fun hHeld => ?_)
            clear hK K
            try simp only [Act.put, List.setIfInBounds_toArray, List.set_cons_zero, List.set_cons_succ]
            refine wpAnyH_ready (rs := [12]) (by kernel_rfl) (by simp) ?_
            refine AllReadyH.cons rfl (fun K hK => ?_) AllReadyH.nil
            go_simp
            go_wp2_with fail
            have hA := alloc_below w5 (.cells #[.int .i64 r21, .int .i64 r22] 34)
            have hb0 := heap_alloc_new w5 (.cells #[.int .i64 r21, .int .i64 r22] 34)
            have hKK := Kp.of (B := w0.heap.size) hA (Nat.le_trans HBX.out (Nat.le_trans hXw H6.out))
            have H4 := hide (H4.out.below_more hA (Nat.le_trans hXw H6.out) HBX.out)
            have H1 := hide (H1.out.kp hKK (Nat.le_refl _))
            have H2 := hide (H2.out.below hA)
            have H3 := hide (H3.out.kp hKK (Nat.le_refl _))
            have H5 := hide (H5.out.kp hKK (Nat.le_refl _))
            have H6 := hide (Nat.le_trans H6.out (hA).size)
            clear hKK
            have x15 := keep_cell x15 hA
            have e1 := keep_cell e1 hA
            have e4 := keep_cell e4 hA
            generalize w5.alloc (.cells #[.int .i64 r21, .int .i64 r22] 34) = w6 at *
            have hN : Below w6.heap.size w6 w6 := Below.refl _ _
            clear hA hHeld
            refine hK.out _ _ (⟨keep_cell e1 hN, keep_cell e4 hN⟩) (fun hHeld => ?_)
            clear hK K
            try simp only [Act.put, List.setIfInBounds_toArray, List.set_cons_zero, List.set_cons_succ]
            refine wpAnyH_ready (rs := [13]) (by kernel_rfl) (by simp) ?_
            refine AllReadyH.cons rfl (fun K hK => ?_) AllReadyH.nil
            obtain ⟨a7, c7, w7, hrun, ho7, hg7, hw7⟩ := append_one (t := 71) (e := 34) (size := 2) (bytes := 16) (z := .agg #[.int .i64 0, .int .i64 0]) Tryz.underlying71 (by kernel_rfl) rfl (by decide) (by decide) w6 X (.slice ra d.res.length rc) d.res.length (rowsR d.res) [.int .i64 r21, .int .i64 r22] w5.heap.size H1.out.res rfl (fun j u hu => cell_row hb0 hu) (by intro u hu; simp at hu; rcases hu with rfl | rfl <;> rfl) (by omega) (Nat.le_trans hXw H6.out)
            have hT := Tg.of H1.out.res hg7
            have hbX : Below X w6 w7 := (Below.refl X w6).grown hg7 (Nat.le_trans hXw H6.out) (fun k hk => (H1.out.res.lt k hk).1)
            have x15 : w7.cell? ⟨x, 15, none⟩ = some (.slice ra d.res.length rc) := cell_row ((hT x _ _ (by decide) H1.out.at_).trans H1.out.at_) rfl
            have f15 : w7.frozen? ⟨x, 15, none⟩ = false := by simp [World.frozen?, (hT x _ _ (by decide) H1.out.at_).trans H1.out.at_]
            have hxat : w7.heap[x]? = some (.cells (dgRow ⟨{ d.e with steps := d.e.steps + t.es, kids := d.e.kids + 1 }, d.s, d.res, d.ended⟩ a aw sv lv (.slice ra d.res.length rc)).toArray 73 (0, 0)) := (hT x _ _ (by decide) H1.out.at_).trans H1.out.at_
            have hEl := Else.cell x 15 w7 (.slice a7 (d.res.length + 1) c7)
            have H2 := hide (H2.out.tg hT (by decide) (by decide))
            have H3 := hide (H3.out.tg hT (by decide) (by decide) (by decide))
            have H5 := hide (H5.out.tg hT (by decide))
            have H4 := hide (H4.out.trans (Kp.of hbX HBX.out) (Nat.le_refl _))
            have e1 : w7.cell? ⟨eb, 1, none⟩ = some (.int .i64 t.ef) := cell_row H3.out.e rfl
            have e4 : w7.cell? ⟨eb, 4, none⟩ = some (.slice aa t.ar.length ac) := cell_row H3.out.e rfl
            have H1 := hide (H1.out.putRes (res := d.res ++ [(r21, r22)]) hT (by rw [rowsR_app, List.length_append]; exact ho7))
            have H2 := hide (H2.out.els hEl hxat (by decide) (by decide))
            have H3 := hide (H3.out.els hEl hxat (by decide) (by decide) (by decide))
            have H5 := hide (H5.out.els hEl hxat (by decide))
            have H4 := hide (H4.out.setCell (i := 15) H1.out.bx HBX.out (.slice a7 (d.res.length + 1) c7))
            clear ho7 hg7 hw7 hbX hxat hEl hb0
            have hN : Below w7.heap.size w7 w7 := Below.refl _ _
            refine wp_append_rows (.tmp 70) (.tmp 78) rfl rfl rfl hrun ?_
            clear hHeld
            refine hK.out _ _ (⟨keep_cell e1 hN, keep_cell e4 hN⟩) (fun hHeld => ?_)
            clear hK K
            try simp only [Act.put, List.setIfInBounds_toArray, List.set_cons_zero, List.set_cons_succ]
            refine takeD (i := 14) (d := some 80) (v := ?_) rfl rfl (by kernel_rfl) (by kernel_rfl) (by kernel_rfl) (fun _ _ _ h => h) (Or.inl ⟨by rfl, ?_⟩) (by assumption) ?_
            rotate_left
            · intro w hSw
              go_simp
              try (with_reducible rfl)
            try simp only [Act.put, List.setIfInBounds_toArray, List.set_cons_zero, List.set_cons_succ]
            refine takeD (i := 15) (d := some 81) (v := ?_) rfl rfl (by kernel_rfl) (by kernel_rfl) (by kernel_rfl) (fun _ _ _ h => h) (Or.inl ⟨by rfl, ?_⟩) (by assumption) ?_
            rotate_left
            · intro w hSw
              go_simp
              try (with_reducible rfl)
            try simp only [Act.put, List.setIfInBounds_toArray, List.set_cons_zero, List.set_cons_succ]
            refine wpAnyH_ready (rs := [16]) (by kernel_rfl) (by simp) ?_
            refine AllReadyH.cons rfl (fun K hK => ?_) AllReadyH.nil
            go_simp
            go_wp2_with fail
            have e1 : (w7.setCell ⟨x, 15, none⟩ (.slice a7 (d.res.length + 1) c7)).cell? ⟨eb, 1, none⟩ = some (.int .i64 t.ef) := cell_row H3.out.e rfl
            have e4 : (w7.setCell ⟨x, 15, none⟩ (.slice a7 (d.res.length + 1) c7)).cell? ⟨eb, 4, none⟩ = some (.slice aa t.ar.length ac) := cell_row H3.out.e rfl
            generalize w7.setCell ⟨x, 15, none⟩ (.slice a7 (d.res.length + 1) c7) = w8 at *
            have hN : Below w8.heap.size w8 w8 := Below.refl _ _
            clear hHeld
            refine hK.out _ _ (⟨keep_cell e1 hN, keep_cell e4 hN⟩) (fun hHeld => ?_)
            clear hK K
            try simp only [Act.put, List.setIfInBounds_toArray, List.set_cons_zero, List.set_cons_succ]
            refine wpAnyH_done (by kernel_rfl) ?_ _
            refine NoPanic.normal ?_
            go_wp2_with fail
            go_meet
            case rel => exact ⟨N1, ev5, aw, .slice a7 (d.res.length + 1) c7, sa, la, aa, sc, lc, ac, (by rw [← List.append_assoc]; exact HQ.out), (by rw [← List.append_assoc]; exact H2.out), H5.out, HAP.out.app HAp.out, H1.out, H4.out, H3.out⟩
          · skip
            go_simp
            go_wp2_with fail
            have hA := alloc_below w5 (.cells #[.int .i64 r21, .int .i64 r22] 34)
            have hb0 := heap_alloc_new w5 (.cells #[.int .i64 r21, .int .i64 r22] 34)
            have hKK := Kp.of (B := w0.heap.size) hA (Nat.le_trans HBX.out (Nat.le_trans hXw H6.out))
            have H4 := hide (H4.out.below_more hA (Nat.le_trans hXw H6.out) HBX.out)
            have H1 := hide (H1.out.kp hKK (Nat.le_refl _))
            have H2 := hide (H2.out.below hA)
            have H3 := hide (H3.out.kp hKK (Nat.le_refl _))
            have H5 := hide (H5.out.kp hKK (Nat.le_refl _))
            have H6 := hide (Nat.le_trans H6.out (hA).size)
            clear hKK
            have x15 := keep_cell x15 hA
            have e1 := keep_cell e1 hA
            have e4 := keep_cell e4 hA
            generalize w5.alloc (.cells #[.int .i64 r21, .int .i64 r22] 34) = w6 at *
            have hN : Below w6.heap.size w6 w6 := Below.refl _ _
            clear hA hHeld
            refine hK.out _ _ (⟨keep_cell e1 hN, keep_cell e4 hN⟩) (fun hHeld => ?_)
            clear hK K
            try simp only [Act.put, List.setIfInBounds_toArray, List.set_cons_zero, List.set_cons_succ]
            refine wpAnyH_ready (rs := [4]) (by kernel_rfl) (by simp) ?_
            refine AllReadyH.cons rfl (fun K hK => ?_) AllReadyH.nil
            have hHeld2 := hHeld
            go_simp
            go_wp2_with fail
            clear hHeld2
            refine hK.out _ _ (⟨keep_cell e1 hN, keep_cell e4 hN⟩) (fun hHeld => ?_)
            clear hK K
            try simp only [Act.put, List.setIfInBounds_toArray, List.set_cons_zero, List.set_cons_succ]
            refine wpAnyH_ready (rs := [13]) (by kernel_rfl) (by simp) ?_
            refine AllReadyH.cons rfl (fun K hK => ?_) AllReadyH.nil
            obtain ⟨a7, c7, w7, hrun, ho7, hg7, hw7⟩ := append_one (t := 71) (e := 34) (size := 2) (bytes := 16) (z := .agg #[.int .i64 0, .int .i64 0]) Tryz.underlying71 (by kernel_rfl) rfl (by decide) (by decide) w6 X (.slice ra d.res.length rc) d.res.length (rowsR d.res) [.int .i64 r21, .int .i64 r22] w5.heap.size H1.out.res rfl (fun j u hu => cell_row hb0 hu) (by intro u hu; simp at hu; rcases hu with rfl | rfl <;> rfl) (by omega) (Nat.le_trans hXw H6.out)
            have hT := Tg.of H1.out.res hg7
            have hbX : Below X w6 w7 := (Below.refl X w6).grown hg7 (Nat.le_trans hXw H6.out) (fun k hk => (H1.out.res.lt k hk).1)
            have x15 : w7.cell? ⟨x, 15, none⟩ = some (.slice ra d.res.length rc) := cell_row ((hT x _ _ (by decide) H1.out.at_).trans H1.out.at_) rfl
            have f15 : w7.frozen? ⟨x, 15, none⟩ = false := by simp [World.frozen?, (hT x _ _ (by decide) H1.out.at_).trans H1.out.at_]
            have hxat : w7.heap[x]? = some (.cells (dgRow ⟨{ d.e with steps := d.e.steps + t.es, kids := d.e.kids + 1 }, d.s, d.res, d.ended⟩ a aw sv lv (.slice ra d.res.length rc)).toArray 73 (0, 0)) := (hT x _ _ (by decide) H1.out.at_).trans H1.out.at_
            have hEl := Else.cell x 15 w7 (.slice a7 (d.res.length + 1) c7)
            have H2 := hide (H2.out.tg hT (by decide) (by decide))
            have H3 := hide (H3.out.tg hT (by decide) (by decide) (by decide))
            have H5 := hide (H5.out.tg hT (by decide))
            have H4 := hide (H4.out.trans (Kp.of hbX HBX.out) (Nat.le_refl _))
            have e1 : w7.cell? ⟨eb, 1, none⟩ = some (.int .i64 t.ef) := cell_row H3.out.e rfl
            have e4 : w7.cell? ⟨eb, 4, none⟩ = some (.slice aa t.ar.length ac) := cell_row H3.out.e rfl
            have H1 := hide (H1.out.putRes (res := d.res ++ [(r21, r22)]) hT (by rw [rowsR_app, List.length_append]; exact ho7))
            have H2 := hide (H2.out.els hEl hxat (by decide) (by decide))
            have H3 := hide (H3.out.els hEl hxat (by decide) (by decide) (by decide))
            have H5 := hide (H5.out.els hEl hxat (by decide))
            have H4 := hide (H4.out.setCell (i := 15) H1.out.bx HBX.out (.slice a7 (d.res.length + 1) c7))
            clear ho7 hg7 hw7 hbX hxat hEl hb0
            have hN : Below w7.heap.size w7 w7 := Below.refl _ _
            refine wp_append_rows (.tmp 70) (.tmp 78) rfl rfl rfl hrun ?_
            clear hHeld
            refine hK.out _ _ (⟨keep_cell e1 hN, keep_cell e4 hN⟩) (fun hHeld => ?_)
            clear hK K
            try simp only [Act.put, List.setIfInBounds_toArray, List.set_cons_zero, List.set_cons_succ]
            refine takeD (i := 14) (d := some 80) (v := ?_) rfl rfl (by kernel_rfl) (by kernel_rfl) (by kernel_rfl) (fun _ _ _ h => h) (Or.inl ⟨by rfl, ?_⟩) (by assumption) ?_
            rotate_left
            · intro w hSw
              go_simp
              try (with_reducible rfl)
            try simp only [Act.put, List.setIfInBounds_toArray, List.set_cons_zero, List.set_cons_succ]
            refine takeD (i := 15) (d := some 81) (v := ?_) rfl rfl (by kernel_rfl) (by kernel_rfl) (by kernel_rfl) (fun _ _ _ h => h) (Or.inl ⟨by rfl, ?_⟩) (by assumption) ?_
            rotate_left
            · intro w hSw
              go_simp
              try (with_reducible rfl)
            try simp only [Act.put, List.setIfInBounds_toArray, List.set_cons_zero, List.set_cons_succ]
            refine wpAnyH_ready (rs := [16]) (by kernel_rfl) (by simp) ?_
            refine AllReadyH.cons rfl (fun K hK => ?_) AllReadyH.nil
            go_simp
            go_wp2_with fail
            have e1 : (w7.setCell ⟨x, 15, none⟩ (.slice a7 (d.res.length + 1) c7)).cell? ⟨eb, 1, none⟩ = some (.int .i64 t.ef) := cell_row H3.out.e rfl
            have e4 : (w7.setCell ⟨x, 15, none⟩ (.slice a7 (d.res.length + 1) c7)).cell? ⟨eb, 4, none⟩ = some (.slice aa t.ar.length ac) := cell_row H3.out.e rfl
            generalize w7.setCell ⟨x, 15, none⟩ (.slice a7 (d.res.length + 1) c7) = w8 at *
            have hN : Below w8.heap.size w8 w8 := Below.refl _ _
            clear hHeld
            refine hK.out _ _ (⟨keep_cell e1 hN, keep_cell e4 hN⟩) (fun hHeld => ?_)
            clear hK K
            try simp only [Act.put, List.setIfInBounds_toArray, List.set_cons_zero, List.set_cons_succ]
            refine wpAnyH_done (by kernel_rfl) ?_ _
            refine NoPanic.normal ?_
            go_wp2_with fail
            go_meet
            case rel => exact ⟨N1, ev5, aw, .slice a7 (d.res.length + 1) c7, sa, la, aa, sc, lc, ac, (by rw [← List.append_assoc]; exact HQ.out), (by rw [← List.append_assoc]; exact H2.out), H5.out, HAP.out.app HAp.out, H1.out, H4.out, H3.out⟩
      · have k1 : (t.ek == 1) = false := by simpa using h1
        by_cases h2 : t.ek = 2
        · have k2 : (t.ek == 2) = true := by rw [h2]; rfl
          have hev := HEV.out
          unfold evE at hev
          rw [if_neg h1, if_pos h2] at hev
          split at hev
          case isFalse => cases hev
          rename_i hc2
          obtain ⟨b1, b2, b3, b4, b5⟩ := hc2
          split at hev
          case h_2 => cases hev
          rename_i er2 ev2 hres
          split at hev
          case h_2 => cases hev
          rename_i q2 hrm
          simp only [Option.some.injEq, Prod.mk.injEq] at hev
          obtain ⟨rfl, rfl, rfl, rfl⟩ := hev
          obtain ⟨k, hk⟩ : ∃ k : Nat, t.ei = (k : Int) := ⟨t.ei.toNat, (Int.toNat_of_nonneg b1).symm⟩
          have hres' : d.res[k]? = some (er2, ev2) := by rw [hk] at hres; simpa using hres
          have HRES := hide hres'
          have HRM := hide hrm
          have hkl : k < d.res.length := (List.getElem?_eq_some_iff.1 hres').1
          have HB5 := hide b5
          have HKE := hide hk
          obtain ⟨wa, wk, haw⟩ : ∃ wa wk, aw = .slice wa d.e.awaits.length wk := by obtain ⟨q1, q2, q3, _⟩ := own_formI H1.out.aws; exact ⟨q1, q2, q3⟩
          subst haw
          have haw : ∀ g, (Value.slice wa d.e.awaits.length wk).ownBlock = some g → g < w.heap.size := fun g q => (HG.out.aws.lt g q).2
          have HAW := hide haw
          have e2 : w2.cell? ⟨eb, 2, none⟩ = some (.int .i64 (k : Int)) := by rw [← HKE.out]; exact cell_row H3.out.e rfl
          have x7 : w2.cell? ⟨x, 7, none⟩ = some (.slice wa d.e.awaits.length wk) := H1.out.cell 7 _ rfl
          clear hres hres' hrm b1 b5 hk h1 h2 haw
          go_upto_region 8 with fail
          refine wp_region_noPanic ?_
          have hN : Below w2.heap.size w2 w2.drew := (Below.refl _ _).drew
          refine wp_region_held_drew (S := fun W => W.cell? ⟨eb, 2, none⟩ = some (.int .i64 (k : Int))) (by kernel_rfl) (keep_cell e2 hN) (fun hHeld => ?_)
          generalize w2.drew = wd at hN hHeld ⊢
          have x7 := keep_cell x7 hN
          refine takeD (i := 0) (d := some 84) (v := ?_) rfl rfl (by kernel_rfl) (by kernel_rfl) (by kernel_rfl) (fun _ _ _ h => h) (Or.inl ⟨by rfl, ?_⟩) (by assumption) ?_
          rotate_left
          · intro w hSw
            go_simp
            try (with_reducible rfl)
          try simp only [Act.put, List.setIfInBounds_toArray, List.set_cons_zero, List.set_cons_succ]
          refine takeD (i := 1) (d := some 85) (v := ?_) rfl rfl (by kernel_rfl) (by kernel_rfl) (by kernel_rfl) (fun _ _ _ h => h) (Or.inl ⟨by rfl, ?_⟩) (by assumption) ?_
          rotate_left
          · intro w hSw
            go_simp
            try (with_reducible rfl)
          try simp only [Act.put, List.setIfInBounds_toArray, List.set_cons_zero, List.set_cons_succ]
          refine takeD (i := 2) (d := some 86) (v := ?_) rfl rfl (by kernel_rfl) (by kernel_rfl) (by kernel_rfl) (fun _ _ _ h => h) (Or.inl ⟨by rfl, ?_⟩) (by assumption) ?_
          rotate_left
          · intro w hSw
            go_simp
            try (with_reducible rfl)
          try simp only [Act.put, List.setIfInBounds_toArray, List.set_cons_zero, List.set_cons_succ]
          refine takeD (i := 3) (d := some 87) (v := ?_) rfl rfl (by kernel_rfl) (by kernel_rfl) (by kernel_rfl) (fun _ _ _ h => h) (Or.inl ⟨by rfl, ?_⟩) (by assumption) ?_
          rotate_left
          · intro w hSw
            go_simp
            try (with_reducible rfl)
          try simp only [Act.put, List.setIfInBounds_toArray, List.set_cons_zero, List.set_cons_succ]
          refine takeD (i := 4) (d := some 88) (v := ?_) rfl rfl (by kernel_rfl) (by kernel_rfl) (by kernel_rfl) (fun _ _ _ h => h) (Or.inl ⟨by rfl, ?_⟩) (by assumption) ?_
          rotate_left
          · intro w hSw
            go_simp
            try (with_reducible rfl)
          try simp only [Act.put, List.setIfInBounds_toArray, List.set_cons_zero, List.set_cons_succ]
          refine takeD (i := 6) (d := some 90) (v := ?_) rfl rfl (by kernel_rfl) (by kernel_rfl) (by kernel_rfl) (fun _ _ _ h => h) (Or.inl ⟨by rfl, ?_⟩) (by assumption) ?_
          rotate_left
          · intro w hSw
            go_simp
            try (with_reducible rfl)
          try simp only [Act.put, List.setIfInBounds_toArray, List.set_cons_zero, List.set_cons_succ]
          refine takeD (i := 7) (d := some 91) (v := ?_) rfl rfl (by kernel_rfl) (by kernel_rfl) (by kernel_rfl) (fun _ _ _ h => h) (Or.inl ⟨by rfl, ?_⟩) (by assumption) ?_
          rotate_left
          · intro w hSw
            go_simp
            try (with_reducible rfl)
          try simp only [Act.put, List.setIfInBounds_toArray, List.set_cons_zero, List.set_cons_succ]
          refine wpAnyH_ready (rs := [5, 8]) (by kernel_rfl) (by simp) ?_
          refine AllReadyH.cons rfl (fun K hK => ?_) (AllReadyH.cons rfl (fun K hK => ?_) AllReadyH.nil)
          · skip
            have hHeld2 := hHeld
            go_simp
            go_wp2_with fail
            clear hHeld2
            refine hK.out _ _ (keep_cell e2 hN) (fun hHeld => ?_)
            clear hK K
            try simp only [Act.put, List.setIfInBounds_toArray, List.set_cons_zero, List.set_cons_succ]
            refine wpAnyH_ready (rs := [8]) (by kernel_rfl) (by simp) ?_
            refine AllReadyH.cons rfl (fun K hK => ?_) AllReadyH.nil
            go_simp
            go_wp2_with fail
            have hA := alloc_below wd (.cells #[.int .i64 (k : Int)] 3)
            have hb0 := heap_alloc_new wd (.cells #[.int .i64 (k : Int)] 3)
            have hKK := Kp.of (B := w0.heap.size) hN (Nat.le_trans HBX.out (Nat.le_trans hXw H6.out))
            have H4 := hide (H4.out.below_more hN (Nat.le_trans hXw H6.out) HBX.out)
            have H1 := hide (H1.out.kp hKK (Nat.le_refl _))
            have H2 := hide (H2.out.below hN)
            have H3 := hide (H3.out.kp hKK (Nat.le_refl _))
            have H5 := hide (H5.out.kp hKK (Nat.le_refl _))
            have H6 := hide (Nat.le_trans H6.out (hN).size)
            clear hKK
            have hKK := Kp.of (B := w0.heap.size) hA (Nat.le_trans HBX.out (Nat.le_trans hXw H6.out))
            have H4 := hide (H4.out.below_more hA (Nat.le_trans hXw H6.out) HBX.out)
            have H1 := hide (H1.out.kp hKK (Nat.le_refl _))
            have H2 := hide (H2.out.below hA)
            have H3 := hide (H3.out.kp hKK (Nat.le_refl _))
            have H5 := hide (H5.out.kp hKK (Nat.le_refl _))
            have H6 := hide (Nat.le_trans H6.out (hA).size)
            clear hKK
            have x7 := keep_cell x7 hA
            have e2 := keep_cell (keep_cell e2 hN) hA
            generalize wd.alloc (.cells #[.int .i64 (k : Int)] 3) = w6 at *
            have hN : Below w6.heap.size w6 w6 := Below.refl _ _
            clear hA hHeld
            refine hK.out _ _ (keep_cell e2 hN) (fun hHeld => ?_)
            clear hK K
            try simp only [Act.put, List.setIfInBounds_toArray, List.set_cons_zero, List.set_cons_succ]
            refine wpAnyH_ready (rs := [9]) (by kernel_rfl) (by simp) ?_
            refine AllReadyH.cons rfl (fun K hK => ?_) AllReadyH.nil
            obtain ⟨a7, c7, w7, hrun, ho7, hg7, hw7⟩ := append_one (t := 28) (e := 3) (size := 1) (bytes := 8) (z := .int .i64 0) Tryz.underlying28 Tryz.info3 rfl (by decide) (by decide) w6 X (.slice wa d.e.awaits.length wk) d.e.awaits.length (iV d.e.awaits) [.int .i64 (k : Int)] wd.heap.size H1.out.aws rfl (fun j u hu => cell_row hb0 hu) (by intro u hu; simp at hu; subst hu; rfl) (by omega) (Nat.le_trans hXw H6.out)
            have hT := Tg.of H1.out.aws hg7
            have hbX : Below X w6 w7 := (Below.refl X w6).grown hg7 (Nat.le_trans hXw H6.out) (fun q hq => (H1.out.aws.lt q hq).1)
            have hxat : w7.heap[x]? = some (.cells (dgRow ⟨{ d.e with steps := d.e.steps + t.es }, d.s, d.res, d.ended⟩ a (.slice wa d.e.awaits.length wk) sv lv rv).toArray 73 (0, 0)) := (hT x _ _ (by decide) H1.out.at_).trans H1.out.at_
            have x7 : w7.cell? ⟨x, 7, none⟩ = some (.slice wa d.e.awaits.length wk) := cell_row hxat rfl
            have f7 : w7.frozen? ⟨x, 7, none⟩ = false := by simp [World.frozen?, hxat]
            have hEl := Else.cell x 7 w7 (.slice a7 (d.e.awaits.length + 1) c7)
            have HAP2 := hide (Ap.grown HAP.out H5.out hw7)
            have H2 := hide (H2.out.tg hT (by decide) (by decide))
            have H3 := hide (H3.out.apart hg7 hT HAW.out)
            have H5 := hide (H5.out.apart hg7 HAP.out)
            have H4 := hide (H4.out.trans (Kp.of hbX HBX.out) (Nat.le_refl _))
            have e2 : w7.cell? ⟨eb, 2, none⟩ = some (.int .i64 (k : Int)) := by rw [← HKE.out]; exact cell_row H3.out.e rfl
            have hna : ∀ g, (Value.slice a7 (d.e.awaits.length + 1) c7).ownBlock = some g → a.ownBlock ≠ some g := fun g q e => hw7.elim (fun r => H1.out.na g (r ▸ q) e) (fun r => by have := r g q; have := (H1.out.args.lt g e).2; omega)
            have H1 := hide (H1.out.putAws (aws := d.e.awaits ++ [t.ei]) hg7 hT (by rw [HKE.out, OI, iV_app, List.length_append]; exact ho7) hna)
            have H2 := hide (H2.out.els hEl hxat (by decide) (by decide))
            have H3 := hide (H3.out.els hEl hxat (by decide) (by decide) (by decide))
            have H5 := hide (H5.out.els hEl hxat (by decide))
            have H4 := hide (H4.out.setCell (i := 7) H1.out.bx HBX.out (.slice a7 (d.e.awaits.length + 1) c7))
            have H6 := hide (show w.heap.size ≤ (w7.setCell ⟨x, 7, none⟩ (.slice a7 (d.e.awaits.length + 1) c7)).heap.size from H4.out.size)
            clear ho7 hg7 hw7 hbX hxat hEl hb0 hna
            have hN : Below w7.heap.size w7 w7 := Below.refl _ _
            refine wp_append_rows (.tmp 89) (.tmp 92) rfl rfl rfl hrun ?_
            clear hHeld
            refine hK.out _ _ (keep_cell e2 hN) (fun hHeld => ?_)
            clear hK K
            try simp only [Act.put, List.setIfInBounds_toArray, List.set_cons_zero, List.set_cons_succ]
            refine takeD (i := 10) (d := some 94) (v := ?_) rfl rfl (by kernel_rfl) (by kernel_rfl) (by kernel_rfl) (fun _ _ _ h => h) (Or.inl ⟨by rfl, ?_⟩) (by assumption) ?_
            rotate_left
            · intro w hSw
              go_simp
              try (with_reducible rfl)
            try simp only [Act.put, List.setIfInBounds_toArray, List.set_cons_zero, List.set_cons_succ]
            refine takeD (i := 11) (d := some 95) (v := ?_) rfl rfl (by kernel_rfl) (by kernel_rfl) (by kernel_rfl) (fun _ _ _ h => h) (Or.inl ⟨by rfl, ?_⟩) (by assumption) ?_
            rotate_left
            · intro w hSw
              go_simp
              try (with_reducible rfl)
            try simp only [Act.put, List.setIfInBounds_toArray, List.set_cons_zero, List.set_cons_succ]
            refine takeD (i := 12) (d := some 96) (v := ?_) rfl rfl (by kernel_rfl) (by kernel_rfl) (by kernel_rfl) (fun _ _ _ h => h) (Or.inl ⟨by rfl, ?_⟩) (by assumption) ?_
            rotate_left
            · intro w hSw
              go_simp
              try (with_reducible rfl)
            try simp only [Act.put, List.setIfInBounds_toArray, List.set_cons_zero, List.set_cons_succ]
            refine wpAnyH_ready (rs := [13]) (by kernel_rfl) (by simp) ?_
            refine AllReadyH.cons rfl (fun K hK => ?_) AllReadyH.nil
            go_simp
            go_wp2_with fail
            have e2 : (w7.setCell ⟨x, 7, none⟩ (.slice a7 (d.e.awaits.length + 1) c7)).cell? ⟨eb, 2, none⟩ = some (.int .i64 (k : Int)) := by rw [← HKE.out]; exact cell_row H3.out.e rfl
            generalize w7.setCell ⟨x, 7, none⟩ (.slice a7 (d.e.awaits.length + 1) c7) = w8 at *
            have hN : Below w8.heap.size w8 w8 := Below.refl _ _
            clear hHeld
            refine hK.out _ _ (keep_cell e2 hN) (fun hHeld => ?_)
            clear hK K
            try simp only [Act.put, List.setIfInBounds_toArray, List.set_cons_zero, List.set_cons_succ]
            refine wpAnyH_done (by kernel_rfl) ?_ _
            refine NoPanic.normal ?_
            obtain ⟨rg, rc, hrv⟩ : ∃ rg rc, rv = .slice (some ⟨rg, 0, none⟩) d.res.length rc := by
              rcases H1.out.res.2 with ⟨q1, q2⟩ | ⟨g, cap, cur, q1, _⟩
              · exact absurd (show d.res.length = 0 from q2) (by omega)
              · exact ⟨_, cap, q1⟩
            subst hrv
            have rr := rowsR_at d.res k er2 ev2 HRES.out
            have r0 : w8.cell? ⟨rg, k * 2, none⟩ = some (.int .i64 er2) := by have := H1.out.res.cells (g := rg) rfl _ _ rr.1; rw [add_none, Nat.zero_add] at this; exact this
            have r1 : w8.cell? ⟨rg, k * 2 + 1, none⟩ = some (.int .i64 ev2) := by have := H1.out.res.cells (g := rg) rfl _ _ rr.2; rw [add_none, Nat.zero_add] at this; exact this
            have x15 : w8.cell? ⟨x, 15, none⟩ = some (.slice (some ⟨rg, 0, none⟩) d.res.length rc) := H1.out.cell 15 _ rfl
            have v0 : w8.cell? ⟨v, 0, none⟩ = some (.slice j.fa j.nf j.fc) := H2.out.cell 0 _ rfl
            have v1 : w8.cell? ⟨v, 1, none⟩ = some (.int .i64 j.main) := H2.out.cell 1 _ rfl
            have v2 : w8.cell? ⟨v, 2, none⟩ = some (.slice j.aa j.na j.ac) := H2.out.cell 2 _ rfl
            have v3 : w8.cell? ⟨v, 3, none⟩ = some (.int .i64 j.fuel) := H2.out.cell 3 _ rfl
            have v4 : w8.cell? ⟨v, 4, none⟩ = some (.int .i64 j.tasks) := H2.out.cell 4 _ rfl
            have s0 : w8.cell? ⟨sb, 0, none⟩ = some (.int .i64 (t.fn : Int)) := cell_row H3.out.s rfl
            have s1 : w8.cell? ⟨sb, 1, none⟩ = some (.int .i64 (t.pc : Int)) := cell_row H3.out.s rfl
            have s2 : w8.cell? ⟨sb, 2, none⟩ = some (.int .i64 (t.fu : Int)) := cell_row H3.out.s rfl
            have s3 : w8.cell? ⟨sb, 3, none⟩ = some (.slice sa t.sk.length sc) := cell_row H3.out.s rfl
            have s4 : w8.cell? ⟨sb, 4, none⟩ = some (.slice la t.lo.length lc) := cell_row H3.out.s rfl
            have s5 : w8.cell? ⟨sb, 5, none⟩ = some (.int .i64 t.kd) := cell_row H3.out.s rfl
            have s6 : w8.cell? ⟨sb, 6, none⟩ = some (.bool t.wt) := cell_row H3.out.s rfl
            have hkl' : (k : Int) < (d.res.length : Int) := by omega
            have C40 : ∀ (W : World), Below w8.heap.size w8 W → Calls Tryz.prog 40 #[.agg #[.slice j.fa j.nf j.fc, .int .i64 j.main, .slice j.aa j.na j.ac, .int .i64 j.fuel, .int .i64 j.tasks], .agg #[.int .i64 (t.fn : Int), .int .i64 (t.pc : Int), .int .i64 (t.fu : Int), .slice sa t.sk.length sc, .slice la t.lo.length lc, .int .i64 t.kd, .bool t.wt], .agg #[.int .i64 er2, .int .i64 ev2]] W (RunR W (finM q2)) := by
              intro W hW
              have hX8 : X ≤ w8.heap.size := Nat.le_trans hXw H6.out
              have hK8 := Kp.of (B := w0.heap.size) hW (Nat.le_trans HBX.out hX8)
              have hw0 : Below w0.heap.size w0 W := HB.out.trans (H4.out.below.trans (hW.mono (Nat.le_trans HBX.out hX8)))
              exact res_R j cs fs args t er2 ev2 w.heap.size _ _ q2 W (HJ.out.below hw0) (HE.out.below hw0) (own_kp H3.out.st hK8 (Nat.le_refl _) (by decide) (by decide)) (own_kp H3.out.lo hK8 (Nat.le_refl _) (by decide) (by decide)) b3 b4 b2 HB5.out HRM.out
            generalize finM q2 = u at *
            clear rr hrun x7 f7
            go_upto_region 9 with fail
            refine wp_region_noPanic ?_
            have hN : Below w8.heap.size w8 w8.drew := (Below.refl _ _).drew
            refine wp_region_held_drew (S := fun W => W.cell? ⟨v, 0, none⟩ = some (.slice j.fa j.nf j.fc) ∧ W.cell? ⟨v, 1, none⟩ = some (.int .i64 j.main) ∧ W.cell? ⟨v, 2, none⟩ = some (.slice j.aa j.na j.ac) ∧ W.cell? ⟨v, 3, none⟩ = some (.int .i64 j.fuel) ∧ W.cell? ⟨v, 4, none⟩ = some (.int .i64 j.tasks) ∧ W.cell? ⟨x, 15, none⟩ = some (.slice (some ⟨rg, 0, none⟩) d.res.length rc) ∧ W.cell? ⟨rg, k * 2, none⟩ = some (.int .i64 er2) ∧ W.cell? ⟨rg, k * 2 + 1, none⟩ = some (.int .i64 ev2)) (by kernel_rfl) (⟨keep_cell v0 hN, keep_cell v1 hN, keep_cell v2 hN, keep_cell v3 hN, keep_cell v4 hN, keep_cell x15 hN, keep_cell r0 hN, keep_cell r1 hN⟩) (fun hHeld => ?_)
            generalize w8.drew = wd9 at hN hHeld ⊢
            have s0 := keep_cell s0 hN
            have s1 := keep_cell s1 hN
            have s2 := keep_cell s2 hN
            have s3 := keep_cell s3 hN
            have s4 := keep_cell s4 hN
            have s5 := keep_cell s5 hN
            have s6 := keep_cell s6 hN
            have e2 := keep_cell e2 hN
            refine takeD (i := 0) (d := some 98) (v := ?_) rfl rfl (by kernel_rfl) (by kernel_rfl) (by kernel_rfl) (fun _ _ _ h => h) (Or.inl ⟨by rfl, ?_⟩) (by assumption) ?_
            rotate_left
            · intro w hSw
              go_simp
              try (with_reducible rfl)
            try simp only [Act.put, List.setIfInBounds_toArray, List.set_cons_zero, List.set_cons_succ]
            refine takeD (i := 1) (d := some 99) (v := ?_) rfl rfl (by kernel_rfl) (by kernel_rfl) (by kernel_rfl) (fun _ _ _ h => h) (Or.inl ⟨by rfl, ?_⟩) (by assumption) ?_
            rotate_left
            · intro w hSw
              go_simp
              try (with_reducible rfl)
            try simp only [Act.put, List.setIfInBounds_toArray, List.set_cons_zero, List.set_cons_succ]
            refine takeD (i := 2) (d := some 100) (v := ?_) rfl rfl (by kernel_rfl) (by kernel_rfl) (by kernel_rfl) (fun _ _ _ h => h) (Or.inl ⟨by rfl, ?_⟩) (by assumption) ?_
            rotate_left
            · intro w hSw
              go_simp
              try (with_reducible rfl)
            try simp only [Act.put, List.setIfInBounds_toArray, List.set_cons_zero, List.set_cons_succ]
            refine takeD (i := 3) (d := some 101) (v := ?_) rfl rfl (by kernel_rfl) (by kernel_rfl) (by kernel_rfl) (fun _ _ _ h => h) (Or.inl ⟨by rfl, ?_⟩) (by assumption) ?_
            rotate_left
            · intro w hSw
              go_simp
              try (with_reducible rfl)
            try simp only [Act.put, List.setIfInBounds_toArray, List.set_cons_zero, List.set_cons_succ]
            refine takeD (i := 5) (d := some 103) (v := ?_) rfl rfl (by kernel_rfl) (by kernel_rfl) (by kernel_rfl) (fun _ _ _ h => h) (Or.inl ⟨by rfl, ?_⟩) (by assumption) ?_
            rotate_left
            · intro w hSw
              go_simp
              try (with_reducible rfl)
            try simp only [Act.put, List.setIfInBounds_toArray, List.set_cons_zero, List.set_cons_succ]
            refine takeD (i := 6) (d := some 104) (v := ?_) rfl rfl (by kernel_rfl) (by kernel_rfl) (by kernel_rfl) (fun _ _ _ h => h) (Or.inl ⟨by rfl, ?_⟩) (by assumption) ?_
            rotate_left
            · intro w hSw
              go_simp
              try (with_reducible rfl)
            try simp only [Act.put, List.setIfInBounds_toArray, List.set_cons_zero, List.set_cons_succ]
            refine takeD (i := 7) (d := some 105) (v := ?_) rfl rfl (by kernel_rfl) (by kernel_rfl) (by kernel_rfl) (fun _ _ _ h => h) (Or.inl ⟨by rfl, ?_⟩) (by assumption) ?_
            rotate_left
            · intro w hSw
              go_simp
              try (with_reducible rfl)
            try simp only [Act.put, List.setIfInBounds_toArray, List.set_cons_zero, List.set_cons_succ]
            refine takeD (i := 8) (d := some 106) (v := ?_) rfl rfl (by kernel_rfl) (by kernel_rfl) (by kernel_rfl) (fun _ _ _ h => h) (Or.inl ⟨by rfl, ?_⟩) (by assumption) ?_
            rotate_left
            · intro w hSw
              go_simp
              try (with_reducible rfl)
            try simp only [Act.put, List.setIfInBounds_toArray, List.set_cons_zero, List.set_cons_succ]
            refine takeD (i := 9) (d := some 107) (v := ?_) rfl rfl (by kernel_rfl) (by kernel_rfl) (by kernel_rfl) (fun _ _ _ h => h) (Or.inl ⟨by rfl, ?_⟩) (by assumption) ?_
            rotate_left
            · intro w hSw
              go_simp
              try (with_reducible rfl)
            try simp only [Act.put, List.setIfInBounds_toArray, List.set_cons_zero, List.set_cons_succ]
            refine wpAnyH_ready (rs := [4, 10]) (by kernel_rfl) (by simp) ?_
            refine AllReadyH.cons rfl (fun K hK => ?_) (AllReadyH.cons rfl (fun K hK => ?_) AllReadyH.nil)
            · skip
              have hHeld2 := hHeld
              go_simp
              go_wp2_with fail
              clear hHeld2
              refine hK.out _ _ (⟨keep_cell v0 hN, keep_cell v1 hN, keep_cell v2 hN, keep_cell v3 hN, keep_cell v4 hN, keep_cell x15 hN, keep_cell r0 hN, keep_cell r1 hN⟩) (fun hHeld => ?_)
              clear hK K
              try simp only [Act.put, List.setIfInBounds_toArray, List.set_cons_zero, List.set_cons_succ]
              refine wpAnyH_ready (rs := [10]) (by kernel_rfl) (by simp) ?_
              refine AllReadyH.cons rfl (fun K hK => ?_) AllReadyH.nil
              have hHeld2 := hHeld
              go_simp
              go_wp2_with fail
              clear hHeld2
              refine hK.out _ _ (⟨keep_cell v0 hN, keep_cell v1 hN, keep_cell v2 hN, keep_cell v3 hN, keep_cell v4 hN, keep_cell x15 hN, keep_cell r0 hN, keep_cell r1 hN⟩) (fun hHeld => ?_)
              clear hK K
              try simp only [Act.put, List.setIfInBounds_toArray, List.set_cons_zero, List.set_cons_succ]
              refine takeD (i := 11) (d := some 109) (v := ?_) rfl rfl (by kernel_rfl) (by kernel_rfl) (by kernel_rfl) (fun _ _ _ h => h) (Or.inl ⟨by rfl, ?_⟩) (by assumption) ?_
              rotate_left
              · intro w hSw
                go_simp
                try (with_reducible rfl)
              try simp only [Act.put, List.setIfInBounds_toArray, List.set_cons_zero, List.set_cons_succ]
              refine takeD (i := 12) (d := some 110) (v := ?_) rfl rfl (by kernel_rfl) (by kernel_rfl) (by kernel_rfl) (fun _ _ _ h => h) (Or.inl ⟨by rfl, ?_⟩) (by assumption) ?_
              rotate_left
              · intro w hSw
                go_simp
                try (with_reducible rfl)
              try simp only [Act.put, List.setIfInBounds_toArray, List.set_cons_zero, List.set_cons_succ]
              refine wpAnyH_ready (rs := [13]) (by kernel_rfl) (by simp) ?_
              refine AllReadyH.cons rfl (fun K hK => ?_) AllReadyH.nil
              go_simp
              refine (C40 _ hN).mono ?_
              rintro e w9 ⟨sa3, sc3, la3, lc3, aa3, ac3, rfl, o1, o2, o3, hb9⟩
              have hKK := Kp.of (B := w0.heap.size) hN (Nat.le_trans HBX.out (Nat.le_trans hXw H6.out))
              have H4 := hide (H4.out.below_more hN (Nat.le_trans hXw H6.out) HBX.out)
              have H1 := hide (H1.out.kp hKK (Nat.le_refl _))
              have H2 := hide (H2.out.below hN)
              have H3 := hide (H3.out.kp hKK (Nat.le_refl _))
              have H5 := hide (H5.out.kp hKK (Nat.le_refl _))
              have H6 := hide (Nat.le_trans H6.out (hN).size)
              clear hKK
              have o1 := own_monoI o1 H6.out
              have o2 := own_monoI o2 H6.out
              have o3 := own_monoI o3 H6.out
              have hKK := Kp.of (B := w0.heap.size) hb9 (Nat.le_trans HBX.out (Nat.le_trans hXw H6.out))
              have H4 := hide (H4.out.below_more hb9 (Nat.le_trans hXw H6.out) HBX.out)
              have H1 := hide (H1.out.kp hKK (Nat.le_refl _))
              have H2 := hide (H2.out.below hb9)
              have H3 := hide (H3.out.kp hKK (Nat.le_refl _))
              have H5 := hide (H5.out.kp hKK (Nat.le_refl _))
              have H6 := hide (Nat.le_trans H6.out (hb9).size)
              clear hKK
              have hN := chain hN hb9
              have hs : w9.heap[sb]? = some (.cells [.int .i64 (t.fn : Int), .int .i64 (t.pc : Int), .int .i64 (t.fu : Int), .slice sa t.sk.length sc, .slice la t.lo.length lc, .int .i64 t.kd, .bool t.wt].toArray 70 (0, 0)) := H3.out.s
              have he : w9.heap[eb]? = some (.cells [.int .i64 t.ek, .int .i64 t.ef, .int .i64 (k : Int), .int .i64 (t.es : Int), .slice aa t.ar.length ac, .int .i64 t.er, .int .i64 t.ev].toArray 100 (0, 0)) := by rw [← HKE.out]; exact H3.out.e
              go_wp2_with fail
              clear hHeld hb9
              refine hK.out _ _ (⟨keep_cell v0 hN, keep_cell v1 hN, keep_cell v2 hN, keep_cell v3 hN, keep_cell v4 hN, keep_cell x15 hN, keep_cell r0 hN, keep_cell r1 hN⟩) (fun hHeld => ?_)
              clear hK K
              try simp only [Act.put, List.setIfInBounds_toArray, List.set_cons_zero, List.set_cons_succ]
              refine takeD (i := 14) (d := some 97) (v := ?_) rfl rfl (by kernel_rfl) (by kernel_rfl) (by kernel_rfl) (fun _ _ _ h => h) (Or.inl ⟨by rfl, ?_⟩) (by assumption) ?_
              rotate_left
              · intro w hSw
                go_simp
                try (with_reducible rfl)
              try simp only [Act.put, List.setIfInBounds_toArray, List.set_cons_zero, List.set_cons_succ]
              refine takeD (i := 15) (d := some 112) (v := ?_) rfl rfl (by kernel_rfl) (by kernel_rfl) (by kernel_rfl) (fun _ _ _ h => h) (Or.inl ⟨by rfl, ?_⟩) (by assumption) ?_
              rotate_left
              · intro w hSw
                go_simp
                try (with_reducible rfl)
              try simp only [Act.put, List.setIfInBounds_toArray, List.set_cons_zero, List.set_cons_succ]
              refine takeD (i := 16) (d := some 113) (v := ?_) rfl rfl (by kernel_rfl) (by kernel_rfl) (by kernel_rfl) (fun _ _ _ h => h) (Or.inl ⟨by rfl, ?_⟩) (by assumption) ?_
              rotate_left
              · intro w hSw
                go_simp
                try (with_reducible rfl)
              try simp only [Act.put, List.setIfInBounds_toArray, List.set_cons_zero, List.set_cons_succ]
              refine wpAnyH_ready (rs := [17]) (by kernel_rfl) (by simp) ?_
              refine AllReadyH.cons rfl (fun K hK => ?_) AllReadyH.nil
              have z0 : w9.cell? ⟨sb, 0, none⟩ = some (.int .i64 (t.fn : Int)) := cell_row hs rfl
              have y0 : w9.frozen? ⟨sb, 0, none⟩ = false := frozen_row hs
              have z1 : w9.cell? ⟨sb, 1, none⟩ = some (.int .i64 (t.pc : Int)) := cell_row hs rfl
              have y1 : w9.frozen? ⟨sb, 1, none⟩ = false := frozen_row hs
              have z2 : w9.cell? ⟨sb, 2, none⟩ = some (.int .i64 (t.fu : Int)) := cell_row hs rfl
              have y2 : w9.frozen? ⟨sb, 2, none⟩ = false := frozen_row hs
              have z3 : w9.cell? ⟨sb, 3, none⟩ = some (.slice sa t.sk.length sc) := cell_row hs rfl
              have y3 : w9.frozen? ⟨sb, 3, none⟩ = false := frozen_row hs
              have z4 : w9.cell? ⟨sb, 4, none⟩ = some (.slice la t.lo.length lc) := cell_row hs rfl
              have y4 : w9.frozen? ⟨sb, 4, none⟩ = false := frozen_row hs
              have z5 : w9.cell? ⟨sb, 5, none⟩ = some (.int .i64 t.kd) := cell_row hs rfl
              have y5 : w9.frozen? ⟨sb, 5, none⟩ = false := frozen_row hs
              have z6 : w9.cell? ⟨sb, 6, none⟩ = some (.bool t.wt) := cell_row hs rfl
              have y6 : w9.frozen? ⟨sb, 6, none⟩ = false := frozen_row hs
              go_simp
              go_wp2_with fail
              clear z0 y0 z1 y1 z2 y2 z3 y3 z4 y4 z5 y5 z6 y6
              show K _ (w9.setCells (sb) 0 [.int .i64 (u.fn : Int), .int .i64 (u.pc : Int), .int .i64 (u.fu : Int), .slice sa3 u.sk.length sc3, .slice la3 u.lo.length lc3, .int .i64 u.kd, .bool u.wt])
              have hE := Else.cells sb 0 w9 [.int .i64 (u.fn : Int), .int .i64 (u.pc : Int), .int .i64 (u.fu : Int), .slice sa3 u.sk.length sc3, .slice la3 u.lo.length lc3, .int .i64 u.kd, .bool u.wt]
              have o1 := own_else o1 hE hs (by decide)
              have o2 := own_else o2 hE hs (by decide)
              have o3 := own_else o3 hE hs (by decide)
              have H1r := own_else H1.out.res hE hs (by decide)
              have H2 := hide (H2.out.els hE hs (by decide) (by decide))
              have H5 := hide (H5.out.els hE hs (by decide))
              have H4 := hide (H4.out.setCells (x := sb) (Nat.le_trans hXw H3.out.bs) HBX.out 0 [.int .i64 (u.fn : Int), .int .i64 (u.pc : Int), .int .i64 (u.fu : Int), .slice sa3 u.sk.length sc3, .slice la3 u.lo.length lc3, .int .i64 u.kd, .bool u.wt])
              have H1 := hide (show DgW X (w9.setCells (sb) 0 [.int .i64 (u.fn : Int), .int .i64 (u.pc : Int), .int .i64 (u.fu : Int), .slice sa3 u.sk.length sc3, .slice la3 u.lo.length lc3, .int .i64 u.kd, .bool u.wt]) x _ a _ sv lv _ from ⟨(hE x (tagNe H1.out.at_ hs (by decide))).trans H1.out.at_, H1.out.bx, own_else H1.out.args hE hs (by decide), own_else H1.out.aws hE hs (by decide), H1r, H1.out.na⟩)
              have he := (hE eb (tagNe he hs (by decide))).trans he
              have hs := setCells_row (vs := [.int .i64 (u.fn : Int), .int .i64 (u.pc : Int), .int .i64 (u.fu : Int), .slice sa3 u.sk.length sc3, .slice la3 u.lo.length lc3, .int .i64 u.kd, .bool u.wt]) hs rfl
              have v0 : (w9.setCells (sb) 0 [.int .i64 (u.fn : Int), .int .i64 (u.pc : Int), .int .i64 (u.fu : Int), .slice sa3 u.sk.length sc3, .slice la3 u.lo.length lc3, .int .i64 u.kd, .bool u.wt]).cell? ⟨v, 0, none⟩ = some (.slice j.fa j.nf j.fc) := H2.out.cell 0 _ rfl
              have v1 : (w9.setCells (sb) 0 [.int .i64 (u.fn : Int), .int .i64 (u.pc : Int), .int .i64 (u.fu : Int), .slice sa3 u.sk.length sc3, .slice la3 u.lo.length lc3, .int .i64 u.kd, .bool u.wt]).cell? ⟨v, 1, none⟩ = some (.int .i64 j.main) := H2.out.cell 1 _ rfl
              have v2 : (w9.setCells (sb) 0 [.int .i64 (u.fn : Int), .int .i64 (u.pc : Int), .int .i64 (u.fu : Int), .slice sa3 u.sk.length sc3, .slice la3 u.lo.length lc3, .int .i64 u.kd, .bool u.wt]).cell? ⟨v, 2, none⟩ = some (.slice j.aa j.na j.ac) := H2.out.cell 2 _ rfl
              have v3 : (w9.setCells (sb) 0 [.int .i64 (u.fn : Int), .int .i64 (u.pc : Int), .int .i64 (u.fu : Int), .slice sa3 u.sk.length sc3, .slice la3 u.lo.length lc3, .int .i64 u.kd, .bool u.wt]).cell? ⟨v, 3, none⟩ = some (.int .i64 j.fuel) := H2.out.cell 3 _ rfl
              have v4 : (w9.setCells (sb) 0 [.int .i64 (u.fn : Int), .int .i64 (u.pc : Int), .int .i64 (u.fu : Int), .slice sa3 u.sk.length sc3, .slice la3 u.lo.length lc3, .int .i64 u.kd, .bool u.wt]).cell? ⟨v, 4, none⟩ = some (.int .i64 j.tasks) := H2.out.cell 4 _ rfl
              have x15 : (w9.setCells (sb) 0 [.int .i64 (u.fn : Int), .int .i64 (u.pc : Int), .int .i64 (u.fu : Int), .slice sa3 u.sk.length sc3, .slice la3 u.lo.length lc3, .int .i64 u.kd, .bool u.wt]).cell? ⟨x, 15, none⟩ = some (.slice (some ⟨rg, 0, none⟩) d.res.length rc) := H1.out.cell 15 _ rfl
              have rr := rowsR_at d.res k er2 ev2 HRES.out
              have r0 : (w9.setCells (sb) 0 [.int .i64 (u.fn : Int), .int .i64 (u.pc : Int), .int .i64 (u.fu : Int), .slice sa3 u.sk.length sc3, .slice la3 u.lo.length lc3, .int .i64 u.kd, .bool u.wt]).cell? ⟨rg, k * 2, none⟩ = some (.int .i64 er2) := by have := H1r.cells (g := rg) rfl _ _ rr.1; rw [add_none, Nat.zero_add] at this; exact this
              have r1 : (w9.setCells (sb) 0 [.int .i64 (u.fn : Int), .int .i64 (u.pc : Int), .int .i64 (u.fu : Int), .slice sa3 u.sk.length sc3, .slice la3 u.lo.length lc3, .int .i64 u.kd, .bool u.wt]).cell? ⟨rg, k * 2 + 1, none⟩ = some (.int .i64 ev2) := by have := H1r.cells (g := rg) rfl _ _ rr.2; rw [add_none, Nat.zero_add] at this; exact this
              clear hE H1r rr
              generalize w9.setCells (sb) 0 [.int .i64 (u.fn : Int), .int .i64 (u.pc : Int), .int .i64 (u.fu : Int), .slice sa3 u.sk.length sc3, .slice la3 u.lo.length lc3, .int .i64 u.kd, .bool u.wt] = w10 at *
              have hN : Below w10.heap.size w10 w10 := Below.refl _ _
              clear hHeld
              refine hK.out _ _ (⟨keep_cell v0 hN, keep_cell v1 hN, keep_cell v2 hN, keep_cell v3 hN, keep_cell v4 hN, keep_cell x15 hN, keep_cell r0 hN, keep_cell r1 hN⟩) (fun hHeld => ?_)
              clear hK K
              try simp only [Act.put, List.setIfInBounds_toArray, List.set_cons_zero, List.set_cons_succ]
              refine wpAnyH_ready (rs := [18]) (by kernel_rfl) (by simp) ?_
              refine AllReadyH.cons rfl (fun K hK => ?_) AllReadyH.nil
              have z0 : w10.cell? ⟨eb, 0, none⟩ = some (.int .i64 t.ek) := cell_row he rfl
              have y0 : w10.frozen? ⟨eb, 0, none⟩ = false := frozen_row he
              have z1 : w10.cell? ⟨eb, 1, none⟩ = some (.int .i64 t.ef) := cell_row he rfl
              have y1 : w10.frozen? ⟨eb, 1, none⟩ = false := frozen_row he
              have z2 : w10.cell? ⟨eb, 2, none⟩ = some (.int .i64 (k : Int)) := cell_row he rfl
              have y2 : w10.frozen? ⟨eb, 2, none⟩ = false := frozen_row he
              have z3 : w10.cell? ⟨eb, 3, none⟩ = some (.int .i64 (t.es : Int)) := cell_row he rfl
              have y3 : w10.frozen? ⟨eb, 3, none⟩ = false := frozen_row he
              have z4 : w10.cell? ⟨eb, 4, none⟩ = some (.slice aa t.ar.length ac) := cell_row he rfl
              have y4 : w10.frozen? ⟨eb, 4, none⟩ = false := frozen_row he
              have z5 : w10.cell? ⟨eb, 5, none⟩ = some (.int .i64 t.er) := cell_row he rfl
              have y5 : w10.frozen? ⟨eb, 5, none⟩ = false := frozen_row he
              have z6 : w10.cell? ⟨eb, 6, none⟩ = some (.int .i64 t.ev) := cell_row he rfl
              have y6 : w10.frozen? ⟨eb, 6, none⟩ = false := frozen_row he
              go_simp
              go_wp2_with fail
              clear z0 y0 z1 y1 z2 y2 z3 y3 z4 y4 z5 y5 z6 y6
              show K _ (w10.setCells (eb) 0 [.int .i64 u.ek, .int .i64 u.ef, .int .i64 u.ei, .int .i64 (u.es : Int), .slice aa3 u.ar.length ac3, .int .i64 u.er, .int .i64 u.ev])
              have hE := Else.cells eb 0 w10 [.int .i64 u.ek, .int .i64 u.ef, .int .i64 u.ei, .int .i64 (u.es : Int), .slice aa3 u.ar.length ac3, .int .i64 u.er, .int .i64 u.ev]
              have o1 := own_else o1 hE he (by decide)
              have o2 := own_else o2 hE he (by decide)
              have o3 := own_else o3 hE he (by decide)
              have H1r := own_else H1.out.res hE he (by decide)
              have H2 := hide (H2.out.els hE he (by decide) (by decide))
              have H5 := hide (H5.out.els hE he (by decide))
              have H4 := hide (H4.out.setCells (x := eb) (Nat.le_trans hXw H3.out.be) HBX.out 0 [.int .i64 u.ek, .int .i64 u.ef, .int .i64 u.ei, .int .i64 (u.es : Int), .slice aa3 u.ar.length ac3, .int .i64 u.er, .int .i64 u.ev])
              have H1 := hide (show DgW X (w10.setCells (eb) 0 [.int .i64 u.ek, .int .i64 u.ef, .int .i64 u.ei, .int .i64 (u.es : Int), .slice aa3 u.ar.length ac3, .int .i64 u.er, .int .i64 u.ev]) x _ a _ sv lv _ from ⟨(hE x (tagNe H1.out.at_ he (by decide))).trans H1.out.at_, H1.out.bx, own_else H1.out.args hE he (by decide), own_else H1.out.aws hE he (by decide), H1r, H1.out.na⟩)
              have hs := (hE sb (tagNe hs he (by decide))).trans hs
              have he := setCells_row (vs := [.int .i64 u.ek, .int .i64 u.ef, .int .i64 u.ei, .int .i64 (u.es : Int), .slice aa3 u.ar.length ac3, .int .i64 u.er, .int .i64 u.ev]) he rfl
              have v0 : (w10.setCells (eb) 0 [.int .i64 u.ek, .int .i64 u.ef, .int .i64 u.ei, .int .i64 (u.es : Int), .slice aa3 u.ar.length ac3, .int .i64 u.er, .int .i64 u.ev]).cell? ⟨v, 0, none⟩ = some (.slice j.fa j.nf j.fc) := H2.out.cell 0 _ rfl
              have v1 : (w10.setCells (eb) 0 [.int .i64 u.ek, .int .i64 u.ef, .int .i64 u.ei, .int .i64 (u.es : Int), .slice aa3 u.ar.length ac3, .int .i64 u.er, .int .i64 u.ev]).cell? ⟨v, 1, none⟩ = some (.int .i64 j.main) := H2.out.cell 1 _ rfl
              have v2 : (w10.setCells (eb) 0 [.int .i64 u.ek, .int .i64 u.ef, .int .i64 u.ei, .int .i64 (u.es : Int), .slice aa3 u.ar.length ac3, .int .i64 u.er, .int .i64 u.ev]).cell? ⟨v, 2, none⟩ = some (.slice j.aa j.na j.ac) := H2.out.cell 2 _ rfl
              have v3 : (w10.setCells (eb) 0 [.int .i64 u.ek, .int .i64 u.ef, .int .i64 u.ei, .int .i64 (u.es : Int), .slice aa3 u.ar.length ac3, .int .i64 u.er, .int .i64 u.ev]).cell? ⟨v, 3, none⟩ = some (.int .i64 j.fuel) := H2.out.cell 3 _ rfl
              have v4 : (w10.setCells (eb) 0 [.int .i64 u.ek, .int .i64 u.ef, .int .i64 u.ei, .int .i64 (u.es : Int), .slice aa3 u.ar.length ac3, .int .i64 u.er, .int .i64 u.ev]).cell? ⟨v, 4, none⟩ = some (.int .i64 j.tasks) := H2.out.cell 4 _ rfl
              have x15 : (w10.setCells (eb) 0 [.int .i64 u.ek, .int .i64 u.ef, .int .i64 u.ei, .int .i64 (u.es : Int), .slice aa3 u.ar.length ac3, .int .i64 u.er, .int .i64 u.ev]).cell? ⟨x, 15, none⟩ = some (.slice (some ⟨rg, 0, none⟩) d.res.length rc) := H1.out.cell 15 _ rfl
              have rr := rowsR_at d.res k er2 ev2 HRES.out
              have r0 : (w10.setCells (eb) 0 [.int .i64 u.ek, .int .i64 u.ef, .int .i64 u.ei, .int .i64 (u.es : Int), .slice aa3 u.ar.length ac3, .int .i64 u.er, .int .i64 u.ev]).cell? ⟨rg, k * 2, none⟩ = some (.int .i64 er2) := by have := H1r.cells (g := rg) rfl _ _ rr.1; rw [add_none, Nat.zero_add] at this; exact this
              have r1 : (w10.setCells (eb) 0 [.int .i64 u.ek, .int .i64 u.ef, .int .i64 u.ei, .int .i64 (u.es : Int), .slice aa3 u.ar.length ac3, .int .i64 u.er, .int .i64 u.ev]).cell? ⟨rg, k * 2 + 1, none⟩ = some (.int .i64 ev2) := by have := H1r.cells (g := rg) rfl _ _ rr.2; rw [add_none, Nat.zero_add] at this; exact this
              clear hE H1r rr
              generalize w10.setCells (eb) 0 [.int .i64 u.ek, .int .i64 u.ef, .int .i64 u.ei, .int .i64 (u.es : Int), .slice aa3 u.ar.length ac3, .int .i64 u.er, .int .i64 u.ev] = w11 at *
              have hN : Below w11.heap.size w11 w11 := Below.refl _ _
              clear hHeld
              refine hK.out _ _ (⟨keep_cell v0 hN, keep_cell v1 hN, keep_cell v2 hN, keep_cell v3 hN, keep_cell v4 hN, keep_cell x15 hN, keep_cell r0 hN, keep_cell r1 hN⟩) (fun hHeld => ?_)
              clear hK K
              try simp only [Act.put, List.setIfInBounds_toArray, List.set_cons_zero, List.set_cons_succ]
              refine wpAnyH_done (by kernel_rfl) ?_ _
              refine NoPanic.normal ?_
              go_wp2_with fail
              go_meet
              case rel => exact ⟨[], ev, .slice a7 (d.e.awaits.length + 1) c7, .slice (some ⟨rg, 0, none⟩) d.res.length rc, sa3, la3, aa3, sc3, lc3, ac3, (by rw [List.append_nil]; exact rfl), (by rw [List.append_nil]; exact H2.out), (by rw [List.append_nil]; exact H5.out), (by rw [List.append_nil]; exact HAP2.out), H1.out, H4.out, ⟨hs, he, H3.out.bs, H3.out.be, o1, o2, o3⟩⟩
            · skip
              have hHeld2 := hHeld
              go_simp
              go_wp2_with fail
              clear hHeld2
              refine hK.out _ _ (⟨keep_cell v0 hN, keep_cell v1 hN, keep_cell v2 hN, keep_cell v3 hN, keep_cell v4 hN, keep_cell x15 hN, keep_cell r0 hN, keep_cell r1 hN⟩) (fun hHeld => ?_)
              clear hK K
              try simp only [Act.put, List.setIfInBounds_toArray, List.set_cons_zero, List.set_cons_succ]
              refine takeD (i := 11) (d := some 109) (v := ?_) rfl rfl (by kernel_rfl) (by kernel_rfl) (by kernel_rfl) (fun _ _ _ h => h) (Or.inl ⟨by rfl, ?_⟩) (by assumption) ?_
              rotate_left
              · intro w hSw
                go_simp
                try (with_reducible rfl)
              try simp only [Act.put, List.setIfInBounds_toArray, List.set_cons_zero, List.set_cons_succ]
              refine takeD (i := 12) (d := some 110) (v := ?_) rfl rfl (by kernel_rfl) (by kernel_rfl) (by kernel_rfl) (fun _ _ _ h => h) (Or.inl ⟨by rfl, ?_⟩) (by assumption) ?_
              rotate_left
              · intro w hSw
                go_simp
                try (with_reducible rfl)
              try simp only [Act.put, List.setIfInBounds_toArray, List.set_cons_zero, List.set_cons_succ]
              refine wpAnyH_ready (rs := [4]) (by kernel_rfl) (by simp) ?_
              refine AllReadyH.cons rfl (fun K hK => ?_) AllReadyH.nil
              have hHeld2 := hHeld
              go_simp
              go_wp2_with fail
              clear hHeld2
              refine hK.out _ _ (⟨keep_cell v0 hN, keep_cell v1 hN, keep_cell v2 hN, keep_cell v3 hN, keep_cell v4 hN, keep_cell x15 hN, keep_cell r0 hN, keep_cell r1 hN⟩) (fun hHeld => ?_)
              clear hK K
              try simp only [Act.put, List.setIfInBounds_toArray, List.set_cons_zero, List.set_cons_succ]
              refine wpAnyH_ready (rs := [13]) (by kernel_rfl) (by simp) ?_
              refine AllReadyH.cons rfl (fun K hK => ?_) AllReadyH.nil
              go_simp
              refine (C40 _ hN).mono ?_
              rintro e w9 ⟨sa3, sc3, la3, lc3, aa3, ac3, rfl, o1, o2, o3, hb9⟩
              have hKK := Kp.of (B := w0.heap.size) hN (Nat.le_trans HBX.out (Nat.le_trans hXw H6.out))
              have H4 := hide (H4.out.below_more hN (Nat.le_trans hXw H6.out) HBX.out)
              have H1 := hide (H1.out.kp hKK (Nat.le_refl _))
              have H2 := hide (H2.out.below hN)
              have H3 := hide (H3.out.kp hKK (Nat.le_refl _))
              have H5 := hide (H5.out.kp hKK (Nat.le_refl _))
              have H6 := hide (Nat.le_trans H6.out (hN).size)
              clear hKK
              have o1 := own_monoI o1 H6.out
              have o2 := own_monoI o2 H6.out
              have o3 := own_monoI o3 H6.out
              have hKK := Kp.of (B := w0.heap.size) hb9 (Nat.le_trans HBX.out (Nat.le_trans hXw H6.out))
              have H4 := hide (H4.out.below_more hb9 (Nat.le_trans hXw H6.out) HBX.out)
              have H1 := hide (H1.out.kp hKK (Nat.le_refl _))
              have H2 := hide (H2.out.below hb9)
              have H3 := hide (H3.out.kp hKK (Nat.le_refl _))
              have H5 := hide (H5.out.kp hKK (Nat.le_refl _))
              have H6 := hide (Nat.le_trans H6.out (hb9).size)
              clear hKK
              have hN := chain hN hb9
              have hs : w9.heap[sb]? = some (.cells [.int .i64 (t.fn : Int), .int .i64 (t.pc : Int), .int .i64 (t.fu : Int), .slice sa t.sk.length sc, .slice la t.lo.length lc, .int .i64 t.kd, .bool t.wt].toArray 70 (0, 0)) := H3.out.s
              have he : w9.heap[eb]? = some (.cells [.int .i64 t.ek, .int .i64 t.ef, .int .i64 (k : Int), .int .i64 (t.es : Int), .slice aa t.ar.length ac, .int .i64 t.er, .int .i64 t.ev].toArray 100 (0, 0)) := by rw [← HKE.out]; exact H3.out.e
              go_wp2_with fail
              clear hHeld hb9
              refine hK.out _ _ (⟨keep_cell v0 hN, keep_cell v1 hN, keep_cell v2 hN, keep_cell v3 hN, keep_cell v4 hN, keep_cell x15 hN, keep_cell r0 hN, keep_cell r1 hN⟩) (fun hHeld => ?_)
              clear hK K
              try simp only [Act.put, List.setIfInBounds_toArray, List.set_cons_zero, List.set_cons_succ]
              refine takeD (i := 14) (d := some 97) (v := ?_) rfl rfl (by kernel_rfl) (by kernel_rfl) (by kernel_rfl) (fun _ _ _ h => h) (Or.inl ⟨by rfl, ?_⟩) (by assumption) ?_
              rotate_left
              · intro w hSw
                go_simp
                try (with_reducible rfl)
              try simp only [Act.put, List.setIfInBounds_toArray, List.set_cons_zero, List.set_cons_succ]
              refine takeD (i := 15) (d := some 112) (v := ?_) rfl rfl (by kernel_rfl) (by kernel_rfl) (by kernel_rfl) (fun _ _ _ h => h) (Or.inl ⟨by rfl, ?_⟩) (by assumption) ?_
              rotate_left
              · intro w hSw
                go_simp
                try (with_reducible rfl)
              try simp only [Act.put, List.setIfInBounds_toArray, List.set_cons_zero, List.set_cons_succ]
              refine takeD (i := 16) (d := some 113) (v := ?_) rfl rfl (by kernel_rfl) (by kernel_rfl) (by kernel_rfl) (fun _ _ _ h => h) (Or.inl ⟨by rfl, ?_⟩) (by assumption) ?_
              rotate_left
              · intro w hSw
                go_simp
                try (with_reducible rfl)
              try simp only [Act.put, List.setIfInBounds_toArray, List.set_cons_zero, List.set_cons_succ]
              refine wpAnyH_ready (rs := [17]) (by kernel_rfl) (by simp) ?_
              refine AllReadyH.cons rfl (fun K hK => ?_) AllReadyH.nil
              have z0 : w9.cell? ⟨sb, 0, none⟩ = some (.int .i64 (t.fn : Int)) := cell_row hs rfl
              have y0 : w9.frozen? ⟨sb, 0, none⟩ = false := frozen_row hs
              have z1 : w9.cell? ⟨sb, 1, none⟩ = some (.int .i64 (t.pc : Int)) := cell_row hs rfl
              have y1 : w9.frozen? ⟨sb, 1, none⟩ = false := frozen_row hs
              have z2 : w9.cell? ⟨sb, 2, none⟩ = some (.int .i64 (t.fu : Int)) := cell_row hs rfl
              have y2 : w9.frozen? ⟨sb, 2, none⟩ = false := frozen_row hs
              have z3 : w9.cell? ⟨sb, 3, none⟩ = some (.slice sa t.sk.length sc) := cell_row hs rfl
              have y3 : w9.frozen? ⟨sb, 3, none⟩ = false := frozen_row hs
              have z4 : w9.cell? ⟨sb, 4, none⟩ = some (.slice la t.lo.length lc) := cell_row hs rfl
              have y4 : w9.frozen? ⟨sb, 4, none⟩ = false := frozen_row hs
              have z5 : w9.cell? ⟨sb, 5, none⟩ = some (.int .i64 t.kd) := cell_row hs rfl
              have y5 : w9.frozen? ⟨sb, 5, none⟩ = false := frozen_row hs
              have z6 : w9.cell? ⟨sb, 6, none⟩ = some (.bool t.wt) := cell_row hs rfl
              have y6 : w9.frozen? ⟨sb, 6, none⟩ = false := frozen_row hs
              go_simp
              go_wp2_with fail
              clear z0 y0 z1 y1 z2 y2 z3 y3 z4 y4 z5 y5 z6 y6
              show K _ (w9.setCells (sb) 0 [.int .i64 (u.fn : Int), .int .i64 (u.pc : Int), .int .i64 (u.fu : Int), .slice sa3 u.sk.length sc3, .slice la3 u.lo.length lc3, .int .i64 u.kd, .bool u.wt])
              have hE := Else.cells sb 0 w9 [.int .i64 (u.fn : Int), .int .i64 (u.pc : Int), .int .i64 (u.fu : Int), .slice sa3 u.sk.length sc3, .slice la3 u.lo.length lc3, .int .i64 u.kd, .bool u.wt]
              have o1 := own_else o1 hE hs (by decide)
              have o2 := own_else o2 hE hs (by decide)
              have o3 := own_else o3 hE hs (by decide)
              have H1r := own_else H1.out.res hE hs (by decide)
              have H2 := hide (H2.out.els hE hs (by decide) (by decide))
              have H5 := hide (H5.out.els hE hs (by decide))
              have H4 := hide (H4.out.setCells (x := sb) (Nat.le_trans hXw H3.out.bs) HBX.out 0 [.int .i64 (u.fn : Int), .int .i64 (u.pc : Int), .int .i64 (u.fu : Int), .slice sa3 u.sk.length sc3, .slice la3 u.lo.length lc3, .int .i64 u.kd, .bool u.wt])
              have H1 := hide (show DgW X (w9.setCells (sb) 0 [.int .i64 (u.fn : Int), .int .i64 (u.pc : Int), .int .i64 (u.fu : Int), .slice sa3 u.sk.length sc3, .slice la3 u.lo.length lc3, .int .i64 u.kd, .bool u.wt]) x _ a _ sv lv _ from ⟨(hE x (tagNe H1.out.at_ hs (by decide))).trans H1.out.at_, H1.out.bx, own_else H1.out.args hE hs (by decide), own_else H1.out.aws hE hs (by decide), H1r, H1.out.na⟩)
              have he := (hE eb (tagNe he hs (by decide))).trans he
              have hs := setCells_row (vs := [.int .i64 (u.fn : Int), .int .i64 (u.pc : Int), .int .i64 (u.fu : Int), .slice sa3 u.sk.length sc3, .slice la3 u.lo.length lc3, .int .i64 u.kd, .bool u.wt]) hs rfl
              have v0 : (w9.setCells (sb) 0 [.int .i64 (u.fn : Int), .int .i64 (u.pc : Int), .int .i64 (u.fu : Int), .slice sa3 u.sk.length sc3, .slice la3 u.lo.length lc3, .int .i64 u.kd, .bool u.wt]).cell? ⟨v, 0, none⟩ = some (.slice j.fa j.nf j.fc) := H2.out.cell 0 _ rfl
              have v1 : (w9.setCells (sb) 0 [.int .i64 (u.fn : Int), .int .i64 (u.pc : Int), .int .i64 (u.fu : Int), .slice sa3 u.sk.length sc3, .slice la3 u.lo.length lc3, .int .i64 u.kd, .bool u.wt]).cell? ⟨v, 1, none⟩ = some (.int .i64 j.main) := H2.out.cell 1 _ rfl
              have v2 : (w9.setCells (sb) 0 [.int .i64 (u.fn : Int), .int .i64 (u.pc : Int), .int .i64 (u.fu : Int), .slice sa3 u.sk.length sc3, .slice la3 u.lo.length lc3, .int .i64 u.kd, .bool u.wt]).cell? ⟨v, 2, none⟩ = some (.slice j.aa j.na j.ac) := H2.out.cell 2 _ rfl
              have v3 : (w9.setCells (sb) 0 [.int .i64 (u.fn : Int), .int .i64 (u.pc : Int), .int .i64 (u.fu : Int), .slice sa3 u.sk.length sc3, .slice la3 u.lo.length lc3, .int .i64 u.kd, .bool u.wt]).cell? ⟨v, 3, none⟩ = some (.int .i64 j.fuel) := H2.out.cell 3 _ rfl
              have v4 : (w9.setCells (sb) 0 [.int .i64 (u.fn : Int), .int .i64 (u.pc : Int), .int .i64 (u.fu : Int), .slice sa3 u.sk.length sc3, .slice la3 u.lo.length lc3, .int .i64 u.kd, .bool u.wt]).cell? ⟨v, 4, none⟩ = some (.int .i64 j.tasks) := H2.out.cell 4 _ rfl
              have x15 : (w9.setCells (sb) 0 [.int .i64 (u.fn : Int), .int .i64 (u.pc : Int), .int .i64 (u.fu : Int), .slice sa3 u.sk.length sc3, .slice la3 u.lo.length lc3, .int .i64 u.kd, .bool u.wt]).cell? ⟨x, 15, none⟩ = some (.slice (some ⟨rg, 0, none⟩) d.res.length rc) := H1.out.cell 15 _ rfl
              have rr := rowsR_at d.res k er2 ev2 HRES.out
              have r0 : (w9.setCells (sb) 0 [.int .i64 (u.fn : Int), .int .i64 (u.pc : Int), .int .i64 (u.fu : Int), .slice sa3 u.sk.length sc3, .slice la3 u.lo.length lc3, .int .i64 u.kd, .bool u.wt]).cell? ⟨rg, k * 2, none⟩ = some (.int .i64 er2) := by have := H1r.cells (g := rg) rfl _ _ rr.1; rw [add_none, Nat.zero_add] at this; exact this
              have r1 : (w9.setCells (sb) 0 [.int .i64 (u.fn : Int), .int .i64 (u.pc : Int), .int .i64 (u.fu : Int), .slice sa3 u.sk.length sc3, .slice la3 u.lo.length lc3, .int .i64 u.kd, .bool u.wt]).cell? ⟨rg, k * 2 + 1, none⟩ = some (.int .i64 ev2) := by have := H1r.cells (g := rg) rfl _ _ rr.2; rw [add_none, Nat.zero_add] at this; exact this
              clear hE H1r rr
              generalize w9.setCells (sb) 0 [.int .i64 (u.fn : Int), .int .i64 (u.pc : Int), .int .i64 (u.fu : Int), .slice sa3 u.sk.length sc3, .slice la3 u.lo.length lc3, .int .i64 u.kd, .bool u.wt] = w10 at *
              have hN : Below w10.heap.size w10 w10 := Below.refl _ _
              clear hHeld
              refine hK.out _ _ (⟨keep_cell v0 hN, keep_cell v1 hN, keep_cell v2 hN, keep_cell v3 hN, keep_cell v4 hN, keep_cell x15 hN, keep_cell r0 hN, keep_cell r1 hN⟩) (fun hHeld => ?_)
              clear hK K
              try simp only [Act.put, List.setIfInBounds_toArray, List.set_cons_zero, List.set_cons_succ]
              refine wpAnyH_ready (rs := [18]) (by kernel_rfl) (by simp) ?_
              refine AllReadyH.cons rfl (fun K hK => ?_) AllReadyH.nil
              have z0 : w10.cell? ⟨eb, 0, none⟩ = some (.int .i64 t.ek) := cell_row he rfl
              have y0 : w10.frozen? ⟨eb, 0, none⟩ = false := frozen_row he
              have z1 : w10.cell? ⟨eb, 1, none⟩ = some (.int .i64 t.ef) := cell_row he rfl
              have y1 : w10.frozen? ⟨eb, 1, none⟩ = false := frozen_row he
              have z2 : w10.cell? ⟨eb, 2, none⟩ = some (.int .i64 (k : Int)) := cell_row he rfl
              have y2 : w10.frozen? ⟨eb, 2, none⟩ = false := frozen_row he
              have z3 : w10.cell? ⟨eb, 3, none⟩ = some (.int .i64 (t.es : Int)) := cell_row he rfl
              have y3 : w10.frozen? ⟨eb, 3, none⟩ = false := frozen_row he
              have z4 : w10.cell? ⟨eb, 4, none⟩ = some (.slice aa t.ar.length ac) := cell_row he rfl
              have y4 : w10.frozen? ⟨eb, 4, none⟩ = false := frozen_row he
              have z5 : w10.cell? ⟨eb, 5, none⟩ = some (.int .i64 t.er) := cell_row he rfl
              have y5 : w10.frozen? ⟨eb, 5, none⟩ = false := frozen_row he
              have z6 : w10.cell? ⟨eb, 6, none⟩ = some (.int .i64 t.ev) := cell_row he rfl
              have y6 : w10.frozen? ⟨eb, 6, none⟩ = false := frozen_row he
              go_simp
              go_wp2_with fail
              clear z0 y0 z1 y1 z2 y2 z3 y3 z4 y4 z5 y5 z6 y6
              show K _ (w10.setCells (eb) 0 [.int .i64 u.ek, .int .i64 u.ef, .int .i64 u.ei, .int .i64 (u.es : Int), .slice aa3 u.ar.length ac3, .int .i64 u.er, .int .i64 u.ev])
              have hE := Else.cells eb 0 w10 [.int .i64 u.ek, .int .i64 u.ef, .int .i64 u.ei, .int .i64 (u.es : Int), .slice aa3 u.ar.length ac3, .int .i64 u.er, .int .i64 u.ev]
              have o1 := own_else o1 hE he (by decide)
              have o2 := own_else o2 hE he (by decide)
              have o3 := own_else o3 hE he (by decide)
              have H1r := own_else H1.out.res hE he (by decide)
              have H2 := hide (H2.out.els hE he (by decide) (by decide))
              have H5 := hide (H5.out.els hE he (by decide))
              have H4 := hide (H4.out.setCells (x := eb) (Nat.le_trans hXw H3.out.be) HBX.out 0 [.int .i64 u.ek, .int .i64 u.ef, .int .i64 u.ei, .int .i64 (u.es : Int), .slice aa3 u.ar.length ac3, .int .i64 u.er, .int .i64 u.ev])
              have H1 := hide (show DgW X (w10.setCells (eb) 0 [.int .i64 u.ek, .int .i64 u.ef, .int .i64 u.ei, .int .i64 (u.es : Int), .slice aa3 u.ar.length ac3, .int .i64 u.er, .int .i64 u.ev]) x _ a _ sv lv _ from ⟨(hE x (tagNe H1.out.at_ he (by decide))).trans H1.out.at_, H1.out.bx, own_else H1.out.args hE he (by decide), own_else H1.out.aws hE he (by decide), H1r, H1.out.na⟩)
              have hs := (hE sb (tagNe hs he (by decide))).trans hs
              have he := setCells_row (vs := [.int .i64 u.ek, .int .i64 u.ef, .int .i64 u.ei, .int .i64 (u.es : Int), .slice aa3 u.ar.length ac3, .int .i64 u.er, .int .i64 u.ev]) he rfl
              have v0 : (w10.setCells (eb) 0 [.int .i64 u.ek, .int .i64 u.ef, .int .i64 u.ei, .int .i64 (u.es : Int), .slice aa3 u.ar.length ac3, .int .i64 u.er, .int .i64 u.ev]).cell? ⟨v, 0, none⟩ = some (.slice j.fa j.nf j.fc) := H2.out.cell 0 _ rfl
              have v1 : (w10.setCells (eb) 0 [.int .i64 u.ek, .int .i64 u.ef, .int .i64 u.ei, .int .i64 (u.es : Int), .slice aa3 u.ar.length ac3, .int .i64 u.er, .int .i64 u.ev]).cell? ⟨v, 1, none⟩ = some (.int .i64 j.main) := H2.out.cell 1 _ rfl
              have v2 : (w10.setCells (eb) 0 [.int .i64 u.ek, .int .i64 u.ef, .int .i64 u.ei, .int .i64 (u.es : Int), .slice aa3 u.ar.length ac3, .int .i64 u.er, .int .i64 u.ev]).cell? ⟨v, 2, none⟩ = some (.slice j.aa j.na j.ac) := H2.out.cell 2 _ rfl
              have v3 : (w10.setCells (eb) 0 [.int .i64 u.ek, .int .i64 u.ef, .int .i64 u.ei, .int .i64 (u.es : Int), .slice aa3 u.ar.length ac3, .int .i64 u.er, .int .i64 u.ev]).cell? ⟨v, 3, none⟩ = some (.int .i64 j.fuel) := H2.out.cell 3 _ rfl
              have v4 : (w10.setCells (eb) 0 [.int .i64 u.ek, .int .i64 u.ef, .int .i64 u.ei, .int .i64 (u.es : Int), .slice aa3 u.ar.length ac3, .int .i64 u.er, .int .i64 u.ev]).cell? ⟨v, 4, none⟩ = some (.int .i64 j.tasks) := H2.out.cell 4 _ rfl
              have x15 : (w10.setCells (eb) 0 [.int .i64 u.ek, .int .i64 u.ef, .int .i64 u.ei, .int .i64 (u.es : Int), .slice aa3 u.ar.length ac3, .int .i64 u.er, .int .i64 u.ev]).cell? ⟨x, 15, none⟩ = some (.slice (some ⟨rg, 0, none⟩) d.res.length rc) := H1.out.cell 15 _ rfl
              have rr := rowsR_at d.res k er2 ev2 HRES.out
              have r0 : (w10.setCells (eb) 0 [.int .i64 u.ek, .int .i64 u.ef, .int .i64 u.ei, .int .i64 (u.es : Int), .slice aa3 u.ar.length ac3, .int .i64 u.er, .int .i64 u.ev]).cell? ⟨rg, k * 2, none⟩ = some (.int .i64 er2) := by have := H1r.cells (g := rg) rfl _ _ rr.1; rw [add_none, Nat.zero_add] at this; exact this
              have r1 : (w10.setCells (eb) 0 [.int .i64 u.ek, .int .i64 u.ef, .int .i64 u.ei, .int .i64 (u.es : Int), .slice aa3 u.ar.length ac3, .int .i64 u.er, .int .i64 u.ev]).cell? ⟨rg, k * 2 + 1, none⟩ = some (.int .i64 ev2) := by have := H1r.cells (g := rg) rfl _ _ rr.2; rw [add_none, Nat.zero_add] at this; exact this
              clear hE H1r rr
              generalize w10.setCells (eb) 0 [.int .i64 u.ek, .int .i64 u.ef, .int .i64 u.ei, .int .i64 (u.es : Int), .slice aa3 u.ar.length ac3, .int .i64 u.er, .int .i64 u.ev] = w11 at *
              have hN : Below w11.heap.size w11 w11 := Below.refl _ _
              clear hHeld
              refine hK.out _ _ (⟨keep_cell v0 hN, keep_cell v1 hN, keep_cell v2 hN, keep_cell v3 hN, keep_cell v4 hN, keep_cell x15 hN, keep_cell r0 hN, keep_cell r1 hN⟩) (fun hHeld => ?_)
              clear hK K
              try simp only [Act.put, List.setIfInBounds_toArray, List.set_cons_zero, List.set_cons_succ]
              refine wpAnyH_done (by kernel_rfl) ?_ _
              refine NoPanic.normal ?_
              go_wp2_with fail
              go_meet
              case rel => exact ⟨[], ev, .slice a7 (d.e.awaits.length + 1) c7, .slice (some ⟨rg, 0, none⟩) d.res.length rc, sa3, la3, aa3, sc3, lc3, ac3, (by rw [List.append_nil]; exact rfl), (by rw [List.append_nil]; exact H2.out), (by rw [List.append_nil]; exact H5.out), (by rw [List.append_nil]; exact HAP2.out), H1.out, H4.out, ⟨hs, he, H3.out.bs, H3.out.be, o1, o2, o3⟩⟩
          · skip
            go_simp
            go_wp2_with fail
            have hA := alloc_below wd (.cells #[.int .i64 (k : Int)] 3)
            have hb0 := heap_alloc_new wd (.cells #[.int .i64 (k : Int)] 3)
            have hKK := Kp.of (B := w0.heap.size) hN (Nat.le_trans HBX.out (Nat.le_trans hXw H6.out))
            have H4 := hide (H4.out.below_more hN (Nat.le_trans hXw H6.out) HBX.out)
            have H1 := hide (H1.out.kp hKK (Nat.le_refl _))
            have H2 := hide (H2.out.below hN)
            have H3 := hide (H3.out.kp hKK (Nat.le_refl _))
            have H5 := hide (H5.out.kp hKK (Nat.le_refl _))
            have H6 := hide (Nat.le_trans H6.out (hN).size)
            clear hKK
            have hKK := Kp.of (B := w0.heap.size) hA (Nat.le_trans HBX.out (Nat.le_trans hXw H6.out))
            have H4 := hide (H4.out.below_more hA (Nat.le_trans hXw H6.out) HBX.out)
            have H1 := hide (H1.out.kp hKK (Nat.le_refl _))
            have H2 := hide (H2.out.below hA)
            have H3 := hide (H3.out.kp hKK (Nat.le_refl _))
            have H5 := hide (H5.out.kp hKK (Nat.le_refl _))
            have H6 := hide (Nat.le_trans H6.out (hA).size)
            clear hKK
            have x7 := keep_cell x7 hA
            have e2 := keep_cell (keep_cell e2 hN) hA
            generalize wd.alloc (.cells #[.int .i64 (k : Int)] 3) = w6 at *
            have hN : Below w6.heap.size w6 w6 := Below.refl _ _
            clear hA hHeld
            refine hK.out _ _ (keep_cell e2 hN) (fun hHeld => ?_)
            clear hK K
            try simp only [Act.put, List.setIfInBounds_toArray, List.set_cons_zero, List.set_cons_succ]
            refine wpAnyH_ready (rs := [5]) (by kernel_rfl) (by simp) ?_
            refine AllReadyH.cons rfl (fun K hK => ?_) AllReadyH.nil
            have hHeld2 := hHeld
            go_simp
            go_wp2_with fail
            clear hHeld2
            refine hK.out _ _ (keep_cell e2 hN) (fun hHeld => ?_)
            clear hK K
            try simp only [Act.put, List.setIfInBounds_toArray, List.set_cons_zero, List.set_cons_succ]
            refine wpAnyH_ready (rs := [9]) (by kernel_rfl) (by simp) ?_
            refine AllReadyH.cons rfl (fun K hK => ?_) AllReadyH.nil
            obtain ⟨a7, c7, w7, hrun, ho7, hg7, hw7⟩ := append_one (t := 28) (e := 3) (size := 1) (bytes := 8) (z := .int .i64 0) Tryz.underlying28 Tryz.info3 rfl (by decide) (by decide) w6 X (.slice wa d.e.awaits.length wk) d.e.awaits.length (iV d.e.awaits) [.int .i64 (k : Int)] wd.heap.size H1.out.aws rfl (fun j u hu => cell_row hb0 hu) (by intro u hu; simp at hu; subst hu; rfl) (by omega) (Nat.le_trans hXw H6.out)
            have hT := Tg.of H1.out.aws hg7
            have hbX : Below X w6 w7 := (Below.refl X w6).grown hg7 (Nat.le_trans hXw H6.out) (fun q hq => (H1.out.aws.lt q hq).1)
            have hxat : w7.heap[x]? = some (.cells (dgRow ⟨{ d.e with steps := d.e.steps + t.es }, d.s, d.res, d.ended⟩ a (.slice wa d.e.awaits.length wk) sv lv rv).toArray 73 (0, 0)) := (hT x _ _ (by decide) H1.out.at_).trans H1.out.at_
            have x7 : w7.cell? ⟨x, 7, none⟩ = some (.slice wa d.e.awaits.length wk) := cell_row hxat rfl
            have f7 : w7.frozen? ⟨x, 7, none⟩ = false := by simp [World.frozen?, hxat]
            have hEl := Else.cell x 7 w7 (.slice a7 (d.e.awaits.length + 1) c7)
            have HAP2 := hide (Ap.grown HAP.out H5.out hw7)
            have H2 := hide (H2.out.tg hT (by decide) (by decide))
            have H3 := hide (H3.out.apart hg7 hT HAW.out)
            have H5 := hide (H5.out.apart hg7 HAP.out)
            have H4 := hide (H4.out.trans (Kp.of hbX HBX.out) (Nat.le_refl _))
            have e2 : w7.cell? ⟨eb, 2, none⟩ = some (.int .i64 (k : Int)) := by rw [← HKE.out]; exact cell_row H3.out.e rfl
            have hna : ∀ g, (Value.slice a7 (d.e.awaits.length + 1) c7).ownBlock = some g → a.ownBlock ≠ some g := fun g q e => hw7.elim (fun r => H1.out.na g (r ▸ q) e) (fun r => by have := r g q; have := (H1.out.args.lt g e).2; omega)
            have H1 := hide (H1.out.putAws (aws := d.e.awaits ++ [t.ei]) hg7 hT (by rw [HKE.out, OI, iV_app, List.length_append]; exact ho7) hna)
            have H2 := hide (H2.out.els hEl hxat (by decide) (by decide))
            have H3 := hide (H3.out.els hEl hxat (by decide) (by decide) (by decide))
            have H5 := hide (H5.out.els hEl hxat (by decide))
            have H4 := hide (H4.out.setCell (i := 7) H1.out.bx HBX.out (.slice a7 (d.e.awaits.length + 1) c7))
            have H6 := hide (show w.heap.size ≤ (w7.setCell ⟨x, 7, none⟩ (.slice a7 (d.e.awaits.length + 1) c7)).heap.size from H4.out.size)
            clear ho7 hg7 hw7 hbX hxat hEl hb0 hna
            have hN : Below w7.heap.size w7 w7 := Below.refl _ _
            refine wp_append_rows (.tmp 89) (.tmp 92) rfl rfl rfl hrun ?_
            clear hHeld
            refine hK.out _ _ (keep_cell e2 hN) (fun hHeld => ?_)
            clear hK K
            try simp only [Act.put, List.setIfInBounds_toArray, List.set_cons_zero, List.set_cons_succ]
            refine takeD (i := 10) (d := some 94) (v := ?_) rfl rfl (by kernel_rfl) (by kernel_rfl) (by kernel_rfl) (fun _ _ _ h => h) (Or.inl ⟨by rfl, ?_⟩) (by assumption) ?_
            rotate_left
            · intro w hSw
              go_simp
              try (with_reducible rfl)
            try simp only [Act.put, List.setIfInBounds_toArray, List.set_cons_zero, List.set_cons_succ]
            refine takeD (i := 11) (d := some 95) (v := ?_) rfl rfl (by kernel_rfl) (by kernel_rfl) (by kernel_rfl) (fun _ _ _ h => h) (Or.inl ⟨by rfl, ?_⟩) (by assumption) ?_
            rotate_left
            · intro w hSw
              go_simp
              try (with_reducible rfl)
            try simp only [Act.put, List.setIfInBounds_toArray, List.set_cons_zero, List.set_cons_succ]
            refine takeD (i := 12) (d := some 96) (v := ?_) rfl rfl (by kernel_rfl) (by kernel_rfl) (by kernel_rfl) (fun _ _ _ h => h) (Or.inl ⟨by rfl, ?_⟩) (by assumption) ?_
            rotate_left
            · intro w hSw
              go_simp
              try (with_reducible rfl)
            try simp only [Act.put, List.setIfInBounds_toArray, List.set_cons_zero, List.set_cons_succ]
            refine wpAnyH_ready (rs := [13]) (by kernel_rfl) (by simp) ?_
            refine AllReadyH.cons rfl (fun K hK => ?_) AllReadyH.nil
            go_simp
            go_wp2_with fail
            have e2 : (w7.setCell ⟨x, 7, none⟩ (.slice a7 (d.e.awaits.length + 1) c7)).cell? ⟨eb, 2, none⟩ = some (.int .i64 (k : Int)) := by rw [← HKE.out]; exact cell_row H3.out.e rfl
            generalize w7.setCell ⟨x, 7, none⟩ (.slice a7 (d.e.awaits.length + 1) c7) = w8 at *
            have hN : Below w8.heap.size w8 w8 := Below.refl _ _
            clear hHeld
            refine hK.out _ _ (keep_cell e2 hN) (fun hHeld => ?_)
            clear hK K
            try simp only [Act.put, List.setIfInBounds_toArray, List.set_cons_zero, List.set_cons_succ]
            refine wpAnyH_done (by kernel_rfl) ?_ _
            refine NoPanic.normal ?_
            obtain ⟨rg, rc, hrv⟩ : ∃ rg rc, rv = .slice (some ⟨rg, 0, none⟩) d.res.length rc := by
              rcases H1.out.res.2 with ⟨q1, q2⟩ | ⟨g, cap, cur, q1, _⟩
              · exact absurd (show d.res.length = 0 from q2) (by omega)
              · exact ⟨_, cap, q1⟩
            subst hrv
            have rr := rowsR_at d.res k er2 ev2 HRES.out
            have r0 : w8.cell? ⟨rg, k * 2, none⟩ = some (.int .i64 er2) := by have := H1.out.res.cells (g := rg) rfl _ _ rr.1; rw [add_none, Nat.zero_add] at this; exact this
            have r1 : w8.cell? ⟨rg, k * 2 + 1, none⟩ = some (.int .i64 ev2) := by have := H1.out.res.cells (g := rg) rfl _ _ rr.2; rw [add_none, Nat.zero_add] at this; exact this
            have x15 : w8.cell? ⟨x, 15, none⟩ = some (.slice (some ⟨rg, 0, none⟩) d.res.length rc) := H1.out.cell 15 _ rfl
            have v0 : w8.cell? ⟨v, 0, none⟩ = some (.slice j.fa j.nf j.fc) := H2.out.cell 0 _ rfl
            have v1 : w8.cell? ⟨v, 1, none⟩ = some (.int .i64 j.main) := H2.out.cell 1 _ rfl
            have v2 : w8.cell? ⟨v, 2, none⟩ = some (.slice j.aa j.na j.ac) := H2.out.cell 2 _ rfl
            have v3 : w8.cell? ⟨v, 3, none⟩ = some (.int .i64 j.fuel) := H2.out.cell 3 _ rfl
            have v4 : w8.cell? ⟨v, 4, none⟩ = some (.int .i64 j.tasks) := H2.out.cell 4 _ rfl
            have s0 : w8.cell? ⟨sb, 0, none⟩ = some (.int .i64 (t.fn : Int)) := cell_row H3.out.s rfl
            have s1 : w8.cell? ⟨sb, 1, none⟩ = some (.int .i64 (t.pc : Int)) := cell_row H3.out.s rfl
            have s2 : w8.cell? ⟨sb, 2, none⟩ = some (.int .i64 (t.fu : Int)) := cell_row H3.out.s rfl
            have s3 : w8.cell? ⟨sb, 3, none⟩ = some (.slice sa t.sk.length sc) := cell_row H3.out.s rfl
            have s4 : w8.cell? ⟨sb, 4, none⟩ = some (.slice la t.lo.length lc) := cell_row H3.out.s rfl
            have s5 : w8.cell? ⟨sb, 5, none⟩ = some (.int .i64 t.kd) := cell_row H3.out.s rfl
            have s6 : w8.cell? ⟨sb, 6, none⟩ = some (.bool t.wt) := cell_row H3.out.s rfl
            have hkl' : (k : Int) < (d.res.length : Int) := by omega
            have C40 : ∀ (W : World), Below w8.heap.size w8 W → Calls Tryz.prog 40 #[.agg #[.slice j.fa j.nf j.fc, .int .i64 j.main, .slice j.aa j.na j.ac, .int .i64 j.fuel, .int .i64 j.tasks], .agg #[.int .i64 (t.fn : Int), .int .i64 (t.pc : Int), .int .i64 (t.fu : Int), .slice sa t.sk.length sc, .slice la t.lo.length lc, .int .i64 t.kd, .bool t.wt], .agg #[.int .i64 er2, .int .i64 ev2]] W (RunR W (finM q2)) := by
              intro W hW
              have hX8 : X ≤ w8.heap.size := Nat.le_trans hXw H6.out
              have hK8 := Kp.of (B := w0.heap.size) hW (Nat.le_trans HBX.out hX8)
              have hw0 : Below w0.heap.size w0 W := HB.out.trans (H4.out.below.trans (hW.mono (Nat.le_trans HBX.out hX8)))
              exact res_R j cs fs args t er2 ev2 w.heap.size _ _ q2 W (HJ.out.below hw0) (HE.out.below hw0) (own_kp H3.out.st hK8 (Nat.le_refl _) (by decide) (by decide)) (own_kp H3.out.lo hK8 (Nat.le_refl _) (by decide) (by decide)) b3 b4 b2 HB5.out HRM.out
            generalize finM q2 = u at *
            clear rr hrun x7 f7
            go_upto_region 9 with fail
            refine wp_region_noPanic ?_
            have hN : Below w8.heap.size w8 w8.drew := (Below.refl _ _).drew
            refine wp_region_held_drew (S := fun W => W.cell? ⟨v, 0, none⟩ = some (.slice j.fa j.nf j.fc) ∧ W.cell? ⟨v, 1, none⟩ = some (.int .i64 j.main) ∧ W.cell? ⟨v, 2, none⟩ = some (.slice j.aa j.na j.ac) ∧ W.cell? ⟨v, 3, none⟩ = some (.int .i64 j.fuel) ∧ W.cell? ⟨v, 4, none⟩ = some (.int .i64 j.tasks) ∧ W.cell? ⟨x, 15, none⟩ = some (.slice (some ⟨rg, 0, none⟩) d.res.length rc) ∧ W.cell? ⟨rg, k * 2, none⟩ = some (.int .i64 er2) ∧ W.cell? ⟨rg, k * 2 + 1, none⟩ = some (.int .i64 ev2)) (by kernel_rfl) (⟨keep_cell v0 hN, keep_cell v1 hN, keep_cell v2 hN, keep_cell v3 hN, keep_cell v4 hN, keep_cell x15 hN, keep_cell r0 hN, keep_cell r1 hN⟩) (fun hHeld => ?_)
            generalize w8.drew = wd9 at hN hHeld ⊢
            have s0 := keep_cell s0 hN
            have s1 := keep_cell s1 hN
            have s2 := keep_cell s2 hN
            have s3 := keep_cell s3 hN
            have s4 := keep_cell s4 hN
            have s5 := keep_cell s5 hN
            have s6 := keep_cell s6 hN
            have e2 := keep_cell e2 hN
            refine takeD (i := 0) (d := some 98) (v := ?_) rfl rfl (by kernel_rfl) (by kernel_rfl) (by kernel_rfl) (fun _ _ _ h => h) (Or.inl ⟨by rfl, ?_⟩) (by assumption) ?_
            rotate_left
            · intro w hSw
              go_simp
              try (with_reducible rfl)
            try simp only [Act.put, List.setIfInBounds_toArray, List.set_cons_zero, List.set_cons_succ]
            refine takeD (i := 1) (d := some 99) (v := ?_) rfl rfl (by kernel_rfl) (by kernel_rfl) (by kernel_rfl) (fun _ _ _ h => h) (Or.inl ⟨by rfl, ?_⟩) (by assumption) ?_
            rotate_left
            · intro w hSw
              go_simp
              try (with_reducible rfl)
            try simp only [Act.put, List.setIfInBounds_toArray, List.set_cons_zero, List.set_cons_succ]
            refine takeD (i := 2) (d := some 100) (v := ?_) rfl rfl (by kernel_rfl) (by kernel_rfl) (by kernel_rfl) (fun _ _ _ h => h) (Or.inl ⟨by rfl, ?_⟩) (by assumption) ?_
            rotate_left
            · intro w hSw
              go_simp
              try (with_reducible rfl)
            try simp only [Act.put, List.setIfInBounds_toArray, List.set_cons_zero, List.set_cons_succ]
            refine takeD (i := 3) (d := some 101) (v := ?_) rfl rfl (by kernel_rfl) (by kernel_rfl) (by kernel_rfl) (fun _ _ _ h => h) (Or.inl ⟨by rfl, ?_⟩) (by assumption) ?_
            rotate_left
            · intro w hSw
              go_simp
              try (with_reducible rfl)
            try simp only [Act.put, List.setIfInBounds_toArray, List.set_cons_zero, List.set_cons_succ]
            refine takeD (i := 5) (d := some 103) (v := ?_) rfl rfl (by kernel_rfl) (by kernel_rfl) (by kernel_rfl) (fun _ _ _ h => h) (Or.inl ⟨by rfl, ?_⟩) (by assumption) ?_
            rotate_left
            · intro w hSw
              go_simp
              try (with_reducible rfl)
            try simp only [Act.put, List.setIfInBounds_toArray, List.set_cons_zero, List.set_cons_succ]
            refine takeD (i := 6) (d := some 104) (v := ?_) rfl rfl (by kernel_rfl) (by kernel_rfl) (by kernel_rfl) (fun _ _ _ h => h) (Or.inl ⟨by rfl, ?_⟩) (by assumption) ?_
            rotate_left
            · intro w hSw
              go_simp
              try (with_reducible rfl)
            try simp only [Act.put, List.setIfInBounds_toArray, List.set_cons_zero, List.set_cons_succ]
            refine takeD (i := 7) (d := some 105) (v := ?_) rfl rfl (by kernel_rfl) (by kernel_rfl) (by kernel_rfl) (fun _ _ _ h => h) (Or.inl ⟨by rfl, ?_⟩) (by assumption) ?_
            rotate_left
            · intro w hSw
              go_simp
              try (with_reducible rfl)
            try simp only [Act.put, List.setIfInBounds_toArray, List.set_cons_zero, List.set_cons_succ]
            refine takeD (i := 8) (d := some 106) (v := ?_) rfl rfl (by kernel_rfl) (by kernel_rfl) (by kernel_rfl) (fun _ _ _ h => h) (Or.inl ⟨by rfl, ?_⟩) (by assumption) ?_
            rotate_left
            · intro w hSw
              go_simp
              try (with_reducible rfl)
            try simp only [Act.put, List.setIfInBounds_toArray, List.set_cons_zero, List.set_cons_succ]
            refine takeD (i := 9) (d := some 107) (v := ?_) rfl rfl (by kernel_rfl) (by kernel_rfl) (by kernel_rfl) (fun _ _ _ h => h) (Or.inl ⟨by rfl, ?_⟩) (by assumption) ?_
            rotate_left
            · intro w hSw
              go_simp
              try (with_reducible rfl)
            try simp only [Act.put, List.setIfInBounds_toArray, List.set_cons_zero, List.set_cons_succ]
            refine wpAnyH_ready (rs := [4, 10]) (by kernel_rfl) (by simp) ?_
            refine AllReadyH.cons rfl (fun K hK => ?_) (AllReadyH.cons rfl (fun K hK => ?_) AllReadyH.nil)
            · skip
              have hHeld2 := hHeld
              go_simp
              go_wp2_with fail
              clear hHeld2
              refine hK.out _ _ (⟨keep_cell v0 hN, keep_cell v1 hN, keep_cell v2 hN, keep_cell v3 hN, keep_cell v4 hN, keep_cell x15 hN, keep_cell r0 hN, keep_cell r1 hN⟩) (fun hHeld => ?_)
              clear hK K
              try simp only [Act.put, List.setIfInBounds_toArray, List.set_cons_zero, List.set_cons_succ]
              refine wpAnyH_ready (rs := [10]) (by kernel_rfl) (by simp) ?_
              refine AllReadyH.cons rfl (fun K hK => ?_) AllReadyH.nil
              have hHeld2 := hHeld
              go_simp
              go_wp2_with fail
              clear hHeld2
              refine hK.out _ _ (⟨keep_cell v0 hN, keep_cell v1 hN, keep_cell v2 hN, keep_cell v3 hN, keep_cell v4 hN, keep_cell x15 hN, keep_cell r0 hN, keep_cell r1 hN⟩) (fun hHeld => ?_)
              clear hK K
              try simp only [Act.put, List.setIfInBounds_toArray, List.set_cons_zero, List.set_cons_succ]
              refine takeD (i := 11) (d := some 109) (v := ?_) rfl rfl (by kernel_rfl) (by kernel_rfl) (by kernel_rfl) (fun _ _ _ h => h) (Or.inl ⟨by rfl, ?_⟩) (by assumption) ?_
              rotate_left
              · intro w hSw
                go_simp
                try (with_reducible rfl)
              try simp only [Act.put, List.setIfInBounds_toArray, List.set_cons_zero, List.set_cons_succ]
              refine takeD (i := 12) (d := some 110) (v := ?_) rfl rfl (by kernel_rfl) (by kernel_rfl) (by kernel_rfl) (fun _ _ _ h => h) (Or.inl ⟨by rfl, ?_⟩) (by assumption) ?_
              rotate_left
              · intro w hSw
                go_simp
                try (with_reducible rfl)
              try simp only [Act.put, List.setIfInBounds_toArray, List.set_cons_zero, List.set_cons_succ]
              refine wpAnyH_ready (rs := [13]) (by kernel_rfl) (by simp) ?_
              refine AllReadyH.cons rfl (fun K hK => ?_) AllReadyH.nil
              go_simp
              refine (C40 _ hN).mono ?_
              rintro e w9 ⟨sa3, sc3, la3, lc3, aa3, ac3, rfl, o1, o2, o3, hb9⟩
              have hKK := Kp.of (B := w0.heap.size) hN (Nat.le_trans HBX.out (Nat.le_trans hXw H6.out))
              have H4 := hide (H4.out.below_more hN (Nat.le_trans hXw H6.out) HBX.out)
              have H1 := hide (H1.out.kp hKK (Nat.le_refl _))
              have H2 := hide (H2.out.below hN)
              have H3 := hide (H3.out.kp hKK (Nat.le_refl _))
              have H5 := hide (H5.out.kp hKK (Nat.le_refl _))
              have H6 := hide (Nat.le_trans H6.out (hN).size)
              clear hKK
              have o1 := own_monoI o1 H6.out
              have o2 := own_monoI o2 H6.out
              have o3 := own_monoI o3 H6.out
              have hKK := Kp.of (B := w0.heap.size) hb9 (Nat.le_trans HBX.out (Nat.le_trans hXw H6.out))
              have H4 := hide (H4.out.below_more hb9 (Nat.le_trans hXw H6.out) HBX.out)
              have H1 := hide (H1.out.kp hKK (Nat.le_refl _))
              have H2 := hide (H2.out.below hb9)
              have H3 := hide (H3.out.kp hKK (Nat.le_refl _))
              have H5 := hide (H5.out.kp hKK (Nat.le_refl _))
              have H6 := hide (Nat.le_trans H6.out (hb9).size)
              clear hKK
              have hN := chain hN hb9
              have hs : w9.heap[sb]? = some (.cells [.int .i64 (t.fn : Int), .int .i64 (t.pc : Int), .int .i64 (t.fu : Int), .slice sa t.sk.length sc, .slice la t.lo.length lc, .int .i64 t.kd, .bool t.wt].toArray 70 (0, 0)) := H3.out.s
              have he : w9.heap[eb]? = some (.cells [.int .i64 t.ek, .int .i64 t.ef, .int .i64 (k : Int), .int .i64 (t.es : Int), .slice aa t.ar.length ac, .int .i64 t.er, .int .i64 t.ev].toArray 100 (0, 0)) := by rw [← HKE.out]; exact H3.out.e
              go_wp2_with fail
              clear hHeld hb9
              refine hK.out _ _ (⟨keep_cell v0 hN, keep_cell v1 hN, keep_cell v2 hN, keep_cell v3 hN, keep_cell v4 hN, keep_cell x15 hN, keep_cell r0 hN, keep_cell r1 hN⟩) (fun hHeld => ?_)
              clear hK K
              try simp only [Act.put, List.setIfInBounds_toArray, List.set_cons_zero, List.set_cons_succ]
              refine takeD (i := 14) (d := some 97) (v := ?_) rfl rfl (by kernel_rfl) (by kernel_rfl) (by kernel_rfl) (fun _ _ _ h => h) (Or.inl ⟨by rfl, ?_⟩) (by assumption) ?_
              rotate_left
              · intro w hSw
                go_simp
                try (with_reducible rfl)
              try simp only [Act.put, List.setIfInBounds_toArray, List.set_cons_zero, List.set_cons_succ]
              refine takeD (i := 15) (d := some 112) (v := ?_) rfl rfl (by kernel_rfl) (by kernel_rfl) (by kernel_rfl) (fun _ _ _ h => h) (Or.inl ⟨by rfl, ?_⟩) (by assumption) ?_
              rotate_left
              · intro w hSw
                go_simp
                try (with_reducible rfl)
              try simp only [Act.put, List.setIfInBounds_toArray, List.set_cons_zero, List.set_cons_succ]
              refine takeD (i := 16) (d := some 113) (v := ?_) rfl rfl (by kernel_rfl) (by kernel_rfl) (by kernel_rfl) (fun _ _ _ h => h) (Or.inl ⟨by rfl, ?_⟩) (by assumption) ?_
              rotate_left
              · intro w hSw
                go_simp
                try (with_reducible rfl)
              try simp only [Act.put, List.setIfInBounds_toArray, List.set_cons_zero, List.set_cons_succ]
              refine wpAnyH_ready (rs := [17]) (by kernel_rfl) (by simp) ?_
              refine AllReadyH.cons rfl (fun K hK => ?_) AllReadyH.nil
              have z0 : w9.cell? ⟨sb, 0, none⟩ = some (.int .i64 (t.fn : Int)) := cell_row hs rfl
              have y0 : w9.frozen? ⟨sb, 0, none⟩ = false := frozen_row hs
              have z1 : w9.cell? ⟨sb, 1, none⟩ = some (.int .i64 (t.pc : Int)) := cell_row hs rfl
              have y1 : w9.frozen? ⟨sb, 1, none⟩ = false := frozen_row hs
              have z2 : w9.cell? ⟨sb, 2, none⟩ = some (.int .i64 (t.fu : Int)) := cell_row hs rfl
              have y2 : w9.frozen? ⟨sb, 2, none⟩ = false := frozen_row hs
              have z3 : w9.cell? ⟨sb, 3, none⟩ = some (.slice sa t.sk.length sc) := cell_row hs rfl
              have y3 : w9.frozen? ⟨sb, 3, none⟩ = false := frozen_row hs
              have z4 : w9.cell? ⟨sb, 4, none⟩ = some (.slice la t.lo.length lc) := cell_row hs rfl
              have y4 : w9.frozen? ⟨sb, 4, none⟩ = false := frozen_row hs
              have z5 : w9.cell? ⟨sb, 5, none⟩ = some (.int .i64 t.kd) := cell_row hs rfl
              have y5 : w9.frozen? ⟨sb, 5, none⟩ = false := frozen_row hs
              have z6 : w9.cell? ⟨sb, 6, none⟩ = some (.bool t.wt) := cell_row hs rfl
              have y6 : w9.frozen? ⟨sb, 6, none⟩ = false := frozen_row hs
              go_simp
              go_wp2_with fail
              clear z0 y0 z1 y1 z2 y2 z3 y3 z4 y4 z5 y5 z6 y6
              show K _ (w9.setCells (sb) 0 [.int .i64 (u.fn : Int), .int .i64 (u.pc : Int), .int .i64 (u.fu : Int), .slice sa3 u.sk.length sc3, .slice la3 u.lo.length lc3, .int .i64 u.kd, .bool u.wt])
              have hE := Else.cells sb 0 w9 [.int .i64 (u.fn : Int), .int .i64 (u.pc : Int), .int .i64 (u.fu : Int), .slice sa3 u.sk.length sc3, .slice la3 u.lo.length lc3, .int .i64 u.kd, .bool u.wt]
              have o1 := own_else o1 hE hs (by decide)
              have o2 := own_else o2 hE hs (by decide)
              have o3 := own_else o3 hE hs (by decide)
              have H1r := own_else H1.out.res hE hs (by decide)
              have H2 := hide (H2.out.els hE hs (by decide) (by decide))
              have H5 := hide (H5.out.els hE hs (by decide))
              have H4 := hide (H4.out.setCells (x := sb) (Nat.le_trans hXw H3.out.bs) HBX.out 0 [.int .i64 (u.fn : Int), .int .i64 (u.pc : Int), .int .i64 (u.fu : Int), .slice sa3 u.sk.length sc3, .slice la3 u.lo.length lc3, .int .i64 u.kd, .bool u.wt])
              have H1 := hide (show DgW X (w9.setCells (sb) 0 [.int .i64 (u.fn : Int), .int .i64 (u.pc : Int), .int .i64 (u.fu : Int), .slice sa3 u.sk.length sc3, .slice la3 u.lo.length lc3, .int .i64 u.kd, .bool u.wt]) x _ a _ sv lv _ from ⟨(hE x (tagNe H1.out.at_ hs (by decide))).trans H1.out.at_, H1.out.bx, own_else H1.out.args hE hs (by decide), own_else H1.out.aws hE hs (by decide), H1r, H1.out.na⟩)
              have he := (hE eb (tagNe he hs (by decide))).trans he
              have hs := setCells_row (vs := [.int .i64 (u.fn : Int), .int .i64 (u.pc : Int), .int .i64 (u.fu : Int), .slice sa3 u.sk.length sc3, .slice la3 u.lo.length lc3, .int .i64 u.kd, .bool u.wt]) hs rfl
              have v0 : (w9.setCells (sb) 0 [.int .i64 (u.fn : Int), .int .i64 (u.pc : Int), .int .i64 (u.fu : Int), .slice sa3 u.sk.length sc3, .slice la3 u.lo.length lc3, .int .i64 u.kd, .bool u.wt]).cell? ⟨v, 0, none⟩ = some (.slice j.fa j.nf j.fc) := H2.out.cell 0 _ rfl
              have v1 : (w9.setCells (sb) 0 [.int .i64 (u.fn : Int), .int .i64 (u.pc : Int), .int .i64 (u.fu : Int), .slice sa3 u.sk.length sc3, .slice la3 u.lo.length lc3, .int .i64 u.kd, .bool u.wt]).cell? ⟨v, 1, none⟩ = some (.int .i64 j.main) := H2.out.cell 1 _ rfl
              have v2 : (w9.setCells (sb) 0 [.int .i64 (u.fn : Int), .int .i64 (u.pc : Int), .int .i64 (u.fu : Int), .slice sa3 u.sk.length sc3, .slice la3 u.lo.length lc3, .int .i64 u.kd, .bool u.wt]).cell? ⟨v, 2, none⟩ = some (.slice j.aa j.na j.ac) := H2.out.cell 2 _ rfl
              have v3 : (w9.setCells (sb) 0 [.int .i64 (u.fn : Int), .int .i64 (u.pc : Int), .int .i64 (u.fu : Int), .slice sa3 u.sk.length sc3, .slice la3 u.lo.length lc3, .int .i64 u.kd, .bool u.wt]).cell? ⟨v, 3, none⟩ = some (.int .i64 j.fuel) := H2.out.cell 3 _ rfl
              have v4 : (w9.setCells (sb) 0 [.int .i64 (u.fn : Int), .int .i64 (u.pc : Int), .int .i64 (u.fu : Int), .slice sa3 u.sk.length sc3, .slice la3 u.lo.length lc3, .int .i64 u.kd, .bool u.wt]).cell? ⟨v, 4, none⟩ = some (.int .i64 j.tasks) := H2.out.cell 4 _ rfl
              have x15 : (w9.setCells (sb) 0 [.int .i64 (u.fn : Int), .int .i64 (u.pc : Int), .int .i64 (u.fu : Int), .slice sa3 u.sk.length sc3, .slice la3 u.lo.length lc3, .int .i64 u.kd, .bool u.wt]).cell? ⟨x, 15, none⟩ = some (.slice (some ⟨rg, 0, none⟩) d.res.length rc) := H1.out.cell 15 _ rfl
              have rr := rowsR_at d.res k er2 ev2 HRES.out
              have r0 : (w9.setCells (sb) 0 [.int .i64 (u.fn : Int), .int .i64 (u.pc : Int), .int .i64 (u.fu : Int), .slice sa3 u.sk.length sc3, .slice la3 u.lo.length lc3, .int .i64 u.kd, .bool u.wt]).cell? ⟨rg, k * 2, none⟩ = some (.int .i64 er2) := by have := H1r.cells (g := rg) rfl _ _ rr.1; rw [add_none, Nat.zero_add] at this; exact this
              have r1 : (w9.setCells (sb) 0 [.int .i64 (u.fn : Int), .int .i64 (u.pc : Int), .int .i64 (u.fu : Int), .slice sa3 u.sk.length sc3, .slice la3 u.lo.length lc3, .int .i64 u.kd, .bool u.wt]).cell? ⟨rg, k * 2 + 1, none⟩ = some (.int .i64 ev2) := by have := H1r.cells (g := rg) rfl _ _ rr.2; rw [add_none, Nat.zero_add] at this; exact this
              clear hE H1r rr
              generalize w9.setCells (sb) 0 [.int .i64 (u.fn : Int), .int .i64 (u.pc : Int), .int .i64 (u.fu : Int), .slice sa3 u.sk.length sc3, .slice la3 u.lo.length lc3, .int .i64 u.kd, .bool u.wt] = w10 at *
              have hN : Below w10.heap.size w10 w10 := Below.refl _ _
              clear hHeld
              refine hK.out _ _ (⟨keep_cell v0 hN, keep_cell v1 hN, keep_cell v2 hN, keep_cell v3 hN, keep_cell v4 hN, keep_cell x15 hN, keep_cell r0 hN, keep_cell r1 hN⟩) (fun hHeld => ?_)
              clear hK K
              try simp only [Act.put, List.setIfInBounds_toArray, List.set_cons_zero, List.set_cons_succ]
              refine wpAnyH_ready (rs := [18]) (by kernel_rfl) (by simp) ?_
              refine AllReadyH.cons rfl (fun K hK => ?_) AllReadyH.nil
              have z0 : w10.cell? ⟨eb, 0, none⟩ = some (.int .i64 t.ek) := cell_row he rfl
              have y0 : w10.frozen? ⟨eb, 0, none⟩ = false := frozen_row he
              have z1 : w10.cell? ⟨eb, 1, none⟩ = some (.int .i64 t.ef) := cell_row he rfl
              have y1 : w10.frozen? ⟨eb, 1, none⟩ = false := frozen_row he
              have z2 : w10.cell? ⟨eb, 2, none⟩ = some (.int .i64 (k : Int)) := cell_row he rfl
              have y2 : w10.frozen? ⟨eb, 2, none⟩ = false := frozen_row he
              have z3 : w10.cell? ⟨eb, 3, none⟩ = some (.int .i64 (t.es : Int)) := cell_row he rfl
              have y3 : w10.frozen? ⟨eb, 3, none⟩ = false := frozen_row he
              have z4 : w10.cell? ⟨eb, 4, none⟩ = some (.slice aa t.ar.length ac) := cell_row he rfl
              have y4 : w10.frozen? ⟨eb, 4, none⟩ = false := frozen_row he
              have z5 : w10.cell? ⟨eb, 5, none⟩ = some (.int .i64 t.er) := cell_row he rfl
              have y5 : w10.frozen? ⟨eb, 5, none⟩ = false := frozen_row he
              have z6 : w10.cell? ⟨eb, 6, none⟩ = some (.int .i64 t.ev) := cell_row he rfl
              have y6 : w10.frozen? ⟨eb, 6, none⟩ = false := frozen_row he
              go_simp
              go_wp2_with fail
              clear z0 y0 z1 y1 z2 y2 z3 y3 z4 y4 z5 y5 z6 y6
              show K _ (w10.setCells (eb) 0 [.int .i64 u.ek, .int .i64 u.ef, .int .i64 u.ei, .int .i64 (u.es : Int), .slice aa3 u.ar.length ac3, .int .i64 u.er, .int .i64 u.ev])
              have hE := Else.cells eb 0 w10 [.int .i64 u.ek, .int .i64 u.ef, .int .i64 u.ei, .int .i64 (u.es : Int), .slice aa3 u.ar.length ac3, .int .i64 u.er, .int .i64 u.ev]
              have o1 := own_else o1 hE he (by decide)
              have o2 := own_else o2 hE he (by decide)
              have o3 := own_else o3 hE he (by decide)
              have H1r := own_else H1.out.res hE he (by decide)
              have H2 := hide (H2.out.els hE he (by decide) (by decide))
              have H5 := hide (H5.out.els hE he (by decide))
              have H4 := hide (H4.out.setCells (x := eb) (Nat.le_trans hXw H3.out.be) HBX.out 0 [.int .i64 u.ek, .int .i64 u.ef, .int .i64 u.ei, .int .i64 (u.es : Int), .slice aa3 u.ar.length ac3, .int .i64 u.er, .int .i64 u.ev])
              have H1 := hide (show DgW X (w10.setCells (eb) 0 [.int .i64 u.ek, .int .i64 u.ef, .int .i64 u.ei, .int .i64 (u.es : Int), .slice aa3 u.ar.length ac3, .int .i64 u.er, .int .i64 u.ev]) x _ a _ sv lv _ from ⟨(hE x (tagNe H1.out.at_ he (by decide))).trans H1.out.at_, H1.out.bx, own_else H1.out.args hE he (by decide), own_else H1.out.aws hE he (by decide), H1r, H1.out.na⟩)
              have hs := (hE sb (tagNe hs he (by decide))).trans hs
              have he := setCells_row (vs := [.int .i64 u.ek, .int .i64 u.ef, .int .i64 u.ei, .int .i64 (u.es : Int), .slice aa3 u.ar.length ac3, .int .i64 u.er, .int .i64 u.ev]) he rfl
              have v0 : (w10.setCells (eb) 0 [.int .i64 u.ek, .int .i64 u.ef, .int .i64 u.ei, .int .i64 (u.es : Int), .slice aa3 u.ar.length ac3, .int .i64 u.er, .int .i64 u.ev]).cell? ⟨v, 0, none⟩ = some (.slice j.fa j.nf j.fc) := H2.out.cell 0 _ rfl
              have v1 : (w10.setCells (eb) 0 [.int .i64 u.ek, .int .i64 u.ef, .int .i64 u.ei, .int .i64 (u.es : Int), .slice aa3 u.ar.length ac3, .int .i64 u.er, .int .i64 u.ev]).cell? ⟨v, 1, none⟩ = some (.int .i64 j.main) := H2.out.cell 1 _ rfl
              have v2 : (w10.setCells (eb) 0 [.int .i64 u.ek, .int .i64 u.ef, .int .i64 u.ei, .int .i64 (u.es : Int), .slice aa3 u.ar.length ac3, .int .i64 u.er, .int .i64 u.ev]).cell? ⟨v, 2, none⟩ = some (.slice j.aa j.na j.ac) := H2.out.cell 2 _ rfl
              have v3 : (w10.setCells (eb) 0 [.int .i64 u.ek, .int .i64 u.ef, .int .i64 u.ei, .int .i64 (u.es : Int), .slice aa3 u.ar.length ac3, .int .i64 u.er, .int .i64 u.ev]).cell? ⟨v, 3, none⟩ = some (.int .i64 j.fuel) := H2.out.cell 3 _ rfl
              have v4 : (w10.setCells (eb) 0 [.int .i64 u.ek, .int .i64 u.ef, .int .i64 u.ei, .int .i64 (u.es : Int), .slice aa3 u.ar.length ac3, .int .i64 u.er, .int .i64 u.ev]).cell? ⟨v, 4, none⟩ = some (.int .i64 j.tasks) := H2.out.cell 4 _ rfl
              have x15 : (w10.setCells (eb) 0 [.int .i64 u.ek, .int .i64 u.ef, .int .i64 u.ei, .int .i64 (u.es : Int), .slice aa3 u.ar.length ac3, .int .i64 u.er, .int .i64 u.ev]).cell? ⟨x, 15, none⟩ = some (.slice (some ⟨rg, 0, none⟩) d.res.length rc) := H1.out.cell 15 _ rfl
              have rr := rowsR_at d.res k er2 ev2 HRES.out
              have r0 : (w10.setCells (eb) 0 [.int .i64 u.ek, .int .i64 u.ef, .int .i64 u.ei, .int .i64 (u.es : Int), .slice aa3 u.ar.length ac3, .int .i64 u.er, .int .i64 u.ev]).cell? ⟨rg, k * 2, none⟩ = some (.int .i64 er2) := by have := H1r.cells (g := rg) rfl _ _ rr.1; rw [add_none, Nat.zero_add] at this; exact this
              have r1 : (w10.setCells (eb) 0 [.int .i64 u.ek, .int .i64 u.ef, .int .i64 u.ei, .int .i64 (u.es : Int), .slice aa3 u.ar.length ac3, .int .i64 u.er, .int .i64 u.ev]).cell? ⟨rg, k * 2 + 1, none⟩ = some (.int .i64 ev2) := by have := H1r.cells (g := rg) rfl _ _ rr.2; rw [add_none, Nat.zero_add] at this; exact this
              clear hE H1r rr
              generalize w10.setCells (eb) 0 [.int .i64 u.ek, .int .i64 u.ef, .int .i64 u.ei, .int .i64 (u.es : Int), .slice aa3 u.ar.length ac3, .int .i64 u.er, .int .i64 u.ev] = w11 at *
              have hN : Below w11.heap.size w11 w11 := Below.refl _ _
              clear hHeld
              refine hK.out _ _ (⟨keep_cell v0 hN, keep_cell v1 hN, keep_cell v2 hN, keep_cell v3 hN, keep_cell v4 hN, keep_cell x15 hN, keep_cell r0 hN, keep_cell r1 hN⟩) (fun hHeld => ?_)
              clear hK K
              try simp only [Act.put, List.setIfInBounds_toArray, List.set_cons_zero, List.set_cons_succ]
              refine wpAnyH_done (by kernel_rfl) ?_ _
              refine NoPanic.normal ?_
              go_wp2_with fail
              go_meet
              case rel => exact ⟨[], ev, .slice a7 (d.e.awaits.length + 1) c7, .slice (some ⟨rg, 0, none⟩) d.res.length rc, sa3, la3, aa3, sc3, lc3, ac3, (by rw [List.append_nil]; exact rfl), (by rw [List.append_nil]; exact H2.out), (by rw [List.append_nil]; exact H5.out), (by rw [List.append_nil]; exact HAP2.out), H1.out, H4.out, ⟨hs, he, H3.out.bs, H3.out.be, o1, o2, o3⟩⟩
            · skip
              have hHeld2 := hHeld
              go_simp
              go_wp2_with fail
              clear hHeld2
              refine hK.out _ _ (⟨keep_cell v0 hN, keep_cell v1 hN, keep_cell v2 hN, keep_cell v3 hN, keep_cell v4 hN, keep_cell x15 hN, keep_cell r0 hN, keep_cell r1 hN⟩) (fun hHeld => ?_)
              clear hK K
              try simp only [Act.put, List.setIfInBounds_toArray, List.set_cons_zero, List.set_cons_succ]
              refine takeD (i := 11) (d := some 109) (v := ?_) rfl rfl (by kernel_rfl) (by kernel_rfl) (by kernel_rfl) (fun _ _ _ h => h) (Or.inl ⟨by rfl, ?_⟩) (by assumption) ?_
              rotate_left
              · intro w hSw
                go_simp
                try (with_reducible rfl)
              try simp only [Act.put, List.setIfInBounds_toArray, List.set_cons_zero, List.set_cons_succ]
              refine takeD (i := 12) (d := some 110) (v := ?_) rfl rfl (by kernel_rfl) (by kernel_rfl) (by kernel_rfl) (fun _ _ _ h => h) (Or.inl ⟨by rfl, ?_⟩) (by assumption) ?_
              rotate_left
              · intro w hSw
                go_simp
                try (with_reducible rfl)
              try simp only [Act.put, List.setIfInBounds_toArray, List.set_cons_zero, List.set_cons_succ]
              refine wpAnyH_ready (rs := [4]) (by kernel_rfl) (by simp) ?_
              refine AllReadyH.cons rfl (fun K hK => ?_) AllReadyH.nil
              have hHeld2 := hHeld
              go_simp
              go_wp2_with fail
              clear hHeld2
              refine hK.out _ _ (⟨keep_cell v0 hN, keep_cell v1 hN, keep_cell v2 hN, keep_cell v3 hN, keep_cell v4 hN, keep_cell x15 hN, keep_cell r0 hN, keep_cell r1 hN⟩) (fun hHeld => ?_)
              clear hK K
              try simp only [Act.put, List.setIfInBounds_toArray, List.set_cons_zero, List.set_cons_succ]
              refine wpAnyH_ready (rs := [13]) (by kernel_rfl) (by simp) ?_
              refine AllReadyH.cons rfl (fun K hK => ?_) AllReadyH.nil
              go_simp
              refine (C40 _ hN).mono ?_
              rintro e w9 ⟨sa3, sc3, la3, lc3, aa3, ac3, rfl, o1, o2, o3, hb9⟩
              have hKK := Kp.of (B := w0.heap.size) hN (Nat.le_trans HBX.out (Nat.le_trans hXw H6.out))
              have H4 := hide (H4.out.below_more hN (Nat.le_trans hXw H6.out) HBX.out)
              have H1 := hide (H1.out.kp hKK (Nat.le_refl _))
              have H2 := hide (H2.out.below hN)
              have H3 := hide (H3.out.kp hKK (Nat.le_refl _))
              have H5 := hide (H5.out.kp hKK (Nat.le_refl _))
              have H6 := hide (Nat.le_trans H6.out (hN).size)
              clear hKK
              have o1 := own_monoI o1 H6.out
              have o2 := own_monoI o2 H6.out
              have o3 := own_monoI o3 H6.out
              have hKK := Kp.of (B := w0.heap.size) hb9 (Nat.le_trans HBX.out (Nat.le_trans hXw H6.out))
              have H4 := hide (H4.out.below_more hb9 (Nat.le_trans hXw H6.out) HBX.out)
              have H1 := hide (H1.out.kp hKK (Nat.le_refl _))
              have H2 := hide (H2.out.below hb9)
              have H3 := hide (H3.out.kp hKK (Nat.le_refl _))
              have H5 := hide (H5.out.kp hKK (Nat.le_refl _))
              have H6 := hide (Nat.le_trans H6.out (hb9).size)
              clear hKK
              have hN := chain hN hb9
              have hs : w9.heap[sb]? = some (.cells [.int .i64 (t.fn : Int), .int .i64 (t.pc : Int), .int .i64 (t.fu : Int), .slice sa t.sk.length sc, .slice la t.lo.length lc, .int .i64 t.kd, .bool t.wt].toArray 70 (0, 0)) := H3.out.s
              have he : w9.heap[eb]? = some (.cells [.int .i64 t.ek, .int .i64 t.ef, .int .i64 (k : Int), .int .i64 (t.es : Int), .slice aa t.ar.length ac, .int .i64 t.er, .int .i64 t.ev].toArray 100 (0, 0)) := by rw [← HKE.out]; exact H3.out.e
              go_wp2_with fail
              clear hHeld hb9
              refine hK.out _ _ (⟨keep_cell v0 hN, keep_cell v1 hN, keep_cell v2 hN, keep_cell v3 hN, keep_cell v4 hN, keep_cell x15 hN, keep_cell r0 hN, keep_cell r1 hN⟩) (fun hHeld => ?_)
              clear hK K
              try simp only [Act.put, List.setIfInBounds_toArray, List.set_cons_zero, List.set_cons_succ]
              refine takeD (i := 14) (d := some 97) (v := ?_) rfl rfl (by kernel_rfl) (by kernel_rfl) (by kernel_rfl) (fun _ _ _ h => h) (Or.inl ⟨by rfl, ?_⟩) (by assumption) ?_
              rotate_left
              · intro w hSw
                go_simp
                try (with_reducible rfl)
              try simp only [Act.put, List.setIfInBounds_toArray, List.set_cons_zero, List.set_cons_succ]
              refine takeD (i := 15) (d := some 112) (v := ?_) rfl rfl (by kernel_rfl) (by kernel_rfl) (by kernel_rfl) (fun _ _ _ h => h) (Or.inl ⟨by rfl, ?_⟩) (by assumption) ?_
              rotate_left
              · intro w hSw
                go_simp
                try (with_reducible rfl)
              try simp only [Act.put, List.setIfInBounds_toArray, List.set_cons_zero, List.set_cons_succ]
              refine takeD (i := 16) (d := some 113) (v := ?_) rfl rfl (by kernel_rfl) (by kernel_rfl) (by kernel_rfl) (fun _ _ _ h => h) (Or.inl ⟨by rfl, ?_⟩) (by assumption) ?_
              rotate_left
              · intro w hSw
                go_simp
                try (with_reducible rfl)
              try simp only [Act.put, List.setIfInBounds_toArray, List.set_cons_zero, List.set_cons_succ]
              refine wpAnyH_ready (rs := [17]) (by kernel_rfl) (by simp) ?_
              refine AllReadyH.cons rfl (fun K hK => ?_) AllReadyH.nil
              have z0 : w9.cell? ⟨sb, 0, none⟩ = some (.int .i64 (t.fn : Int)) := cell_row hs rfl
              have y0 : w9.frozen? ⟨sb, 0, none⟩ = false := frozen_row hs
              have z1 : w9.cell? ⟨sb, 1, none⟩ = some (.int .i64 (t.pc : Int)) := cell_row hs rfl
              have y1 : w9.frozen? ⟨sb, 1, none⟩ = false := frozen_row hs
              have z2 : w9.cell? ⟨sb, 2, none⟩ = some (.int .i64 (t.fu : Int)) := cell_row hs rfl
              have y2 : w9.frozen? ⟨sb, 2, none⟩ = false := frozen_row hs
              have z3 : w9.cell? ⟨sb, 3, none⟩ = some (.slice sa t.sk.length sc) := cell_row hs rfl
              have y3 : w9.frozen? ⟨sb, 3, none⟩ = false := frozen_row hs
              have z4 : w9.cell? ⟨sb, 4, none⟩ = some (.slice la t.lo.length lc) := cell_row hs rfl
              have y4 : w9.frozen? ⟨sb, 4, none⟩ = false := frozen_row hs
              have z5 : w9.cell? ⟨sb, 5, none⟩ = some (.int .i64 t.kd) := cell_row hs rfl
              have y5 : w9.frozen? ⟨sb, 5, none⟩ = false := frozen_row hs
              have z6 : w9.cell? ⟨sb, 6, none⟩ = some (.bool t.wt) := cell_row hs rfl
              have y6 : w9.frozen? ⟨sb, 6, none⟩ = false := frozen_row hs
              go_simp
              go_wp2_with fail
              clear z0 y0 z1 y1 z2 y2 z3 y3 z4 y4 z5 y5 z6 y6
              show K _ (w9.setCells (sb) 0 [.int .i64 (u.fn : Int), .int .i64 (u.pc : Int), .int .i64 (u.fu : Int), .slice sa3 u.sk.length sc3, .slice la3 u.lo.length lc3, .int .i64 u.kd, .bool u.wt])
              have hE := Else.cells sb 0 w9 [.int .i64 (u.fn : Int), .int .i64 (u.pc : Int), .int .i64 (u.fu : Int), .slice sa3 u.sk.length sc3, .slice la3 u.lo.length lc3, .int .i64 u.kd, .bool u.wt]
              have o1 := own_else o1 hE hs (by decide)
              have o2 := own_else o2 hE hs (by decide)
              have o3 := own_else o3 hE hs (by decide)
              have H1r := own_else H1.out.res hE hs (by decide)
              have H2 := hide (H2.out.els hE hs (by decide) (by decide))
              have H5 := hide (H5.out.els hE hs (by decide))
              have H4 := hide (H4.out.setCells (x := sb) (Nat.le_trans hXw H3.out.bs) HBX.out 0 [.int .i64 (u.fn : Int), .int .i64 (u.pc : Int), .int .i64 (u.fu : Int), .slice sa3 u.sk.length sc3, .slice la3 u.lo.length lc3, .int .i64 u.kd, .bool u.wt])
              have H1 := hide (show DgW X (w9.setCells (sb) 0 [.int .i64 (u.fn : Int), .int .i64 (u.pc : Int), .int .i64 (u.fu : Int), .slice sa3 u.sk.length sc3, .slice la3 u.lo.length lc3, .int .i64 u.kd, .bool u.wt]) x _ a _ sv lv _ from ⟨(hE x (tagNe H1.out.at_ hs (by decide))).trans H1.out.at_, H1.out.bx, own_else H1.out.args hE hs (by decide), own_else H1.out.aws hE hs (by decide), H1r, H1.out.na⟩)
              have he := (hE eb (tagNe he hs (by decide))).trans he
              have hs := setCells_row (vs := [.int .i64 (u.fn : Int), .int .i64 (u.pc : Int), .int .i64 (u.fu : Int), .slice sa3 u.sk.length sc3, .slice la3 u.lo.length lc3, .int .i64 u.kd, .bool u.wt]) hs rfl
              have v0 : (w9.setCells (sb) 0 [.int .i64 (u.fn : Int), .int .i64 (u.pc : Int), .int .i64 (u.fu : Int), .slice sa3 u.sk.length sc3, .slice la3 u.lo.length lc3, .int .i64 u.kd, .bool u.wt]).cell? ⟨v, 0, none⟩ = some (.slice j.fa j.nf j.fc) := H2.out.cell 0 _ rfl
              have v1 : (w9.setCells (sb) 0 [.int .i64 (u.fn : Int), .int .i64 (u.pc : Int), .int .i64 (u.fu : Int), .slice sa3 u.sk.length sc3, .slice la3 u.lo.length lc3, .int .i64 u.kd, .bool u.wt]).cell? ⟨v, 1, none⟩ = some (.int .i64 j.main) := H2.out.cell 1 _ rfl
              have v2 : (w9.setCells (sb) 0 [.int .i64 (u.fn : Int), .int .i64 (u.pc : Int), .int .i64 (u.fu : Int), .slice sa3 u.sk.length sc3, .slice la3 u.lo.length lc3, .int .i64 u.kd, .bool u.wt]).cell? ⟨v, 2, none⟩ = some (.slice j.aa j.na j.ac) := H2.out.cell 2 _ rfl
              have v3 : (w9.setCells (sb) 0 [.int .i64 (u.fn : Int), .int .i64 (u.pc : Int), .int .i64 (u.fu : Int), .slice sa3 u.sk.length sc3, .slice la3 u.lo.length lc3, .int .i64 u.kd, .bool u.wt]).cell? ⟨v, 3, none⟩ = some (.int .i64 j.fuel) := H2.out.cell 3 _ rfl
              have v4 : (w9.setCells (sb) 0 [.int .i64 (u.fn : Int), .int .i64 (u.pc : Int), .int .i64 (u.fu : Int), .slice sa3 u.sk.length sc3, .slice la3 u.lo.length lc3, .int .i64 u.kd, .bool u.wt]).cell? ⟨v, 4, none⟩ = some (.int .i64 j.tasks) := H2.out.cell 4 _ rfl
              have x15 : (w9.setCells (sb) 0 [.int .i64 (u.fn : Int), .int .i64 (u.pc : Int), .int .i64 (u.fu : Int), .slice sa3 u.sk.length sc3, .slice la3 u.lo.length lc3, .int .i64 u.kd, .bool u.wt]).cell? ⟨x, 15, none⟩ = some (.slice (some ⟨rg, 0, none⟩) d.res.length rc) := H1.out.cell 15 _ rfl
              have rr := rowsR_at d.res k er2 ev2 HRES.out
              have r0 : (w9.setCells (sb) 0 [.int .i64 (u.fn : Int), .int .i64 (u.pc : Int), .int .i64 (u.fu : Int), .slice sa3 u.sk.length sc3, .slice la3 u.lo.length lc3, .int .i64 u.kd, .bool u.wt]).cell? ⟨rg, k * 2, none⟩ = some (.int .i64 er2) := by have := H1r.cells (g := rg) rfl _ _ rr.1; rw [add_none, Nat.zero_add] at this; exact this
              have r1 : (w9.setCells (sb) 0 [.int .i64 (u.fn : Int), .int .i64 (u.pc : Int), .int .i64 (u.fu : Int), .slice sa3 u.sk.length sc3, .slice la3 u.lo.length lc3, .int .i64 u.kd, .bool u.wt]).cell? ⟨rg, k * 2 + 1, none⟩ = some (.int .i64 ev2) := by have := H1r.cells (g := rg) rfl _ _ rr.2; rw [add_none, Nat.zero_add] at this; exact this
              clear hE H1r rr
              generalize w9.setCells (sb) 0 [.int .i64 (u.fn : Int), .int .i64 (u.pc : Int), .int .i64 (u.fu : Int), .slice sa3 u.sk.length sc3, .slice la3 u.lo.length lc3, .int .i64 u.kd, .bool u.wt] = w10 at *
              have hN : Below w10.heap.size w10 w10 := Below.refl _ _
              clear hHeld
              refine hK.out _ _ (⟨keep_cell v0 hN, keep_cell v1 hN, keep_cell v2 hN, keep_cell v3 hN, keep_cell v4 hN, keep_cell x15 hN, keep_cell r0 hN, keep_cell r1 hN⟩) (fun hHeld => ?_)
              clear hK K
              try simp only [Act.put, List.setIfInBounds_toArray, List.set_cons_zero, List.set_cons_succ]
              refine wpAnyH_ready (rs := [18]) (by kernel_rfl) (by simp) ?_
              refine AllReadyH.cons rfl (fun K hK => ?_) AllReadyH.nil
              have z0 : w10.cell? ⟨eb, 0, none⟩ = some (.int .i64 t.ek) := cell_row he rfl
              have y0 : w10.frozen? ⟨eb, 0, none⟩ = false := frozen_row he
              have z1 : w10.cell? ⟨eb, 1, none⟩ = some (.int .i64 t.ef) := cell_row he rfl
              have y1 : w10.frozen? ⟨eb, 1, none⟩ = false := frozen_row he
              have z2 : w10.cell? ⟨eb, 2, none⟩ = some (.int .i64 (k : Int)) := cell_row he rfl
              have y2 : w10.frozen? ⟨eb, 2, none⟩ = false := frozen_row he
              have z3 : w10.cell? ⟨eb, 3, none⟩ = some (.int .i64 (t.es : Int)) := cell_row he rfl
              have y3 : w10.frozen? ⟨eb, 3, none⟩ = false := frozen_row he
              have z4 : w10.cell? ⟨eb, 4, none⟩ = some (.slice aa t.ar.length ac) := cell_row he rfl
              have y4 : w10.frozen? ⟨eb, 4, none⟩ = false := frozen_row he
              have z5 : w10.cell? ⟨eb, 5, none⟩ = some (.int .i64 t.er) := cell_row he rfl
              have y5 : w10.frozen? ⟨eb, 5, none⟩ = false := frozen_row he
              have z6 : w10.cell? ⟨eb, 6, none⟩ = some (.int .i64 t.ev) := cell_row he rfl
              have y6 : w10.frozen? ⟨eb, 6, none⟩ = false := frozen_row he
              go_simp
              go_wp2_with fail
              clear z0 y0 z1 y1 z2 y2 z3 y3 z4 y4 z5 y5 z6 y6
              show K _ (w10.setCells (eb) 0 [.int .i64 u.ek, .int .i64 u.ef, .int .i64 u.ei, .int .i64 (u.es : Int), .slice aa3 u.ar.length ac3, .int .i64 u.er, .int .i64 u.ev])
              have hE := Else.cells eb 0 w10 [.int .i64 u.ek, .int .i64 u.ef, .int .i64 u.ei, .int .i64 (u.es : Int), .slice aa3 u.ar.length ac3, .int .i64 u.er, .int .i64 u.ev]
              have o1 := own_else o1 hE he (by decide)
              have o2 := own_else o2 hE he (by decide)
              have o3 := own_else o3 hE he (by decide)
              have H1r := own_else H1.out.res hE he (by decide)
              have H2 := hide (H2.out.els hE he (by decide) (by decide))
              have H5 := hide (H5.out.els hE he (by decide))
              have H4 := hide (H4.out.setCells (x := eb) (Nat.le_trans hXw H3.out.be) HBX.out 0 [.int .i64 u.ek, .int .i64 u.ef, .int .i64 u.ei, .int .i64 (u.es : Int), .slice aa3 u.ar.length ac3, .int .i64 u.er, .int .i64 u.ev])
              have H1 := hide (show DgW X (w10.setCells (eb) 0 [.int .i64 u.ek, .int .i64 u.ef, .int .i64 u.ei, .int .i64 (u.es : Int), .slice aa3 u.ar.length ac3, .int .i64 u.er, .int .i64 u.ev]) x _ a _ sv lv _ from ⟨(hE x (tagNe H1.out.at_ he (by decide))).trans H1.out.at_, H1.out.bx, own_else H1.out.args hE he (by decide), own_else H1.out.aws hE he (by decide), H1r, H1.out.na⟩)
              have hs := (hE sb (tagNe hs he (by decide))).trans hs
              have he := setCells_row (vs := [.int .i64 u.ek, .int .i64 u.ef, .int .i64 u.ei, .int .i64 (u.es : Int), .slice aa3 u.ar.length ac3, .int .i64 u.er, .int .i64 u.ev]) he rfl
              have v0 : (w10.setCells (eb) 0 [.int .i64 u.ek, .int .i64 u.ef, .int .i64 u.ei, .int .i64 (u.es : Int), .slice aa3 u.ar.length ac3, .int .i64 u.er, .int .i64 u.ev]).cell? ⟨v, 0, none⟩ = some (.slice j.fa j.nf j.fc) := H2.out.cell 0 _ rfl
              have v1 : (w10.setCells (eb) 0 [.int .i64 u.ek, .int .i64 u.ef, .int .i64 u.ei, .int .i64 (u.es : Int), .slice aa3 u.ar.length ac3, .int .i64 u.er, .int .i64 u.ev]).cell? ⟨v, 1, none⟩ = some (.int .i64 j.main) := H2.out.cell 1 _ rfl
              have v2 : (w10.setCells (eb) 0 [.int .i64 u.ek, .int .i64 u.ef, .int .i64 u.ei, .int .i64 (u.es : Int), .slice aa3 u.ar.length ac3, .int .i64 u.er, .int .i64 u.ev]).cell? ⟨v, 2, none⟩ = some (.slice j.aa j.na j.ac) := H2.out.cell 2 _ rfl
              have v3 : (w10.setCells (eb) 0 [.int .i64 u.ek, .int .i64 u.ef, .int .i64 u.ei, .int .i64 (u.es : Int), .slice aa3 u.ar.length ac3, .int .i64 u.er, .int .i64 u.ev]).cell? ⟨v, 3, none⟩ = some (.int .i64 j.fuel) := H2.out.cell 3 _ rfl
              have v4 : (w10.setCells (eb) 0 [.int .i64 u.ek, .int .i64 u.ef, .int .i64 u.ei, .int .i64 (u.es : Int), .slice aa3 u.ar.length ac3, .int .i64 u.er, .int .i64 u.ev]).cell? ⟨v, 4, none⟩ = some (.int .i64 j.tasks) := H2.out.cell 4 _ rfl
              have x15 : (w10.setCells (eb) 0 [.int .i64 u.ek, .int .i64 u.ef, .int .i64 u.ei, .int .i64 (u.es : Int), .slice aa3 u.ar.length ac3, .int .i64 u.er, .int .i64 u.ev]).cell? ⟨x, 15, none⟩ = some (.slice (some ⟨rg, 0, none⟩) d.res.length rc) := H1.out.cell 15 _ rfl
              have rr := rowsR_at d.res k er2 ev2 HRES.out
              have r0 : (w10.setCells (eb) 0 [.int .i64 u.ek, .int .i64 u.ef, .int .i64 u.ei, .int .i64 (u.es : Int), .slice aa3 u.ar.length ac3, .int .i64 u.er, .int .i64 u.ev]).cell? ⟨rg, k * 2, none⟩ = some (.int .i64 er2) := by have := H1r.cells (g := rg) rfl _ _ rr.1; rw [add_none, Nat.zero_add] at this; exact this
              have r1 : (w10.setCells (eb) 0 [.int .i64 u.ek, .int .i64 u.ef, .int .i64 u.ei, .int .i64 (u.es : Int), .slice aa3 u.ar.length ac3, .int .i64 u.er, .int .i64 u.ev]).cell? ⟨rg, k * 2 + 1, none⟩ = some (.int .i64 ev2) := by have := H1r.cells (g := rg) rfl _ _ rr.2; rw [add_none, Nat.zero_add] at this; exact this
              clear hE H1r rr
              generalize w10.setCells (eb) 0 [.int .i64 u.ek, .int .i64 u.ef, .int .i64 u.ei, .int .i64 (u.es : Int), .slice aa3 u.ar.length ac3, .int .i64 u.er, .int .i64 u.ev] = w11 at *
              have hN : Below w11.heap.size w11 w11 := Below.refl _ _
              clear hHeld
              refine hK.out _ _ (⟨keep_cell v0 hN, keep_cell v1 hN, keep_cell v2 hN, keep_cell v3 hN, keep_cell v4 hN, keep_cell x15 hN, keep_cell r0 hN, keep_cell r1 hN⟩) (fun hHeld => ?_)
              clear hK K
              try simp only [Act.put, List.setIfInBounds_toArray, List.set_cons_zero, List.set_cons_succ]
              refine wpAnyH_done (by kernel_rfl) ?_ _
              refine NoPanic.normal ?_
              go_wp2_with fail
              go_meet
              case rel => exact ⟨[], ev, .slice a7 (d.e.awaits.length + 1) c7, .slice (some ⟨rg, 0, none⟩) d.res.length rc, sa3, la3, aa3, sc3, lc3, ac3, (by rw [List.append_nil]; exact rfl), (by rw [List.append_nil]; exact H2.out), (by rw [List.append_nil]; exact H5.out), (by rw [List.append_nil]; exact HAP2.out), H1.out, H4.out, ⟨hs, he, H3.out.bs, H3.out.be, o1, o2, o3⟩⟩
        · have k2 : (t.ek == 2) = false := by simpa using h2
          have hev := HEV.out
          unfold evE at hev
          rw [if_neg h1, if_neg h2] at hev
          simp only [Option.some.injEq, Prod.mk.injEq] at hev
          obtain ⟨rfl, rfl, rfl, rfl⟩ := hev
          clear h1 h2
          go_wp2_with fail
          go_meet
          case rel => exact ⟨[], ev, aw, rv, sa, la, aa, sc, lc, ac, (by rw [List.append_nil]; exact rfl), (by rw [List.append_nil]; exact H2.out), (by rw [List.append_nil]; exact H5.out), (by rw [List.append_nil]; exact HAP.out), H1.out, H4.out, H3.out⟩
  case first =>
    refine wp_region_noPanic ?_
    have hN : Below w.heap.size w w.drew := (Below.refl _ _).drew
    refine wp_region_held_drew (S := fun W => W.cell? ⟨v, 0, none⟩ = some (.slice j.fa j.nf j.fc) ∧ W.cell? ⟨v, 1, none⟩ = some (.int .i64 j.main) ∧ W.cell? ⟨v, 2, none⟩ = some (.slice j.aa j.na j.ac) ∧ W.cell? ⟨v, 3, none⟩ = some (.int .i64 j.fuel) ∧ W.cell? ⟨v, 4, none⟩ = some (.int .i64 j.tasks) ∧ W.cell? ⟨x, 0, none⟩ = some (.string S0) ∧ W.cell? ⟨x, 8, none⟩ = some (.int .i64 (d.s.fn : Int)) ∧ W.cell? ⟨x, 9, none⟩ = some (.int .i64 (d.s.pc : Int)) ∧ W.cell? ⟨x, 10, none⟩ = some (.int .i64 (d.s.fu : Int)) ∧ W.cell? ⟨x, 11, none⟩ = some (sv) ∧ W.cell? ⟨x, 12, none⟩ = some (lv) ∧ W.cell? ⟨x, 13, none⟩ = some (.int .i64 d.s.kd) ∧ W.cell? ⟨x, 14, none⟩ = some (.bool d.s.wt)) (by kernel_rfl) (⟨keep_cell v0 hN, keep_cell v1 hN, keep_cell v2 hN, keep_cell v3 hN, keep_cell v4 hN, keep_cell x0 hN, keep_cell x8 hN, keep_cell x9 hN, keep_cell x10 hN, keep_cell x11 hN, keep_cell x12 hN, keep_cell x13 hN, keep_cell x14 hN⟩) (fun hHeld => ?_)
    generalize w.drew = wd at hN hHeld ⊢
    refine takeD (i := 0) (d := some 9) (v := ?_) rfl rfl (by kernel_rfl) (by kernel_rfl) (by kernel_rfl) (fun _ _ _ h => h) (Or.inl ⟨by rfl, ?_⟩) (by assumption) ?_
    rotate_left
    · intro w hSw
      go_simp
      try (with_reducible rfl)
    try simp only [Act.put, List.setIfInBounds_toArray, List.set_cons_zero, List.set_cons_succ]
    refine takeD (i := 1) (d := some 10) (v := ?_) rfl rfl (by kernel_rfl) (by kernel_rfl) (by kernel_rfl) (fun _ _ _ h => h) (Or.inl ⟨by rfl, ?_⟩) (by assumption) ?_
    rotate_left
    · intro w hSw
      go_simp
      try (with_reducible rfl)
    try simp only [Act.put, List.setIfInBounds_toArray, List.set_cons_zero, List.set_cons_succ]
    refine takeD (i := 2) (d := some 11) (v := ?_) rfl rfl (by kernel_rfl) (by kernel_rfl) (by kernel_rfl) (fun _ _ _ h => h) (Or.inl ⟨by rfl, ?_⟩) (by assumption) ?_
    rotate_left
    · intro w hSw
      go_simp
      try (with_reducible rfl)
    try simp only [Act.put, List.setIfInBounds_toArray, List.set_cons_zero, List.set_cons_succ]
    refine takeD (i := 3) (d := some 12) (v := ?_) rfl rfl (by kernel_rfl) (by kernel_rfl) (by kernel_rfl) (fun _ _ _ h => h) (Or.inl ⟨by rfl, ?_⟩) (by assumption) ?_
    rotate_left
    · intro w hSw
      go_simp
      try (with_reducible rfl)
    try simp only [Act.put, List.setIfInBounds_toArray, List.set_cons_zero, List.set_cons_succ]
    refine takeD (i := 4) (d := some 13) (v := ?_) rfl rfl (by kernel_rfl) (by kernel_rfl) (by kernel_rfl) (fun _ _ _ h => h) (Or.inl ⟨by rfl, ?_⟩) (by assumption) ?_
    rotate_left
    · intro w hSw
      go_simp
      try (with_reducible rfl)
    try simp only [Act.put, List.setIfInBounds_toArray, List.set_cons_zero, List.set_cons_succ]
    refine takeD (i := 5) (d := some 14) (v := ?_) rfl rfl (by kernel_rfl) (by kernel_rfl) (by kernel_rfl) (fun _ _ _ h => h) (Or.inl ⟨by rfl, ?_⟩) (by assumption) ?_
    rotate_left
    · intro w hSw
      go_simp
      try (with_reducible rfl)
    try simp only [Act.put, List.setIfInBounds_toArray, List.set_cons_zero, List.set_cons_succ]
    refine takeD (i := 6) (d := some 15) (v := ?_) rfl rfl (by kernel_rfl) (by kernel_rfl) (by kernel_rfl) (fun _ _ _ h => h) (Or.inl ⟨by rfl, ?_⟩) (by assumption) ?_
    rotate_left
    · intro w hSw
      go_simp
      try (with_reducible rfl)
    try simp only [Act.put, List.setIfInBounds_toArray, List.set_cons_zero, List.set_cons_succ]
    refine takeD (i := 7) (d := some 16) (v := ?_) rfl rfl (by kernel_rfl) (by kernel_rfl) (by kernel_rfl) (fun _ _ _ h => h) (Or.inl ⟨by rfl, ?_⟩) (by assumption) ?_
    rotate_left
    · intro w hSw
      go_simp
      try (with_reducible rfl)
    try simp only [Act.put, List.setIfInBounds_toArray, List.set_cons_zero, List.set_cons_succ]
    refine takeD (i := 8) (d := some 17) (v := ?_) rfl rfl (by kernel_rfl) (by kernel_rfl) (by kernel_rfl) (fun _ _ _ h => h) (Or.inl ⟨by rfl, ?_⟩) (by assumption) ?_
    rotate_left
    · intro w hSw
      go_simp
      try (with_reducible rfl)
    try simp only [Act.put, List.setIfInBounds_toArray, List.set_cons_zero, List.set_cons_succ]
    refine takeD (i := 9) (d := some 18) (v := ?_) rfl rfl (by kernel_rfl) (by kernel_rfl) (by kernel_rfl) (fun _ _ _ h => h) (Or.inl ⟨by rfl, ?_⟩) (by assumption) ?_
    rotate_left
    · intro w hSw
      go_simp
      try (with_reducible rfl)
    try simp only [Act.put, List.setIfInBounds_toArray, List.set_cons_zero, List.set_cons_succ]
    refine takeD (i := 10) (d := some 19) (v := ?_) rfl rfl (by kernel_rfl) (by kernel_rfl) (by kernel_rfl) (fun _ _ _ h => h) (Or.inl ⟨by rfl, ?_⟩) (by assumption) ?_
    rotate_left
    · intro w hSw
      go_simp
      try (with_reducible rfl)
    try simp only [Act.put, List.setIfInBounds_toArray, List.set_cons_zero, List.set_cons_succ]
    refine takeD (i := 11) (d := some 20) (v := ?_) rfl rfl (by kernel_rfl) (by kernel_rfl) (by kernel_rfl) (fun _ _ _ h => h) (Or.inl ⟨by rfl, ?_⟩) (by assumption) ?_
    rotate_left
    · intro w hSw
      go_simp
      try (with_reducible rfl)
    try simp only [Act.put, List.setIfInBounds_toArray, List.set_cons_zero, List.set_cons_succ]
    refine takeD (i := 12) (d := some 21) (v := ?_) rfl rfl (by kernel_rfl) (by kernel_rfl) (by kernel_rfl) (fun _ _ _ h => h) (Or.inl ⟨by rfl, ?_⟩) (by assumption) ?_
    rotate_left
    · intro w hSw
      go_simp
      try (with_reducible rfl)
    try simp only [Act.put, List.setIfInBounds_toArray, List.set_cons_zero, List.set_cons_succ]
    refine takeD (i := 13) (d := some 22) (v := ?_) rfl rfl (by kernel_rfl) (by kernel_rfl) (by kernel_rfl) (fun _ _ _ h => h) (Or.inl ⟨by rfl, ?_⟩) (by assumption) ?_
    rotate_left
    · intro w hSw
      go_simp
      try (with_reducible rfl)
    try simp only [Act.put, List.setIfInBounds_toArray, List.set_cons_zero, List.set_cons_succ]
    refine takeD (i := 14) (d := some 23) (v := ?_) rfl rfl (by kernel_rfl) (by kernel_rfl) (by kernel_rfl) (fun _ _ _ h => h) (Or.inl ⟨by rfl, ?_⟩) (by assumption) ?_
    rotate_left
    · intro w hSw
      go_simp
      try (with_reducible rfl)
    try simp only [Act.put, List.setIfInBounds_toArray, List.set_cons_zero, List.set_cons_succ]
    refine takeD (i := 15) (d := some 24) (v := ?_) rfl rfl (by kernel_rfl) (by kernel_rfl) (by kernel_rfl) (fun _ _ _ h => h) (Or.inl ⟨by rfl, ?_⟩) (by assumption) ?_
    rotate_left
    · intro w hSw
      go_simp
      try (with_reducible rfl)
    try simp only [Act.put, List.setIfInBounds_toArray, List.set_cons_zero, List.set_cons_succ]
    refine takeD (i := 16) (d := some 25) (v := ?_) rfl rfl (by kernel_rfl) (by kernel_rfl) (by kernel_rfl) (fun _ _ _ h => h) (Or.inl ⟨by rfl, ?_⟩) (by assumption) ?_
    rotate_left
    · intro w hSw
      go_simp
      try (with_reducible rfl)
    try simp only [Act.put, List.setIfInBounds_toArray, List.set_cons_zero, List.set_cons_succ]
    refine takeD (i := 17) (d := some 26) (v := ?_) rfl rfl (by kernel_rfl) (by kernel_rfl) (by kernel_rfl) (fun _ _ _ h => h) (Or.inl ⟨by rfl, ?_⟩) (by assumption) ?_
    rotate_left
    · intro w hSw
      go_simp
      try (with_reducible rfl)
    try simp only [Act.put, List.setIfInBounds_toArray, List.set_cons_zero, List.set_cons_succ]
    refine takeD (i := 18) (d := some 27) (v := ?_) rfl rfl (by kernel_rfl) (by kernel_rfl) (by kernel_rfl) (fun _ _ _ h => h) (Or.inl ⟨by rfl, ?_⟩) (by assumption) ?_
    rotate_left
    · intro w hSw
      go_simp
      try (with_reducible rfl)
    try simp only [Act.put, List.setIfInBounds_toArray, List.set_cons_zero, List.set_cons_succ]
    refine wpAnyH_ready (rs := [19, 23, 24]) (by kernel_rfl) (by simp) ?_
    refine AllReadyH.cons rfl (fun K hK => ?_) (AllReadyH.cons rfl (fun K hK => ?_) (AllReadyH.cons rfl (fun K hK => ?_) AllReadyH.nil))
    · skip
      go_simp
      refine (C38 _ hN).mono ?_
      rintro e w4 ⟨sa, sc, la, lc, aa, ac, rfl, o1, o2, o3, hb4⟩
      have o1 := own_monoI o1 hN.size
      have o2 := own_monoI o2 hN.size
      have o3 := own_monoI o3 hN.size
      have hN := chain hN hb4
      go_wp2_with fail
      clear hHeld hb4
      refine hK.out _ _ (⟨keep_cell v0 hN, keep_cell v1 hN, keep_cell v2 hN, keep_cell v3 hN, keep_cell v4 hN, keep_cell x0 hN, keep_cell x8 hN, keep_cell x9 hN, keep_cell x10 hN, keep_cell x11 hN, keep_cell x12 hN, keep_cell x13 hN, keep_cell x14 hN⟩) (fun hHeld => ?_)
      clear hK K
      try simp only [Act.put, List.setIfInBounds_toArray, List.set_cons_zero, List.set_cons_succ]
      refine takeD (i := 20) (d := some 8) (v := ?_) rfl rfl (by kernel_rfl) (by kernel_rfl) (by kernel_rfl) (fun _ _ _ h => h) (Or.inl ⟨by rfl, ?_⟩) (by assumption) ?_
      rotate_left
      · intro w hSw
        go_simp
        try (with_reducible rfl)
      try simp only [Act.put, List.setIfInBounds_toArray, List.set_cons_zero, List.set_cons_succ]
      refine takeD (i := 21) (d := some 29) (v := ?_) rfl rfl (by kernel_rfl) (by kernel_rfl) (by kernel_rfl) (fun _ _ _ h => h) (Or.inl ⟨by rfl, ?_⟩) (by assumption) ?_
      rotate_left
      · intro w hSw
        go_simp
        try (with_reducible rfl)
      try simp only [Act.put, List.setIfInBounds_toArray, List.set_cons_zero, List.set_cons_succ]
      refine takeD (i := 22) (d := some 30) (v := ?_) rfl rfl (by kernel_rfl) (by kernel_rfl) (by kernel_rfl) (fun _ _ _ h => h) (Or.inl ⟨by rfl, ?_⟩) (by assumption) ?_
      rotate_left
      · intro w hSw
        go_simp
        try (with_reducible rfl)
      try simp only [Act.put, List.setIfInBounds_toArray, List.set_cons_zero, List.set_cons_succ]
      refine wpAnyH_ready (rs := [23, 24]) (by kernel_rfl) (by simp) ?_
      refine AllReadyH.cons rfl (fun K hK => ?_) (AllReadyH.cons rfl (fun K hK => ?_) AllReadyH.nil)
      · skip
        go_simp
        go_wp2_with fail
        have hA := alloc_below w4 (.cells #[.int .i64 0, .int .i64 0, .int .i64 0, .slice none 0 0, .slice none 0 0, .int .i64 0, .bool false] 70)
        have hs := heap_alloc_new w4 (.cells #[.int .i64 0, .int .i64 0, .int .i64 0, .slice none 0 0, .slice none 0 0, .int .i64 0, .bool false] 70)
        have hsB := hN.size
        have o1 := own_belowI o1 hA
        have o2 := own_belowI o2 hA
        have o3 := own_belowI o3 hA
        have hN := chain hN hA
        generalize w4.alloc (.cells #[.int .i64 0, .int .i64 0, .int .i64 0, .slice none 0 0, .slice none 0 0, .int .i64 0, .bool false] 70) = w5 at *
        clear hHeld hA
        refine hK.out _ _ (⟨keep_cell v0 hN, keep_cell v1 hN, keep_cell v2 hN, keep_cell v3 hN, keep_cell v4 hN, keep_cell x0 hN, keep_cell x8 hN, keep_cell x9 hN, keep_cell x10 hN, keep_cell x11 hN, keep_cell x12 hN, keep_cell x13 hN, keep_cell x14 hN⟩) (fun hHeld => ?_)
        clear hK K
        try simp only [Act.put, List.setIfInBounds_toArray, List.set_cons_zero, List.set_cons_succ]
        refine wpAnyH_ready (rs := [24]) (by kernel_rfl) (by simp) ?_
        refine AllReadyH.cons rfl (fun K hK => ?_) AllReadyH.nil
        go_simp
        go_wp2_with fail
        have hA := alloc_below w5 (.cells #[.int .i64 0, .int .i64 0, .int .i64 0, .int .i64 0, .slice none 0 0, .int .i64 0, .int .i64 0] 100)
        have he := heap_alloc_new w5 (.cells #[.int .i64 0, .int .i64 0, .int .i64 0, .int .i64 0, .slice none 0 0, .int .i64 0, .int .i64 0] 100)
        have heB := hN.size
        have hs := heap_row hs hA
        have o1 := own_belowI o1 hA
        have o2 := own_belowI o2 hA
        have o3 := own_belowI o3 hA
        have hN := chain hN hA
        generalize w5.alloc (.cells #[.int .i64 0, .int .i64 0, .int .i64 0, .int .i64 0, .slice none 0 0, .int .i64 0, .int .i64 0] 100) = w6 at *
        clear hHeld hA
        refine hK.out _ _ (⟨keep_cell v0 hN, keep_cell v1 hN, keep_cell v2 hN, keep_cell v3 hN, keep_cell v4 hN, keep_cell x0 hN, keep_cell x8 hN, keep_cell x9 hN, keep_cell x10 hN, keep_cell x11 hN, keep_cell x12 hN, keep_cell x13 hN, keep_cell x14 hN⟩) (fun hHeld => ?_)
        clear hK K
        try simp only [Act.put, List.setIfInBounds_toArray, List.set_cons_zero, List.set_cons_succ]
        refine wpAnyH_ready (rs := [25]) (by kernel_rfl) (by simp) ?_
        refine AllReadyH.cons rfl (fun K hK => ?_) AllReadyH.nil
        have z0 : w6.cell? ⟨w4.heap.size, 0, none⟩ = some (.int .i64 0) := by simp only [World.cell?, hs]; rfl
        have y0 : w6.frozen? ⟨w4.heap.size, 0, none⟩ = false := by simp [World.frozen?, hs]
        have z1 : w6.cell? ⟨w4.heap.size, 1, none⟩ = some (.int .i64 0) := by simp only [World.cell?, hs]; rfl
        have y1 : w6.frozen? ⟨w4.heap.size, 1, none⟩ = false := by simp [World.frozen?, hs]
        have z2 : w6.cell? ⟨w4.heap.size, 2, none⟩ = some (.int .i64 0) := by simp only [World.cell?, hs]; rfl
        have y2 : w6.frozen? ⟨w4.heap.size, 2, none⟩ = false := by simp [World.frozen?, hs]
        have z3 : w6.cell? ⟨w4.heap.size, 3, none⟩ = some (.slice none 0 0) := by simp only [World.cell?, hs]; rfl
        have y3 : w6.frozen? ⟨w4.heap.size, 3, none⟩ = false := by simp [World.frozen?, hs]
        have z4 : w6.cell? ⟨w4.heap.size, 4, none⟩ = some (.slice none 0 0) := by simp only [World.cell?, hs]; rfl
        have y4 : w6.frozen? ⟨w4.heap.size, 4, none⟩ = false := by simp [World.frozen?, hs]
        have z5 : w6.cell? ⟨w4.heap.size, 5, none⟩ = some (.int .i64 0) := by simp only [World.cell?, hs]; rfl
        have y5 : w6.frozen? ⟨w4.heap.size, 5, none⟩ = false := by simp [World.frozen?, hs]
        have z6 : w6.cell? ⟨w4.heap.size, 6, none⟩ = some (.bool false) := by simp only [World.cell?, hs]; rfl
        have y6 : w6.frozen? ⟨w4.heap.size, 6, none⟩ = false := by simp [World.frozen?, hs]
        go_simp
        go_wp2_with fail
        clear z0 y0 z1 y1 z2 y2 z3 y3 z4 y4 z5 y5 z6 y6
        show K _ (w6.setCells (w4.heap.size) 0 [.int .i64 (t.fn : Int), .int .i64 (t.pc : Int), .int .i64 (t.fu : Int), .slice sa t.sk.length sc, .slice la t.lo.length lc, .int .i64 t.kd, .bool t.wt])
        have hne : w5.heap.size ≠ w4.heap.size := by intro e; rw [e, hs] at he; simp at he
        have o1 := own_stay o1 (fun g c _ hg => setCells_other (k := g) (b := w4.heap.size) (by intro e; rw [e, hs] at hg; simp at hg) [.int .i64 (t.fn : Int), .int .i64 (t.pc : Int), .int .i64 (t.fu : Int), .slice sa t.sk.length sc, .slice la t.lo.length lc, .int .i64 t.kd, .bool t.wt] 0 w6)
        have o2 := own_stay o2 (fun g c _ hg => setCells_other (k := g) (b := w4.heap.size) (by intro e; rw [e, hs] at hg; simp at hg) [.int .i64 (t.fn : Int), .int .i64 (t.pc : Int), .int .i64 (t.fu : Int), .slice sa t.sk.length sc, .slice la t.lo.length lc, .int .i64 t.kd, .bool t.wt] 0 w6)
        have o3 := own_stay o3 (fun g c _ hg => setCells_other (k := g) (b := w4.heap.size) (by intro e; rw [e, hs] at hg; simp at hg) [.int .i64 (t.fn : Int), .int .i64 (t.pc : Int), .int .i64 (t.fu : Int), .slice sa t.sk.length sc, .slice la t.lo.length lc, .int .i64 t.kd, .bool t.wt] 0 w6)
        have he := (setCells_other (k := w5.heap.size) (b := w4.heap.size) hne [.int .i64 (t.fn : Int), .int .i64 (t.pc : Int), .int .i64 (t.fu : Int), .slice sa t.sk.length sc, .slice la t.lo.length lc, .int .i64 t.kd, .bool t.wt] 0 w6).trans he
        have hs := setCells_row (vs := [.int .i64 (t.fn : Int), .int .i64 (t.pc : Int), .int .i64 (t.fu : Int), .slice sa t.sk.length sc, .slice la t.lo.length lc, .int .i64 t.kd, .bool t.wt]) hs rfl
        have hN := setCells_below hsB [.int .i64 (t.fn : Int), .int .i64 (t.pc : Int), .int .i64 (t.fu : Int), .slice sa t.sk.length sc, .slice la t.lo.length lc, .int .i64 t.kd, .bool t.wt] 0 hN
        generalize w6.setCells (w4.heap.size) 0 [.int .i64 (t.fn : Int), .int .i64 (t.pc : Int), .int .i64 (t.fu : Int), .slice sa t.sk.length sc, .slice la t.lo.length lc, .int .i64 t.kd, .bool t.wt] = w7 at *
        clear hne hHeld
        refine hK.out _ _ (⟨keep_cell v0 hN, keep_cell v1 hN, keep_cell v2 hN, keep_cell v3 hN, keep_cell v4 hN, keep_cell x0 hN, keep_cell x8 hN, keep_cell x9 hN, keep_cell x10 hN, keep_cell x11 hN, keep_cell x12 hN, keep_cell x13 hN, keep_cell x14 hN⟩) (fun hHeld => ?_)
        clear hK K
        try simp only [Act.put, List.setIfInBounds_toArray, List.set_cons_zero, List.set_cons_succ]
        refine wpAnyH_ready (rs := [26]) (by kernel_rfl) (by simp) ?_
        refine AllReadyH.cons rfl (fun K hK => ?_) AllReadyH.nil
        have z0 : w7.cell? ⟨w5.heap.size, 0, none⟩ = some (.int .i64 0) := by simp only [World.cell?, he]; rfl
        have y0 : w7.frozen? ⟨w5.heap.size, 0, none⟩ = false := by simp [World.frozen?, he]
        have z1 : w7.cell? ⟨w5.heap.size, 1, none⟩ = some (.int .i64 0) := by simp only [World.cell?, he]; rfl
        have y1 : w7.frozen? ⟨w5.heap.size, 1, none⟩ = false := by simp [World.frozen?, he]
        have z2 : w7.cell? ⟨w5.heap.size, 2, none⟩ = some (.int .i64 0) := by simp only [World.cell?, he]; rfl
        have y2 : w7.frozen? ⟨w5.heap.size, 2, none⟩ = false := by simp [World.frozen?, he]
        have z3 : w7.cell? ⟨w5.heap.size, 3, none⟩ = some (.int .i64 0) := by simp only [World.cell?, he]; rfl
        have y3 : w7.frozen? ⟨w5.heap.size, 3, none⟩ = false := by simp [World.frozen?, he]
        have z4 : w7.cell? ⟨w5.heap.size, 4, none⟩ = some (.slice none 0 0) := by simp only [World.cell?, he]; rfl
        have y4 : w7.frozen? ⟨w5.heap.size, 4, none⟩ = false := by simp [World.frozen?, he]
        have z5 : w7.cell? ⟨w5.heap.size, 5, none⟩ = some (.int .i64 0) := by simp only [World.cell?, he]; rfl
        have y5 : w7.frozen? ⟨w5.heap.size, 5, none⟩ = false := by simp [World.frozen?, he]
        have z6 : w7.cell? ⟨w5.heap.size, 6, none⟩ = some (.int .i64 0) := by simp only [World.cell?, he]; rfl
        have y6 : w7.frozen? ⟨w5.heap.size, 6, none⟩ = false := by simp [World.frozen?, he]
        go_simp
        go_wp2_with fail
        clear z0 y0 z1 y1 z2 y2 z3 y3 z4 y4 z5 y5 z6 y6
        show K _ (w7.setCells (w5.heap.size) 0 [.int .i64 t.ek, .int .i64 t.ef, .int .i64 t.ei, .int .i64 (t.es : Int), .slice aa t.ar.length ac, .int .i64 t.er, .int .i64 t.ev])
        have hne : w4.heap.size ≠ w5.heap.size := by intro e; rw [e, he] at hs; simp at hs
        have o1 := own_stay o1 (fun g c _ hg => setCells_other (k := g) (b := w5.heap.size) (by intro e; rw [e, he] at hg; simp at hg) [.int .i64 t.ek, .int .i64 t.ef, .int .i64 t.ei, .int .i64 (t.es : Int), .slice aa t.ar.length ac, .int .i64 t.er, .int .i64 t.ev] 0 w7)
        have o2 := own_stay o2 (fun g c _ hg => setCells_other (k := g) (b := w5.heap.size) (by intro e; rw [e, he] at hg; simp at hg) [.int .i64 t.ek, .int .i64 t.ef, .int .i64 t.ei, .int .i64 (t.es : Int), .slice aa t.ar.length ac, .int .i64 t.er, .int .i64 t.ev] 0 w7)
        have o3 := own_stay o3 (fun g c _ hg => setCells_other (k := g) (b := w5.heap.size) (by intro e; rw [e, he] at hg; simp at hg) [.int .i64 t.ek, .int .i64 t.ef, .int .i64 t.ei, .int .i64 (t.es : Int), .slice aa t.ar.length ac, .int .i64 t.er, .int .i64 t.ev] 0 w7)
        have hs := (setCells_other (k := w4.heap.size) (b := w5.heap.size) hne [.int .i64 t.ek, .int .i64 t.ef, .int .i64 t.ei, .int .i64 (t.es : Int), .slice aa t.ar.length ac, .int .i64 t.er, .int .i64 t.ev] 0 w7).trans hs
        have he := setCells_row (vs := [.int .i64 t.ek, .int .i64 t.ef, .int .i64 t.ei, .int .i64 (t.es : Int), .slice aa t.ar.length ac, .int .i64 t.er, .int .i64 t.ev]) he rfl
        have hN := setCells_below heB [.int .i64 t.ek, .int .i64 t.ef, .int .i64 t.ei, .int .i64 (t.es : Int), .slice aa t.ar.length ac, .int .i64 t.er, .int .i64 t.ev] 0 hN
        generalize w7.setCells (w5.heap.size) 0 [.int .i64 t.ek, .int .i64 t.ef, .int .i64 t.ei, .int .i64 (t.es : Int), .slice aa t.ar.length ac, .int .i64 t.er, .int .i64 t.ev] = w8 at *
        clear hne hHeld
        refine hK.out _ _ (⟨keep_cell v0 hN, keep_cell v1 hN, keep_cell v2 hN, keep_cell v3 hN, keep_cell v4 hN, keep_cell x0 hN, keep_cell x8 hN, keep_cell x9 hN, keep_cell x10 hN, keep_cell x11 hN, keep_cell x12 hN, keep_cell x13 hN, keep_cell x14 hN⟩) (fun hHeld => ?_)
        clear hK K
        try simp only [Act.put, List.setIfInBounds_toArray, List.set_cons_zero, List.set_cons_succ]
        refine wpAnyH_done (by kernel_rfl) ?_ _
        refine NoPanic.normal ?_
        go_wp2_with fail
        go_meet
        case rel => exact ⟨w4.heap.size, w5.heap.size, sa, la, aa, sc, lc, ac, rfl, rfl, ⟨hs, he, hsB, heB, o1, o2, o3⟩, hN⟩
      · skip
        go_simp
        go_wp2_with fail
        have hA := alloc_below w4 (.cells #[.int .i64 0, .int .i64 0, .int .i64 0, .int .i64 0, .slice none 0 0, .int .i64 0, .int .i64 0] 100)
        have he := heap_alloc_new w4 (.cells #[.int .i64 0, .int .i64 0, .int .i64 0, .int .i64 0, .slice none 0 0, .int .i64 0, .int .i64 0] 100)
        have heB := hN.size
        have o1 := own_belowI o1 hA
        have o2 := own_belowI o2 hA
        have o3 := own_belowI o3 hA
        have hN := chain hN hA
        generalize w4.alloc (.cells #[.int .i64 0, .int .i64 0, .int .i64 0, .int .i64 0, .slice none 0 0, .int .i64 0, .int .i64 0] 100) = w6 at *
        clear hHeld hA
        refine hK.out _ _ (⟨keep_cell v0 hN, keep_cell v1 hN, keep_cell v2 hN, keep_cell v3 hN, keep_cell v4 hN, keep_cell x0 hN, keep_cell x8 hN, keep_cell x9 hN, keep_cell x10 hN, keep_cell x11 hN, keep_cell x12 hN, keep_cell x13 hN, keep_cell x14 hN⟩) (fun hHeld => ?_)
        clear hK K
        try simp only [Act.put, List.setIfInBounds_toArray, List.set_cons_zero, List.set_cons_succ]
        refine wpAnyH_ready (rs := [23]) (by kernel_rfl) (by simp) ?_
        refine AllReadyH.cons rfl (fun K hK => ?_) AllReadyH.nil
        go_simp
        go_wp2_with fail
        have hA := alloc_below w6 (.cells #[.int .i64 0, .int .i64 0, .int .i64 0, .slice none 0 0, .slice none 0 0, .int .i64 0, .bool false] 70)
        have hs := heap_alloc_new w6 (.cells #[.int .i64 0, .int .i64 0, .int .i64 0, .slice none 0 0, .slice none 0 0, .int .i64 0, .bool false] 70)
        have hsB := hN.size
        have he := heap_row he hA
        have o1 := own_belowI o1 hA
        have o2 := own_belowI o2 hA
        have o3 := own_belowI o3 hA
        have hN := chain hN hA
        generalize w6.alloc (.cells #[.int .i64 0, .int .i64 0, .int .i64 0, .slice none 0 0, .slice none 0 0, .int .i64 0, .bool false] 70) = w5 at *
        clear hHeld hA
        refine hK.out _ _ (⟨keep_cell v0 hN, keep_cell v1 hN, keep_cell v2 hN, keep_cell v3 hN, keep_cell v4 hN, keep_cell x0 hN, keep_cell x8 hN, keep_cell x9 hN, keep_cell x10 hN, keep_cell x11 hN, keep_cell x12 hN, keep_cell x13 hN, keep_cell x14 hN⟩) (fun hHeld => ?_)
        clear hK K
        try simp only [Act.put, List.setIfInBounds_toArray, List.set_cons_zero, List.set_cons_succ]
        refine wpAnyH_ready (rs := [25]) (by kernel_rfl) (by simp) ?_
        refine AllReadyH.cons rfl (fun K hK => ?_) AllReadyH.nil
        have z0 : w5.cell? ⟨w6.heap.size, 0, none⟩ = some (.int .i64 0) := by simp only [World.cell?, hs]; rfl
        have y0 : w5.frozen? ⟨w6.heap.size, 0, none⟩ = false := by simp [World.frozen?, hs]
        have z1 : w5.cell? ⟨w6.heap.size, 1, none⟩ = some (.int .i64 0) := by simp only [World.cell?, hs]; rfl
        have y1 : w5.frozen? ⟨w6.heap.size, 1, none⟩ = false := by simp [World.frozen?, hs]
        have z2 : w5.cell? ⟨w6.heap.size, 2, none⟩ = some (.int .i64 0) := by simp only [World.cell?, hs]; rfl
        have y2 : w5.frozen? ⟨w6.heap.size, 2, none⟩ = false := by simp [World.frozen?, hs]
        have z3 : w5.cell? ⟨w6.heap.size, 3, none⟩ = some (.slice none 0 0) := by simp only [World.cell?, hs]; rfl
        have y3 : w5.frozen? ⟨w6.heap.size, 3, none⟩ = false := by simp [World.frozen?, hs]
        have z4 : w5.cell? ⟨w6.heap.size, 4, none⟩ = some (.slice none 0 0) := by simp only [World.cell?, hs]; rfl
        have y4 : w5.frozen? ⟨w6.heap.size, 4, none⟩ = false := by simp [World.frozen?, hs]
        have z5 : w5.cell? ⟨w6.heap.size, 5, none⟩ = some (.int .i64 0) := by simp only [World.cell?, hs]; rfl
        have y5 : w5.frozen? ⟨w6.heap.size, 5, none⟩ = false := by simp [World.frozen?, hs]
        have z6 : w5.cell? ⟨w6.heap.size, 6, none⟩ = some (.bool false) := by simp only [World.cell?, hs]; rfl
        have y6 : w5.frozen? ⟨w6.heap.size, 6, none⟩ = false := by simp [World.frozen?, hs]
        go_simp
        go_wp2_with fail
        clear z0 y0 z1 y1 z2 y2 z3 y3 z4 y4 z5 y5 z6 y6
        show K _ (w5.setCells (w6.heap.size) 0 [.int .i64 (t.fn : Int), .int .i64 (t.pc : Int), .int .i64 (t.fu : Int), .slice sa t.sk.length sc, .slice la t.lo.length lc, .int .i64 t.kd, .bool t.wt])
        have hne : w4.heap.size ≠ w6.heap.size := by intro e; rw [e, hs] at he; simp at he
        have o1 := own_stay o1 (fun g c _ hg => setCells_other (k := g) (b := w6.heap.size) (by intro e; rw [e, hs] at hg; simp at hg) [.int .i64 (t.fn : Int), .int .i64 (t.pc : Int), .int .i64 (t.fu : Int), .slice sa t.sk.length sc, .slice la t.lo.length lc, .int .i64 t.kd, .bool t.wt] 0 w5)
        have o2 := own_stay o2 (fun g c _ hg => setCells_other (k := g) (b := w6.heap.size) (by intro e; rw [e, hs] at hg; simp at hg) [.int .i64 (t.fn : Int), .int .i64 (t.pc : Int), .int .i64 (t.fu : Int), .slice sa t.sk.length sc, .slice la t.lo.length lc, .int .i64 t.kd, .bool t.wt] 0 w5)
        have o3 := own_stay o3 (fun g c _ hg => setCells_other (k := g) (b := w6.heap.size) (by intro e; rw [e, hs] at hg; simp at hg) [.int .i64 (t.fn : Int), .int .i64 (t.pc : Int), .int .i64 (t.fu : Int), .slice sa t.sk.length sc, .slice la t.lo.length lc, .int .i64 t.kd, .bool t.wt] 0 w5)
        have he := (setCells_other (k := w4.heap.size) (b := w6.heap.size) hne [.int .i64 (t.fn : Int), .int .i64 (t.pc : Int), .int .i64 (t.fu : Int), .slice sa t.sk.length sc, .slice la t.lo.length lc, .int .i64 t.kd, .bool t.wt] 0 w5).trans he
        have hs := setCells_row (vs := [.int .i64 (t.fn : Int), .int .i64 (t.pc : Int), .int .i64 (t.fu : Int), .slice sa t.sk.length sc, .slice la t.lo.length lc, .int .i64 t.kd, .bool t.wt]) hs rfl
        have hN := setCells_below hsB [.int .i64 (t.fn : Int), .int .i64 (t.pc : Int), .int .i64 (t.fu : Int), .slice sa t.sk.length sc, .slice la t.lo.length lc, .int .i64 t.kd, .bool t.wt] 0 hN
        generalize w5.setCells (w6.heap.size) 0 [.int .i64 (t.fn : Int), .int .i64 (t.pc : Int), .int .i64 (t.fu : Int), .slice sa t.sk.length sc, .slice la t.lo.length lc, .int .i64 t.kd, .bool t.wt] = w7 at *
        clear hne hHeld
        refine hK.out _ _ (⟨keep_cell v0 hN, keep_cell v1 hN, keep_cell v2 hN, keep_cell v3 hN, keep_cell v4 hN, keep_cell x0 hN, keep_cell x8 hN, keep_cell x9 hN, keep_cell x10 hN, keep_cell x11 hN, keep_cell x12 hN, keep_cell x13 hN, keep_cell x14 hN⟩) (fun hHeld => ?_)
        clear hK K
        try simp only [Act.put, List.setIfInBounds_toArray, List.set_cons_zero, List.set_cons_succ]
        refine wpAnyH_ready (rs := [26]) (by kernel_rfl) (by simp) ?_
        refine AllReadyH.cons rfl (fun K hK => ?_) AllReadyH.nil
        have z0 : w7.cell? ⟨w4.heap.size, 0, none⟩ = some (.int .i64 0) := by simp only [World.cell?, he]; rfl
        have y0 : w7.frozen? ⟨w4.heap.size, 0, none⟩ = false := by simp [World.frozen?, he]
        have z1 : w7.cell? ⟨w4.heap.size, 1, none⟩ = some (.int .i64 0) := by simp only [World.cell?, he]; rfl
        have y1 : w7.frozen? ⟨w4.heap.size, 1, none⟩ = false := by simp [World.frozen?, he]
        have z2 : w7.cell? ⟨w4.heap.size, 2, none⟩ = some (.int .i64 0) := by simp only [World.cell?, he]; rfl
        have y2 : w7.frozen? ⟨w4.heap.size, 2, none⟩ = false := by simp [World.frozen?, he]
        have z3 : w7.cell? ⟨w4.heap.size, 3, none⟩ = some (.int .i64 0) := by simp only [World.cell?, he]; rfl
        have y3 : w7.frozen? ⟨w4.heap.size, 3, none⟩ = false := by simp [World.frozen?, he]
        have z4 : w7.cell? ⟨w4.heap.size, 4, none⟩ = some (.slice none 0 0) := by simp only [World.cell?, he]; rfl
        have y4 : w7.frozen? ⟨w4.heap.size, 4, none⟩ = false := by simp [World.frozen?, he]
        have z5 : w7.cell? ⟨w4.heap.size, 5, none⟩ = some (.int .i64 0) := by simp only [World.cell?, he]; rfl
        have y5 : w7.frozen? ⟨w4.heap.size, 5, none⟩ = false := by simp [World.frozen?, he]
        have z6 : w7.cell? ⟨w4.heap.size, 6, none⟩ = some (.int .i64 0) := by simp only [World.cell?, he]; rfl
        have y6 : w7.frozen? ⟨w4.heap.size, 6, none⟩ = false := by simp [World.frozen?, he]
        go_simp
        go_wp2_with fail
        clear z0 y0 z1 y1 z2 y2 z3 y3 z4 y4 z5 y5 z6 y6
        show K _ (w7.setCells (w4.heap.size) 0 [.int .i64 t.ek, .int .i64 t.ef, .int .i64 t.ei, .int .i64 (t.es : Int), .slice aa t.ar.length ac, .int .i64 t.er, .int .i64 t.ev])
        have hne : w6.heap.size ≠ w4.heap.size := by intro e; rw [e, he] at hs; simp at hs
        have o1 := own_stay o1 (fun g c _ hg => setCells_other (k := g) (b := w4.heap.size) (by intro e; rw [e, he] at hg; simp at hg) [.int .i64 t.ek, .int .i64 t.ef, .int .i64 t.ei, .int .i64 (t.es : Int), .slice aa t.ar.length ac, .int .i64 t.er, .int .i64 t.ev] 0 w7)
        have o2 := own_stay o2 (fun g c _ hg => setCells_other (k := g) (b := w4.heap.size) (by intro e; rw [e, he] at hg; simp at hg) [.int .i64 t.ek, .int .i64 t.ef, .int .i64 t.ei, .int .i64 (t.es : Int), .slice aa t.ar.length ac, .int .i64 t.er, .int .i64 t.ev] 0 w7)
        have o3 := own_stay o3 (fun g c _ hg => setCells_other (k := g) (b := w4.heap.size) (by intro e; rw [e, he] at hg; simp at hg) [.int .i64 t.ek, .int .i64 t.ef, .int .i64 t.ei, .int .i64 (t.es : Int), .slice aa t.ar.length ac, .int .i64 t.er, .int .i64 t.ev] 0 w7)
        have hs := (setCells_other (k := w6.heap.size) (b := w4.heap.size) hne [.int .i64 t.ek, .int .i64 t.ef, .int .i64 t.ei, .int .i64 (t.es : Int), .slice aa t.ar.length ac, .int .i64 t.er, .int .i64 t.ev] 0 w7).trans hs
        have he := setCells_row (vs := [.int .i64 t.ek, .int .i64 t.ef, .int .i64 t.ei, .int .i64 (t.es : Int), .slice aa t.ar.length ac, .int .i64 t.er, .int .i64 t.ev]) he rfl
        have hN := setCells_below heB [.int .i64 t.ek, .int .i64 t.ef, .int .i64 t.ei, .int .i64 (t.es : Int), .slice aa t.ar.length ac, .int .i64 t.er, .int .i64 t.ev] 0 hN
        generalize w7.setCells (w4.heap.size) 0 [.int .i64 t.ek, .int .i64 t.ef, .int .i64 t.ei, .int .i64 (t.es : Int), .slice aa t.ar.length ac, .int .i64 t.er, .int .i64 t.ev] = w8 at *
        clear hne hHeld
        refine hK.out _ _ (⟨keep_cell v0 hN, keep_cell v1 hN, keep_cell v2 hN, keep_cell v3 hN, keep_cell v4 hN, keep_cell x0 hN, keep_cell x8 hN, keep_cell x9 hN, keep_cell x10 hN, keep_cell x11 hN, keep_cell x12 hN, keep_cell x13 hN, keep_cell x14 hN⟩) (fun hHeld => ?_)
        clear hK K
        try simp only [Act.put, List.setIfInBounds_toArray, List.set_cons_zero, List.set_cons_succ]
        refine wpAnyH_done (by kernel_rfl) ?_ _
        refine NoPanic.normal ?_
        go_wp2_with fail
        go_meet
        case rel => exact ⟨w6.heap.size, w4.heap.size, sa, la, aa, sc, lc, ac, rfl, rfl, ⟨hs, he, hsB, heB, o1, o2, o3⟩, hN⟩
    · skip
      go_simp
      go_wp2_with fail
      have hA := alloc_below wd (.cells #[.int .i64 0, .int .i64 0, .int .i64 0, .slice none 0 0, .slice none 0 0, .int .i64 0, .bool false] 70)
      have hs := heap_alloc_new wd (.cells #[.int .i64 0, .int .i64 0, .int .i64 0, .slice none 0 0, .slice none 0 0, .int .i64 0, .bool false] 70)
      have hsB := hN.size
      have hN := chain hN hA
      generalize wd.alloc (.cells #[.int .i64 0, .int .i64 0, .int .i64 0, .slice none 0 0, .slice none 0 0, .int .i64 0, .bool false] 70) = w5 at *
      clear hHeld hA
      refine hK.out _ _ (⟨keep_cell v0 hN, keep_cell v1 hN, keep_cell v2 hN, keep_cell v3 hN, keep_cell v4 hN, keep_cell x0 hN, keep_cell x8 hN, keep_cell x9 hN, keep_cell x10 hN, keep_cell x11 hN, keep_cell x12 hN, keep_cell x13 hN, keep_cell x14 hN⟩) (fun hHeld => ?_)
      clear hK K
      try simp only [Act.put, List.setIfInBounds_toArray, List.set_cons_zero, List.set_cons_succ]
      refine wpAnyH_ready (rs := [19, 24]) (by kernel_rfl) (by simp) ?_
      refine AllReadyH.cons rfl (fun K hK => ?_) (AllReadyH.cons rfl (fun K hK => ?_) AllReadyH.nil)
      · skip
        go_simp
        refine (C38 _ hN).mono ?_
        rintro e w4 ⟨sa, sc, la, lc, aa, ac, rfl, o1, o2, o3, hb4⟩
        have o1 := own_monoI o1 hN.size
        have o2 := own_monoI o2 hN.size
        have o3 := own_monoI o3 hN.size
        have hs := heap_row hs hb4
        have hN := chain hN hb4
        go_wp2_with fail
        clear hHeld hb4
        refine hK.out _ _ (⟨keep_cell v0 hN, keep_cell v1 hN, keep_cell v2 hN, keep_cell v3 hN, keep_cell v4 hN, keep_cell x0 hN, keep_cell x8 hN, keep_cell x9 hN, keep_cell x10 hN, keep_cell x11 hN, keep_cell x12 hN, keep_cell x13 hN, keep_cell x14 hN⟩) (fun hHeld => ?_)
        clear hK K
        try simp only [Act.put, List.setIfInBounds_toArray, List.set_cons_zero, List.set_cons_succ]
        refine takeD (i := 20) (d := some 8) (v := ?_) rfl rfl (by kernel_rfl) (by kernel_rfl) (by kernel_rfl) (fun _ _ _ h => h) (Or.inl ⟨by rfl, ?_⟩) (by assumption) ?_
        rotate_left
        · intro w hSw
          go_simp
          try (with_reducible rfl)
        try simp only [Act.put, List.setIfInBounds_toArray, List.set_cons_zero, List.set_cons_succ]
        refine takeD (i := 21) (d := some 29) (v := ?_) rfl rfl (by kernel_rfl) (by kernel_rfl) (by kernel_rfl) (fun _ _ _ h => h) (Or.inl ⟨by rfl, ?_⟩) (by assumption) ?_
        rotate_left
        · intro w hSw
          go_simp
          try (with_reducible rfl)
        try simp only [Act.put, List.setIfInBounds_toArray, List.set_cons_zero, List.set_cons_succ]
        refine takeD (i := 22) (d := some 30) (v := ?_) rfl rfl (by kernel_rfl) (by kernel_rfl) (by kernel_rfl) (fun _ _ _ h => h) (Or.inl ⟨by rfl, ?_⟩) (by assumption) ?_
        rotate_left
        · intro w hSw
          go_simp
          try (with_reducible rfl)
        try simp only [Act.put, List.setIfInBounds_toArray, List.set_cons_zero, List.set_cons_succ]
        refine wpAnyH_ready (rs := [24]) (by kernel_rfl) (by simp) ?_
        refine AllReadyH.cons rfl (fun K hK => ?_) AllReadyH.nil
        go_simp
        go_wp2_with fail
        have hA := alloc_below w4 (.cells #[.int .i64 0, .int .i64 0, .int .i64 0, .int .i64 0, .slice none 0 0, .int .i64 0, .int .i64 0] 100)
        have he := heap_alloc_new w4 (.cells #[.int .i64 0, .int .i64 0, .int .i64 0, .int .i64 0, .slice none 0 0, .int .i64 0, .int .i64 0] 100)
        have heB := hN.size
        have hs := heap_row hs hA
        have o1 := own_belowI o1 hA
        have o2 := own_belowI o2 hA
        have o3 := own_belowI o3 hA
        have hN := chain hN hA
        generalize w4.alloc (.cells #[.int .i64 0, .int .i64 0, .int .i64 0, .int .i64 0, .slice none 0 0, .int .i64 0, .int .i64 0] 100) = w6 at *
        clear hHeld hA
        refine hK.out _ _ (⟨keep_cell v0 hN, keep_cell v1 hN, keep_cell v2 hN, keep_cell v3 hN, keep_cell v4 hN, keep_cell x0 hN, keep_cell x8 hN, keep_cell x9 hN, keep_cell x10 hN, keep_cell x11 hN, keep_cell x12 hN, keep_cell x13 hN, keep_cell x14 hN⟩) (fun hHeld => ?_)
        clear hK K
        try simp only [Act.put, List.setIfInBounds_toArray, List.set_cons_zero, List.set_cons_succ]
        refine wpAnyH_ready (rs := [25]) (by kernel_rfl) (by simp) ?_
        refine AllReadyH.cons rfl (fun K hK => ?_) AllReadyH.nil
        have z0 : w6.cell? ⟨wd.heap.size, 0, none⟩ = some (.int .i64 0) := by simp only [World.cell?, hs]; rfl
        have y0 : w6.frozen? ⟨wd.heap.size, 0, none⟩ = false := by simp [World.frozen?, hs]
        have z1 : w6.cell? ⟨wd.heap.size, 1, none⟩ = some (.int .i64 0) := by simp only [World.cell?, hs]; rfl
        have y1 : w6.frozen? ⟨wd.heap.size, 1, none⟩ = false := by simp [World.frozen?, hs]
        have z2 : w6.cell? ⟨wd.heap.size, 2, none⟩ = some (.int .i64 0) := by simp only [World.cell?, hs]; rfl
        have y2 : w6.frozen? ⟨wd.heap.size, 2, none⟩ = false := by simp [World.frozen?, hs]
        have z3 : w6.cell? ⟨wd.heap.size, 3, none⟩ = some (.slice none 0 0) := by simp only [World.cell?, hs]; rfl
        have y3 : w6.frozen? ⟨wd.heap.size, 3, none⟩ = false := by simp [World.frozen?, hs]
        have z4 : w6.cell? ⟨wd.heap.size, 4, none⟩ = some (.slice none 0 0) := by simp only [World.cell?, hs]; rfl
        have y4 : w6.frozen? ⟨wd.heap.size, 4, none⟩ = false := by simp [World.frozen?, hs]
        have z5 : w6.cell? ⟨wd.heap.size, 5, none⟩ = some (.int .i64 0) := by simp only [World.cell?, hs]; rfl
        have y5 : w6.frozen? ⟨wd.heap.size, 5, none⟩ = false := by simp [World.frozen?, hs]
        have z6 : w6.cell? ⟨wd.heap.size, 6, none⟩ = some (.bool false) := by simp only [World.cell?, hs]; rfl
        have y6 : w6.frozen? ⟨wd.heap.size, 6, none⟩ = false := by simp [World.frozen?, hs]
        go_simp
        go_wp2_with fail
        clear z0 y0 z1 y1 z2 y2 z3 y3 z4 y4 z5 y5 z6 y6
        show K _ (w6.setCells (wd.heap.size) 0 [.int .i64 (t.fn : Int), .int .i64 (t.pc : Int), .int .i64 (t.fu : Int), .slice sa t.sk.length sc, .slice la t.lo.length lc, .int .i64 t.kd, .bool t.wt])
        have hne : w4.heap.size ≠ wd.heap.size := by intro e; rw [e, hs] at he; simp at he
        have o1 := own_stay o1 (fun g c _ hg => setCells_other (k := g) (b := wd.heap.size) (by intro e; rw [e, hs] at hg; simp at hg) [.int .i64 (t.fn : Int), .int .i64 (t.pc : Int), .int .i64 (t.fu : Int), .slice sa t.sk.length sc, .slice la t.lo.length lc, .int .i64 t.kd, .bool t.wt] 0 w6)
        have o2 := own_stay o2 (fun g c _ hg => setCells_other (k := g) (b := wd.heap.size) (by intro e; rw [e, hs] at hg; simp at hg) [.int .i64 (t.fn : Int), .int .i64 (t.pc : Int), .int .i64 (t.fu : Int), .slice sa t.sk.length sc, .slice la t.lo.length lc, .int .i64 t.kd, .bool t.wt] 0 w6)
        have o3 := own_stay o3 (fun g c _ hg => setCells_other (k := g) (b := wd.heap.size) (by intro e; rw [e, hs] at hg; simp at hg) [.int .i64 (t.fn : Int), .int .i64 (t.pc : Int), .int .i64 (t.fu : Int), .slice sa t.sk.length sc, .slice la t.lo.length lc, .int .i64 t.kd, .bool t.wt] 0 w6)
        have he := (setCells_other (k := w4.heap.size) (b := wd.heap.size) hne [.int .i64 (t.fn : Int), .int .i64 (t.pc : Int), .int .i64 (t.fu : Int), .slice sa t.sk.length sc, .slice la t.lo.length lc, .int .i64 t.kd, .bool t.wt] 0 w6).trans he
        have hs := setCells_row (vs := [.int .i64 (t.fn : Int), .int .i64 (t.pc : Int), .int .i64 (t.fu : Int), .slice sa t.sk.length sc, .slice la t.lo.length lc, .int .i64 t.kd, .bool t.wt]) hs rfl
        have hN := setCells_below hsB [.int .i64 (t.fn : Int), .int .i64 (t.pc : Int), .int .i64 (t.fu : Int), .slice sa t.sk.length sc, .slice la t.lo.length lc, .int .i64 t.kd, .bool t.wt] 0 hN
        generalize w6.setCells (wd.heap.size) 0 [.int .i64 (t.fn : Int), .int .i64 (t.pc : Int), .int .i64 (t.fu : Int), .slice sa t.sk.length sc, .slice la t.lo.length lc, .int .i64 t.kd, .bool t.wt] = w7 at *
        clear hne hHeld
        refine hK.out _ _ (⟨keep_cell v0 hN, keep_cell v1 hN, keep_cell v2 hN, keep_cell v3 hN, keep_cell v4 hN, keep_cell x0 hN, keep_cell x8 hN, keep_cell x9 hN, keep_cell x10 hN, keep_cell x11 hN, keep_cell x12 hN, keep_cell x13 hN, keep_cell x14 hN⟩) (fun hHeld => ?_)
        clear hK K
        try simp only [Act.put, List.setIfInBounds_toArray, List.set_cons_zero, List.set_cons_succ]
        refine wpAnyH_ready (rs := [26]) (by kernel_rfl) (by simp) ?_
        refine AllReadyH.cons rfl (fun K hK => ?_) AllReadyH.nil
        have z0 : w7.cell? ⟨w4.heap.size, 0, none⟩ = some (.int .i64 0) := by simp only [World.cell?, he]; rfl
        have y0 : w7.frozen? ⟨w4.heap.size, 0, none⟩ = false := by simp [World.frozen?, he]
        have z1 : w7.cell? ⟨w4.heap.size, 1, none⟩ = some (.int .i64 0) := by simp only [World.cell?, he]; rfl
        have y1 : w7.frozen? ⟨w4.heap.size, 1, none⟩ = false := by simp [World.frozen?, he]
        have z2 : w7.cell? ⟨w4.heap.size, 2, none⟩ = some (.int .i64 0) := by simp only [World.cell?, he]; rfl
        have y2 : w7.frozen? ⟨w4.heap.size, 2, none⟩ = false := by simp [World.frozen?, he]
        have z3 : w7.cell? ⟨w4.heap.size, 3, none⟩ = some (.int .i64 0) := by simp only [World.cell?, he]; rfl
        have y3 : w7.frozen? ⟨w4.heap.size, 3, none⟩ = false := by simp [World.frozen?, he]
        have z4 : w7.cell? ⟨w4.heap.size, 4, none⟩ = some (.slice none 0 0) := by simp only [World.cell?, he]; rfl
        have y4 : w7.frozen? ⟨w4.heap.size, 4, none⟩ = false := by simp [World.frozen?, he]
        have z5 : w7.cell? ⟨w4.heap.size, 5, none⟩ = some (.int .i64 0) := by simp only [World.cell?, he]; rfl
        have y5 : w7.frozen? ⟨w4.heap.size, 5, none⟩ = false := by simp [World.frozen?, he]
        have z6 : w7.cell? ⟨w4.heap.size, 6, none⟩ = some (.int .i64 0) := by simp only [World.cell?, he]; rfl
        have y6 : w7.frozen? ⟨w4.heap.size, 6, none⟩ = false := by simp [World.frozen?, he]
        go_simp
        go_wp2_with fail
        clear z0 y0 z1 y1 z2 y2 z3 y3 z4 y4 z5 y5 z6 y6
        show K _ (w7.setCells (w4.heap.size) 0 [.int .i64 t.ek, .int .i64 t.ef, .int .i64 t.ei, .int .i64 (t.es : Int), .slice aa t.ar.length ac, .int .i64 t.er, .int .i64 t.ev])
        have hne : wd.heap.size ≠ w4.heap.size := by intro e; rw [e, he] at hs; simp at hs
        have o1 := own_stay o1 (fun g c _ hg => setCells_other (k := g) (b := w4.heap.size) (by intro e; rw [e, he] at hg; simp at hg) [.int .i64 t.ek, .int .i64 t.ef, .int .i64 t.ei, .int .i64 (t.es : Int), .slice aa t.ar.length ac, .int .i64 t.er, .int .i64 t.ev] 0 w7)
        have o2 := own_stay o2 (fun g c _ hg => setCells_other (k := g) (b := w4.heap.size) (by intro e; rw [e, he] at hg; simp at hg) [.int .i64 t.ek, .int .i64 t.ef, .int .i64 t.ei, .int .i64 (t.es : Int), .slice aa t.ar.length ac, .int .i64 t.er, .int .i64 t.ev] 0 w7)
        have o3 := own_stay o3 (fun g c _ hg => setCells_other (k := g) (b := w4.heap.size) (by intro e; rw [e, he] at hg; simp at hg) [.int .i64 t.ek, .int .i64 t.ef, .int .i64 t.ei, .int .i64 (t.es : Int), .slice aa t.ar.length ac, .int .i64 t.er, .int .i64 t.ev] 0 w7)
        have hs := (setCells_other (k := wd.heap.size) (b := w4.heap.size) hne [.int .i64 t.ek, .int .i64 t.ef, .int .i64 t.ei, .int .i64 (t.es : Int), .slice aa t.ar.length ac, .int .i64 t.er, .int .i64 t.ev] 0 w7).trans hs
        have he := setCells_row (vs := [.int .i64 t.ek, .int .i64 t.ef, .int .i64 t.ei, .int .i64 (t.es : Int), .slice aa t.ar.length ac, .int .i64 t.er, .int .i64 t.ev]) he rfl
        have hN := setCells_below heB [.int .i64 t.ek, .int .i64 t.ef, .int .i64 t.ei, .int .i64 (t.es : Int), .slice aa t.ar.length ac, .int .i64 t.er, .int .i64 t.ev] 0 hN
        generalize w7.setCells (w4.heap.size) 0 [.int .i64 t.ek, .int .i64 t.ef, .int .i64 t.ei, .int .i64 (t.es : Int), .slice aa t.ar.length ac, .int .i64 t.er, .int .i64 t.ev] = w8 at *
        clear hne hHeld
        refine hK.out _ _ (⟨keep_cell v0 hN, keep_cell v1 hN, keep_cell v2 hN, keep_cell v3 hN, keep_cell v4 hN, keep_cell x0 hN, keep_cell x8 hN, keep_cell x9 hN, keep_cell x10 hN, keep_cell x11 hN, keep_cell x12 hN, keep_cell x13 hN, keep_cell x14 hN⟩) (fun hHeld => ?_)
        clear hK K
        try simp only [Act.put, List.setIfInBounds_toArray, List.set_cons_zero, List.set_cons_succ]
        refine wpAnyH_done (by kernel_rfl) ?_ _
        refine NoPanic.normal ?_
        go_wp2_with fail
        go_meet
        case rel => exact ⟨wd.heap.size, w4.heap.size, sa, la, aa, sc, lc, ac, rfl, rfl, ⟨hs, he, hsB, heB, o1, o2, o3⟩, hN⟩
      · skip
        go_simp
        go_wp2_with fail
        have hA := alloc_below w5 (.cells #[.int .i64 0, .int .i64 0, .int .i64 0, .int .i64 0, .slice none 0 0, .int .i64 0, .int .i64 0] 100)
        have he := heap_alloc_new w5 (.cells #[.int .i64 0, .int .i64 0, .int .i64 0, .int .i64 0, .slice none 0 0, .int .i64 0, .int .i64 0] 100)
        have heB := hN.size
        have hs := heap_row hs hA
        have hN := chain hN hA
        generalize w5.alloc (.cells #[.int .i64 0, .int .i64 0, .int .i64 0, .int .i64 0, .slice none 0 0, .int .i64 0, .int .i64 0] 100) = w6 at *
        clear hHeld hA
        refine hK.out _ _ (⟨keep_cell v0 hN, keep_cell v1 hN, keep_cell v2 hN, keep_cell v3 hN, keep_cell v4 hN, keep_cell x0 hN, keep_cell x8 hN, keep_cell x9 hN, keep_cell x10 hN, keep_cell x11 hN, keep_cell x12 hN, keep_cell x13 hN, keep_cell x14 hN⟩) (fun hHeld => ?_)
        clear hK K
        try simp only [Act.put, List.setIfInBounds_toArray, List.set_cons_zero, List.set_cons_succ]
        refine wpAnyH_ready (rs := [19]) (by kernel_rfl) (by simp) ?_
        refine AllReadyH.cons rfl (fun K hK => ?_) AllReadyH.nil
        go_simp
        refine (C38 _ hN).mono ?_
        rintro e w4 ⟨sa, sc, la, lc, aa, ac, rfl, o1, o2, o3, hb4⟩
        have o1 := own_monoI o1 hN.size
        have o2 := own_monoI o2 hN.size
        have o3 := own_monoI o3 hN.size
        have hs := heap_row hs hb4
        have he := heap_row he hb4
        have hN := chain hN hb4
        go_wp2_with fail
        clear hHeld hb4
        refine hK.out _ _ (⟨keep_cell v0 hN, keep_cell v1 hN, keep_cell v2 hN, keep_cell v3 hN, keep_cell v4 hN, keep_cell x0 hN, keep_cell x8 hN, keep_cell x9 hN, keep_cell x10 hN, keep_cell x11 hN, keep_cell x12 hN, keep_cell x13 hN, keep_cell x14 hN⟩) (fun hHeld => ?_)
        clear hK K
        try simp only [Act.put, List.setIfInBounds_toArray, List.set_cons_zero, List.set_cons_succ]
        refine takeD (i := 20) (d := some 8) (v := ?_) rfl rfl (by kernel_rfl) (by kernel_rfl) (by kernel_rfl) (fun _ _ _ h => h) (Or.inl ⟨by rfl, ?_⟩) (by assumption) ?_
        rotate_left
        · intro w hSw
          go_simp
          try (with_reducible rfl)
        try simp only [Act.put, List.setIfInBounds_toArray, List.set_cons_zero, List.set_cons_succ]
        refine takeD (i := 21) (d := some 29) (v := ?_) rfl rfl (by kernel_rfl) (by kernel_rfl) (by kernel_rfl) (fun _ _ _ h => h) (Or.inl ⟨by rfl, ?_⟩) (by assumption) ?_
        rotate_left
        · intro w hSw
          go_simp
          try (with_reducible rfl)
        try simp only [Act.put, List.setIfInBounds_toArray, List.set_cons_zero, List.set_cons_succ]
        refine takeD (i := 22) (d := some 30) (v := ?_) rfl rfl (by kernel_rfl) (by kernel_rfl) (by kernel_rfl) (fun _ _ _ h => h) (Or.inl ⟨by rfl, ?_⟩) (by assumption) ?_
        rotate_left
        · intro w hSw
          go_simp
          try (with_reducible rfl)
        try simp only [Act.put, List.setIfInBounds_toArray, List.set_cons_zero, List.set_cons_succ]
        refine wpAnyH_ready (rs := [25]) (by kernel_rfl) (by simp) ?_
        refine AllReadyH.cons rfl (fun K hK => ?_) AllReadyH.nil
        have z0 : w4.cell? ⟨wd.heap.size, 0, none⟩ = some (.int .i64 0) := by simp only [World.cell?, hs]; rfl
        have y0 : w4.frozen? ⟨wd.heap.size, 0, none⟩ = false := by simp [World.frozen?, hs]
        have z1 : w4.cell? ⟨wd.heap.size, 1, none⟩ = some (.int .i64 0) := by simp only [World.cell?, hs]; rfl
        have y1 : w4.frozen? ⟨wd.heap.size, 1, none⟩ = false := by simp [World.frozen?, hs]
        have z2 : w4.cell? ⟨wd.heap.size, 2, none⟩ = some (.int .i64 0) := by simp only [World.cell?, hs]; rfl
        have y2 : w4.frozen? ⟨wd.heap.size, 2, none⟩ = false := by simp [World.frozen?, hs]
        have z3 : w4.cell? ⟨wd.heap.size, 3, none⟩ = some (.slice none 0 0) := by simp only [World.cell?, hs]; rfl
        have y3 : w4.frozen? ⟨wd.heap.size, 3, none⟩ = false := by simp [World.frozen?, hs]
        have z4 : w4.cell? ⟨wd.heap.size, 4, none⟩ = some (.slice none 0 0) := by simp only [World.cell?, hs]; rfl
        have y4 : w4.frozen? ⟨wd.heap.size, 4, none⟩ = false := by simp [World.frozen?, hs]
        have z5 : w4.cell? ⟨wd.heap.size, 5, none⟩ = some (.int .i64 0) := by simp only [World.cell?, hs]; rfl
        have y5 : w4.frozen? ⟨wd.heap.size, 5, none⟩ = false := by simp [World.frozen?, hs]
        have z6 : w4.cell? ⟨wd.heap.size, 6, none⟩ = some (.bool false) := by simp only [World.cell?, hs]; rfl
        have y6 : w4.frozen? ⟨wd.heap.size, 6, none⟩ = false := by simp [World.frozen?, hs]
        go_simp
        go_wp2_with fail
        clear z0 y0 z1 y1 z2 y2 z3 y3 z4 y4 z5 y5 z6 y6
        show K _ (w4.setCells (wd.heap.size) 0 [.int .i64 (t.fn : Int), .int .i64 (t.pc : Int), .int .i64 (t.fu : Int), .slice sa t.sk.length sc, .slice la t.lo.length lc, .int .i64 t.kd, .bool t.wt])
        have hne : w5.heap.size ≠ wd.heap.size := by intro e; rw [e, hs] at he; simp at he
        have o1 := own_stay o1 (fun g c _ hg => setCells_other (k := g) (b := wd.heap.size) (by intro e; rw [e, hs] at hg; simp at hg) [.int .i64 (t.fn : Int), .int .i64 (t.pc : Int), .int .i64 (t.fu : Int), .slice sa t.sk.length sc, .slice la t.lo.length lc, .int .i64 t.kd, .bool t.wt] 0 w4)
        have o2 := own_stay o2 (fun g c _ hg => setCells_other (k := g) (b := wd.heap.size) (by intro e; rw [e, hs] at hg; simp at hg) [.int .i64 (t.fn : Int), .int .i64 (t.pc : Int), .int .i64 (t.fu : Int), .slice sa t.sk.length sc, .slice la t.lo.length lc, .int .i64 t.kd, .bool t.wt] 0 w4)
        have o3 := own_stay o3 (fun g c _ hg => setCells_other (k := g) (b := wd.heap.size) (by intro e; rw [e, hs] at hg; simp at hg) [.int .i64 (t.fn : Int), .int .i64 (t.pc : Int), .int .i64 (t.fu : Int), .slice sa t.sk.length sc, .slice la t.lo.length lc, .int .i64 t.kd, .bool t.wt] 0 w4)
        have he := (setCells_other (k := w5.heap.size) (b := wd.heap.size) hne [.int .i64 (t.fn : Int), .int .i64 (t.pc : Int), .int .i64 (t.fu : Int), .slice sa t.sk.length sc, .slice la t.lo.length lc, .int .i64 t.kd, .bool t.wt] 0 w4).trans he
        have hs := setCells_row (vs := [.int .i64 (t.fn : Int), .int .i64 (t.pc : Int), .int .i64 (t.fu : Int), .slice sa t.sk.length sc, .slice la t.lo.length lc, .int .i64 t.kd, .bool t.wt]) hs rfl
        have hN := setCells_below hsB [.int .i64 (t.fn : Int), .int .i64 (t.pc : Int), .int .i64 (t.fu : Int), .slice sa t.sk.length sc, .slice la t.lo.length lc, .int .i64 t.kd, .bool t.wt] 0 hN
        generalize w4.setCells (wd.heap.size) 0 [.int .i64 (t.fn : Int), .int .i64 (t.pc : Int), .int .i64 (t.fu : Int), .slice sa t.sk.length sc, .slice la t.lo.length lc, .int .i64 t.kd, .bool t.wt] = w7 at *
        clear hne hHeld
        refine hK.out _ _ (⟨keep_cell v0 hN, keep_cell v1 hN, keep_cell v2 hN, keep_cell v3 hN, keep_cell v4 hN, keep_cell x0 hN, keep_cell x8 hN, keep_cell x9 hN, keep_cell x10 hN, keep_cell x11 hN, keep_cell x12 hN, keep_cell x13 hN, keep_cell x14 hN⟩) (fun hHeld => ?_)
        clear hK K
        try simp only [Act.put, List.setIfInBounds_toArray, List.set_cons_zero, List.set_cons_succ]
        refine wpAnyH_ready (rs := [26]) (by kernel_rfl) (by simp) ?_
        refine AllReadyH.cons rfl (fun K hK => ?_) AllReadyH.nil
        have z0 : w7.cell? ⟨w5.heap.size, 0, none⟩ = some (.int .i64 0) := by simp only [World.cell?, he]; rfl
        have y0 : w7.frozen? ⟨w5.heap.size, 0, none⟩ = false := by simp [World.frozen?, he]
        have z1 : w7.cell? ⟨w5.heap.size, 1, none⟩ = some (.int .i64 0) := by simp only [World.cell?, he]; rfl
        have y1 : w7.frozen? ⟨w5.heap.size, 1, none⟩ = false := by simp [World.frozen?, he]
        have z2 : w7.cell? ⟨w5.heap.size, 2, none⟩ = some (.int .i64 0) := by simp only [World.cell?, he]; rfl
        have y2 : w7.frozen? ⟨w5.heap.size, 2, none⟩ = false := by simp [World.frozen?, he]
        have z3 : w7.cell? ⟨w5.heap.size, 3, none⟩ = some (.int .i64 0) := by simp only [World.cell?, he]; rfl
        have y3 : w7.frozen? ⟨w5.heap.size, 3, none⟩ = false := by simp [World.frozen?, he]
        have z4 : w7.cell? ⟨w5.heap.size, 4, none⟩ = some (.slice none 0 0) := by simp only [World.cell?, he]; rfl
        have y4 : w7.frozen? ⟨w5.heap.size, 4, none⟩ = false := by simp [World.frozen?, he]
        have z5 : w7.cell? ⟨w5.heap.size, 5, none⟩ = some (.int .i64 0) := by simp only [World.cell?, he]; rfl
        have y5 : w7.frozen? ⟨w5.heap.size, 5, none⟩ = false := by simp [World.frozen?, he]
        have z6 : w7.cell? ⟨w5.heap.size, 6, none⟩ = some (.int .i64 0) := by simp only [World.cell?, he]; rfl
        have y6 : w7.frozen? ⟨w5.heap.size, 6, none⟩ = false := by simp [World.frozen?, he]
        go_simp
        go_wp2_with fail
        clear z0 y0 z1 y1 z2 y2 z3 y3 z4 y4 z5 y5 z6 y6
        show K _ (w7.setCells (w5.heap.size) 0 [.int .i64 t.ek, .int .i64 t.ef, .int .i64 t.ei, .int .i64 (t.es : Int), .slice aa t.ar.length ac, .int .i64 t.er, .int .i64 t.ev])
        have hne : wd.heap.size ≠ w5.heap.size := by intro e; rw [e, he] at hs; simp at hs
        have o1 := own_stay o1 (fun g c _ hg => setCells_other (k := g) (b := w5.heap.size) (by intro e; rw [e, he] at hg; simp at hg) [.int .i64 t.ek, .int .i64 t.ef, .int .i64 t.ei, .int .i64 (t.es : Int), .slice aa t.ar.length ac, .int .i64 t.er, .int .i64 t.ev] 0 w7)
        have o2 := own_stay o2 (fun g c _ hg => setCells_other (k := g) (b := w5.heap.size) (by intro e; rw [e, he] at hg; simp at hg) [.int .i64 t.ek, .int .i64 t.ef, .int .i64 t.ei, .int .i64 (t.es : Int), .slice aa t.ar.length ac, .int .i64 t.er, .int .i64 t.ev] 0 w7)
        have o3 := own_stay o3 (fun g c _ hg => setCells_other (k := g) (b := w5.heap.size) (by intro e; rw [e, he] at hg; simp at hg) [.int .i64 t.ek, .int .i64 t.ef, .int .i64 t.ei, .int .i64 (t.es : Int), .slice aa t.ar.length ac, .int .i64 t.er, .int .i64 t.ev] 0 w7)
        have hs := (setCells_other (k := wd.heap.size) (b := w5.heap.size) hne [.int .i64 t.ek, .int .i64 t.ef, .int .i64 t.ei, .int .i64 (t.es : Int), .slice aa t.ar.length ac, .int .i64 t.er, .int .i64 t.ev] 0 w7).trans hs
        have he := setCells_row (vs := [.int .i64 t.ek, .int .i64 t.ef, .int .i64 t.ei, .int .i64 (t.es : Int), .slice aa t.ar.length ac, .int .i64 t.er, .int .i64 t.ev]) he rfl
        have hN := setCells_below heB [.int .i64 t.ek, .int .i64 t.ef, .int .i64 t.ei, .int .i64 (t.es : Int), .slice aa t.ar.length ac, .int .i64 t.er, .int .i64 t.ev] 0 hN
        generalize w7.setCells (w5.heap.size) 0 [.int .i64 t.ek, .int .i64 t.ef, .int .i64 t.ei, .int .i64 (t.es : Int), .slice aa t.ar.length ac, .int .i64 t.er, .int .i64 t.ev] = w8 at *
        clear hne hHeld
        refine hK.out _ _ (⟨keep_cell v0 hN, keep_cell v1 hN, keep_cell v2 hN, keep_cell v3 hN, keep_cell v4 hN, keep_cell x0 hN, keep_cell x8 hN, keep_cell x9 hN, keep_cell x10 hN, keep_cell x11 hN, keep_cell x12 hN, keep_cell x13 hN, keep_cell x14 hN⟩) (fun hHeld => ?_)
        clear hK K
        try simp only [Act.put, List.setIfInBounds_toArray, List.set_cons_zero, List.set_cons_succ]
        refine wpAnyH_done (by kernel_rfl) ?_ _
        refine NoPanic.normal ?_
        go_wp2_with fail
        go_meet
        case rel => exact ⟨wd.heap.size, w5.heap.size, sa, la, aa, sc, lc, ac, rfl, rfl, ⟨hs, he, hsB, heB, o1, o2, o3⟩, hN⟩
    · skip
      go_simp
      go_wp2_with fail
      have hA := alloc_below wd (.cells #[.int .i64 0, .int .i64 0, .int .i64 0, .int .i64 0, .slice none 0 0, .int .i64 0, .int .i64 0] 100)
      have he := heap_alloc_new wd (.cells #[.int .i64 0, .int .i64 0, .int .i64 0, .int .i64 0, .slice none 0 0, .int .i64 0, .int .i64 0] 100)
      have heB := hN.size
      have hN := chain hN hA
      generalize wd.alloc (.cells #[.int .i64 0, .int .i64 0, .int .i64 0, .int .i64 0, .slice none 0 0, .int .i64 0, .int .i64 0] 100) = w6 at *
      clear hHeld hA
      refine hK.out _ _ (⟨keep_cell v0 hN, keep_cell v1 hN, keep_cell v2 hN, keep_cell v3 hN, keep_cell v4 hN, keep_cell x0 hN, keep_cell x8 hN, keep_cell x9 hN, keep_cell x10 hN, keep_cell x11 hN, keep_cell x12 hN, keep_cell x13 hN, keep_cell x14 hN⟩) (fun hHeld => ?_)
      clear hK K
      try simp only [Act.put, List.setIfInBounds_toArray, List.set_cons_zero, List.set_cons_succ]
      refine wpAnyH_ready (rs := [19, 23]) (by kernel_rfl) (by simp) ?_
      refine AllReadyH.cons rfl (fun K hK => ?_) (AllReadyH.cons rfl (fun K hK => ?_) AllReadyH.nil)
      · skip
        go_simp
        refine (C38 _ hN).mono ?_
        rintro e w4 ⟨sa, sc, la, lc, aa, ac, rfl, o1, o2, o3, hb4⟩
        have o1 := own_monoI o1 hN.size
        have o2 := own_monoI o2 hN.size
        have o3 := own_monoI o3 hN.size
        have he := heap_row he hb4
        have hN := chain hN hb4
        go_wp2_with fail
        clear hHeld hb4
        refine hK.out _ _ (⟨keep_cell v0 hN, keep_cell v1 hN, keep_cell v2 hN, keep_cell v3 hN, keep_cell v4 hN, keep_cell x0 hN, keep_cell x8 hN, keep_cell x9 hN, keep_cell x10 hN, keep_cell x11 hN, keep_cell x12 hN, keep_cell x13 hN, keep_cell x14 hN⟩) (fun hHeld => ?_)
        clear hK K
        try simp only [Act.put, List.setIfInBounds_toArray, List.set_cons_zero, List.set_cons_succ]
        refine takeD (i := 20) (d := some 8) (v := ?_) rfl rfl (by kernel_rfl) (by kernel_rfl) (by kernel_rfl) (fun _ _ _ h => h) (Or.inl ⟨by rfl, ?_⟩) (by assumption) ?_
        rotate_left
        · intro w hSw
          go_simp
          try (with_reducible rfl)
        try simp only [Act.put, List.setIfInBounds_toArray, List.set_cons_zero, List.set_cons_succ]
        refine takeD (i := 21) (d := some 29) (v := ?_) rfl rfl (by kernel_rfl) (by kernel_rfl) (by kernel_rfl) (fun _ _ _ h => h) (Or.inl ⟨by rfl, ?_⟩) (by assumption) ?_
        rotate_left
        · intro w hSw
          go_simp
          try (with_reducible rfl)
        try simp only [Act.put, List.setIfInBounds_toArray, List.set_cons_zero, List.set_cons_succ]
        refine takeD (i := 22) (d := some 30) (v := ?_) rfl rfl (by kernel_rfl) (by kernel_rfl) (by kernel_rfl) (fun _ _ _ h => h) (Or.inl ⟨by rfl, ?_⟩) (by assumption) ?_
        rotate_left
        · intro w hSw
          go_simp
          try (with_reducible rfl)
        try simp only [Act.put, List.setIfInBounds_toArray, List.set_cons_zero, List.set_cons_succ]
        refine wpAnyH_ready (rs := [23]) (by kernel_rfl) (by simp) ?_
        refine AllReadyH.cons rfl (fun K hK => ?_) AllReadyH.nil
        go_simp
        go_wp2_with fail
        have hA := alloc_below w4 (.cells #[.int .i64 0, .int .i64 0, .int .i64 0, .slice none 0 0, .slice none 0 0, .int .i64 0, .bool false] 70)
        have hs := heap_alloc_new w4 (.cells #[.int .i64 0, .int .i64 0, .int .i64 0, .slice none 0 0, .slice none 0 0, .int .i64 0, .bool false] 70)
        have hsB := hN.size
        have he := heap_row he hA
        have o1 := own_belowI o1 hA
        have o2 := own_belowI o2 hA
        have o3 := own_belowI o3 hA
        have hN := chain hN hA
        generalize w4.alloc (.cells #[.int .i64 0, .int .i64 0, .int .i64 0, .slice none 0 0, .slice none 0 0, .int .i64 0, .bool false] 70) = w5 at *
        clear hHeld hA
        refine hK.out _ _ (⟨keep_cell v0 hN, keep_cell v1 hN, keep_cell v2 hN, keep_cell v3 hN, keep_cell v4 hN, keep_cell x0 hN, keep_cell x8 hN, keep_cell x9 hN, keep_cell x10 hN, keep_cell x11 hN, keep_cell x12 hN, keep_cell x13 hN, keep_cell x14 hN⟩) (fun hHeld => ?_)
        clear hK K
        try simp only [Act.put, List.setIfInBounds_toArray, List.set_cons_zero, List.set_cons_succ]
        refine wpAnyH_ready (rs := [25]) (by kernel_rfl) (by simp) ?_
        refine AllReadyH.cons rfl (fun K hK => ?_) AllReadyH.nil
        have z0 : w5.cell? ⟨w4.heap.size, 0, none⟩ = some (.int .i64 0) := by simp only [World.cell?, hs]; rfl
        have y0 : w5.frozen? ⟨w4.heap.size, 0, none⟩ = false := by simp [World.frozen?, hs]
        have z1 : w5.cell? ⟨w4.heap.size, 1, none⟩ = some (.int .i64 0) := by simp only [World.cell?, hs]; rfl
        have y1 : w5.frozen? ⟨w4.heap.size, 1, none⟩ = false := by simp [World.frozen?, hs]
        have z2 : w5.cell? ⟨w4.heap.size, 2, none⟩ = some (.int .i64 0) := by simp only [World.cell?, hs]; rfl
        have y2 : w5.frozen? ⟨w4.heap.size, 2, none⟩ = false := by simp [World.frozen?, hs]
        have z3 : w5.cell? ⟨w4.heap.size, 3, none⟩ = some (.slice none 0 0) := by simp only [World.cell?, hs]; rfl
        have y3 : w5.frozen? ⟨w4.heap.size, 3, none⟩ = false := by simp [World.frozen?, hs]
        have z4 : w5.cell? ⟨w4.heap.size, 4, none⟩ = some (.slice none 0 0) := by simp only [World.cell?, hs]; rfl
        have y4 : w5.frozen? ⟨w4.heap.size, 4, none⟩ = false := by simp [World.frozen?, hs]
        have z5 : w5.cell? ⟨w4.heap.size, 5, none⟩ = some (.int .i64 0) := by simp only [World.cell?, hs]; rfl
        have y5 : w5.frozen? ⟨w4.heap.size, 5, none⟩ = false := by simp [World.frozen?, hs]
        have z6 : w5.cell? ⟨w4.heap.size, 6, none⟩ = some (.bool false) := by simp only [World.cell?, hs]; rfl
        have y6 : w5.frozen? ⟨w4.heap.size, 6, none⟩ = false := by simp [World.frozen?, hs]
        go_simp
        go_wp2_with fail
        clear z0 y0 z1 y1 z2 y2 z3 y3 z4 y4 z5 y5 z6 y6
        show K _ (w5.setCells (w4.heap.size) 0 [.int .i64 (t.fn : Int), .int .i64 (t.pc : Int), .int .i64 (t.fu : Int), .slice sa t.sk.length sc, .slice la t.lo.length lc, .int .i64 t.kd, .bool t.wt])
        have hne : wd.heap.size ≠ w4.heap.size := by intro e; rw [e, hs] at he; simp at he
        have o1 := own_stay o1 (fun g c _ hg => setCells_other (k := g) (b := w4.heap.size) (by intro e; rw [e, hs] at hg; simp at hg) [.int .i64 (t.fn : Int), .int .i64 (t.pc : Int), .int .i64 (t.fu : Int), .slice sa t.sk.length sc, .slice la t.lo.length lc, .int .i64 t.kd, .bool t.wt] 0 w5)
        have o2 := own_stay o2 (fun g c _ hg => setCells_other (k := g) (b := w4.heap.size) (by intro e; rw [e, hs] at hg; simp at hg) [.int .i64 (t.fn : Int), .int .i64 (t.pc : Int), .int .i64 (t.fu : Int), .slice sa t.sk.length sc, .slice la t.lo.length lc, .int .i64 t.kd, .bool t.wt] 0 w5)
        have o3 := own_stay o3 (fun g c _ hg => setCells_other (k := g) (b := w4.heap.size) (by intro e; rw [e, hs] at hg; simp at hg) [.int .i64 (t.fn : Int), .int .i64 (t.pc : Int), .int .i64 (t.fu : Int), .slice sa t.sk.length sc, .slice la t.lo.length lc, .int .i64 t.kd, .bool t.wt] 0 w5)
        have he := (setCells_other (k := wd.heap.size) (b := w4.heap.size) hne [.int .i64 (t.fn : Int), .int .i64 (t.pc : Int), .int .i64 (t.fu : Int), .slice sa t.sk.length sc, .slice la t.lo.length lc, .int .i64 t.kd, .bool t.wt] 0 w5).trans he
        have hs := setCells_row (vs := [.int .i64 (t.fn : Int), .int .i64 (t.pc : Int), .int .i64 (t.fu : Int), .slice sa t.sk.length sc, .slice la t.lo.length lc, .int .i64 t.kd, .bool t.wt]) hs rfl
        have hN := setCells_below hsB [.int .i64 (t.fn : Int), .int .i64 (t.pc : Int), .int .i64 (t.fu : Int), .slice sa t.sk.length sc, .slice la t.lo.length lc, .int .i64 t.kd, .bool t.wt] 0 hN
        generalize w5.setCells (w4.heap.size) 0 [.int .i64 (t.fn : Int), .int .i64 (t.pc : Int), .int .i64 (t.fu : Int), .slice sa t.sk.length sc, .slice la t.lo.length lc, .int .i64 t.kd, .bool t.wt] = w7 at *
        clear hne hHeld
        refine hK.out _ _ (⟨keep_cell v0 hN, keep_cell v1 hN, keep_cell v2 hN, keep_cell v3 hN, keep_cell v4 hN, keep_cell x0 hN, keep_cell x8 hN, keep_cell x9 hN, keep_cell x10 hN, keep_cell x11 hN, keep_cell x12 hN, keep_cell x13 hN, keep_cell x14 hN⟩) (fun hHeld => ?_)
        clear hK K
        try simp only [Act.put, List.setIfInBounds_toArray, List.set_cons_zero, List.set_cons_succ]
        refine wpAnyH_ready (rs := [26]) (by kernel_rfl) (by simp) ?_
        refine AllReadyH.cons rfl (fun K hK => ?_) AllReadyH.nil
        have z0 : w7.cell? ⟨wd.heap.size, 0, none⟩ = some (.int .i64 0) := by simp only [World.cell?, he]; rfl
        have y0 : w7.frozen? ⟨wd.heap.size, 0, none⟩ = false := by simp [World.frozen?, he]
        have z1 : w7.cell? ⟨wd.heap.size, 1, none⟩ = some (.int .i64 0) := by simp only [World.cell?, he]; rfl
        have y1 : w7.frozen? ⟨wd.heap.size, 1, none⟩ = false := by simp [World.frozen?, he]
        have z2 : w7.cell? ⟨wd.heap.size, 2, none⟩ = some (.int .i64 0) := by simp only [World.cell?, he]; rfl
        have y2 : w7.frozen? ⟨wd.heap.size, 2, none⟩ = false := by simp [World.frozen?, he]
        have z3 : w7.cell? ⟨wd.heap.size, 3, none⟩ = some (.int .i64 0) := by simp only [World.cell?, he]; rfl
        have y3 : w7.frozen? ⟨wd.heap.size, 3, none⟩ = false := by simp [World.frozen?, he]
        have z4 : w7.cell? ⟨wd.heap.size, 4, none⟩ = some (.slice none 0 0) := by simp only [World.cell?, he]; rfl
        have y4 : w7.frozen? ⟨wd.heap.size, 4, none⟩ = false := by simp [World.frozen?, he]
        have z5 : w7.cell? ⟨wd.heap.size, 5, none⟩ = some (.int .i64 0) := by simp only [World.cell?, he]; rfl
        have y5 : w7.frozen? ⟨wd.heap.size, 5, none⟩ = false := by simp [World.frozen?, he]
        have z6 : w7.cell? ⟨wd.heap.size, 6, none⟩ = some (.int .i64 0) := by simp only [World.cell?, he]; rfl
        have y6 : w7.frozen? ⟨wd.heap.size, 6, none⟩ = false := by simp [World.frozen?, he]
        go_simp
        go_wp2_with fail
        clear z0 y0 z1 y1 z2 y2 z3 y3 z4 y4 z5 y5 z6 y6
        show K _ (w7.setCells (wd.heap.size) 0 [.int .i64 t.ek, .int .i64 t.ef, .int .i64 t.ei, .int .i64 (t.es : Int), .slice aa t.ar.length ac, .int .i64 t.er, .int .i64 t.ev])
        have hne : w4.heap.size ≠ wd.heap.size := by intro e; rw [e, he] at hs; simp at hs
        have o1 := own_stay o1 (fun g c _ hg => setCells_other (k := g) (b := wd.heap.size) (by intro e; rw [e, he] at hg; simp at hg) [.int .i64 t.ek, .int .i64 t.ef, .int .i64 t.ei, .int .i64 (t.es : Int), .slice aa t.ar.length ac, .int .i64 t.er, .int .i64 t.ev] 0 w7)
        have o2 := own_stay o2 (fun g c _ hg => setCells_other (k := g) (b := wd.heap.size) (by intro e; rw [e, he] at hg; simp at hg) [.int .i64 t.ek, .int .i64 t.ef, .int .i64 t.ei, .int .i64 (t.es : Int), .slice aa t.ar.length ac, .int .i64 t.er, .int .i64 t.ev] 0 w7)
        have o3 := own_stay o3 (fun g c _ hg => setCells_other (k := g) (b := wd.heap.size) (by intro e; rw [e, he] at hg; simp at hg) [.int .i64 t.ek, .int .i64 t.ef, .int .i64 t.ei, .int .i64 (t.es : Int), .slice aa t.ar.length ac, .int .i64 t.er, .int .i64 t.ev] 0 w7)
        have hs := (setCells_other (k := w4.heap.size) (b := wd.heap.size) hne [.int .i64 t.ek, .int .i64 t.ef, .int .i64 t.ei, .int .i64 (t.es : Int), .slice aa t.ar.length ac, .int .i64 t.er, .int .i64 t.ev] 0 w7).trans hs
        have he := setCells_row (vs := [.int .i64 t.ek, .int .i64 t.ef, .int .i64 t.ei, .int .i64 (t.es : Int), .slice aa t.ar.length ac, .int .i64 t.er, .int .i64 t.ev]) he rfl
        have hN := setCells_below heB [.int .i64 t.ek, .int .i64 t.ef, .int .i64 t.ei, .int .i64 (t.es : Int), .slice aa t.ar.length ac, .int .i64 t.er, .int .i64 t.ev] 0 hN
        generalize w7.setCells (wd.heap.size) 0 [.int .i64 t.ek, .int .i64 t.ef, .int .i64 t.ei, .int .i64 (t.es : Int), .slice aa t.ar.length ac, .int .i64 t.er, .int .i64 t.ev] = w8 at *
        clear hne hHeld
        refine hK.out _ _ (⟨keep_cell v0 hN, keep_cell v1 hN, keep_cell v2 hN, keep_cell v3 hN, keep_cell v4 hN, keep_cell x0 hN, keep_cell x8 hN, keep_cell x9 hN, keep_cell x10 hN, keep_cell x11 hN, keep_cell x12 hN, keep_cell x13 hN, keep_cell x14 hN⟩) (fun hHeld => ?_)
        clear hK K
        try simp only [Act.put, List.setIfInBounds_toArray, List.set_cons_zero, List.set_cons_succ]
        refine wpAnyH_done (by kernel_rfl) ?_ _
        refine NoPanic.normal ?_
        go_wp2_with fail
        go_meet
        case rel => exact ⟨w4.heap.size, wd.heap.size, sa, la, aa, sc, lc, ac, rfl, rfl, ⟨hs, he, hsB, heB, o1, o2, o3⟩, hN⟩
      · skip
        go_simp
        go_wp2_with fail
        have hA := alloc_below w6 (.cells #[.int .i64 0, .int .i64 0, .int .i64 0, .slice none 0 0, .slice none 0 0, .int .i64 0, .bool false] 70)
        have hs := heap_alloc_new w6 (.cells #[.int .i64 0, .int .i64 0, .int .i64 0, .slice none 0 0, .slice none 0 0, .int .i64 0, .bool false] 70)
        have hsB := hN.size
        have he := heap_row he hA
        have hN := chain hN hA
        generalize w6.alloc (.cells #[.int .i64 0, .int .i64 0, .int .i64 0, .slice none 0 0, .slice none 0 0, .int .i64 0, .bool false] 70) = w5 at *
        clear hHeld hA
        refine hK.out _ _ (⟨keep_cell v0 hN, keep_cell v1 hN, keep_cell v2 hN, keep_cell v3 hN, keep_cell v4 hN, keep_cell x0 hN, keep_cell x8 hN, keep_cell x9 hN, keep_cell x10 hN, keep_cell x11 hN, keep_cell x12 hN, keep_cell x13 hN, keep_cell x14 hN⟩) (fun hHeld => ?_)
        clear hK K
        try simp only [Act.put, List.setIfInBounds_toArray, List.set_cons_zero, List.set_cons_succ]
        refine wpAnyH_ready (rs := [19]) (by kernel_rfl) (by simp) ?_
        refine AllReadyH.cons rfl (fun K hK => ?_) AllReadyH.nil
        go_simp
        refine (C38 _ hN).mono ?_
        rintro e w4 ⟨sa, sc, la, lc, aa, ac, rfl, o1, o2, o3, hb4⟩
        have o1 := own_monoI o1 hN.size
        have o2 := own_monoI o2 hN.size
        have o3 := own_monoI o3 hN.size
        have hs := heap_row hs hb4
        have he := heap_row he hb4
        have hN := chain hN hb4
        go_wp2_with fail
        clear hHeld hb4
        refine hK.out _ _ (⟨keep_cell v0 hN, keep_cell v1 hN, keep_cell v2 hN, keep_cell v3 hN, keep_cell v4 hN, keep_cell x0 hN, keep_cell x8 hN, keep_cell x9 hN, keep_cell x10 hN, keep_cell x11 hN, keep_cell x12 hN, keep_cell x13 hN, keep_cell x14 hN⟩) (fun hHeld => ?_)
        clear hK K
        try simp only [Act.put, List.setIfInBounds_toArray, List.set_cons_zero, List.set_cons_succ]
        refine takeD (i := 20) (d := some 8) (v := ?_) rfl rfl (by kernel_rfl) (by kernel_rfl) (by kernel_rfl) (fun _ _ _ h => h) (Or.inl ⟨by rfl, ?_⟩) (by assumption) ?_
        rotate_left
        · intro w hSw
          go_simp
          try (with_reducible rfl)
        try simp only [Act.put, List.setIfInBounds_toArray, List.set_cons_zero, List.set_cons_succ]
        refine takeD (i := 21) (d := some 29) (v := ?_) rfl rfl (by kernel_rfl) (by kernel_rfl) (by kernel_rfl) (fun _ _ _ h => h) (Or.inl ⟨by rfl, ?_⟩) (by assumption) ?_
        rotate_left
        · intro w hSw
          go_simp
          try (with_reducible rfl)
        try simp only [Act.put, List.setIfInBounds_toArray, List.set_cons_zero, List.set_cons_succ]
        refine takeD (i := 22) (d := some 30) (v := ?_) rfl rfl (by kernel_rfl) (by kernel_rfl) (by kernel_rfl) (fun _ _ _ h => h) (Or.inl ⟨by rfl, ?_⟩) (by assumption) ?_
        rotate_left
        · intro w hSw
          go_simp
          try (with_reducible rfl)
        try simp only [Act.put, List.setIfInBounds_toArray, List.set_cons_zero, List.set_cons_succ]
        refine wpAnyH_ready (rs := [25]) (by kernel_rfl) (by simp) ?_
        refine AllReadyH.cons rfl (fun K hK => ?_) AllReadyH.nil
        have z0 : w4.cell? ⟨w6.heap.size, 0, none⟩ = some (.int .i64 0) := by simp only [World.cell?, hs]; rfl
        have y0 : w4.frozen? ⟨w6.heap.size, 0, none⟩ = false := by simp [World.frozen?, hs]
        have z1 : w4.cell? ⟨w6.heap.size, 1, none⟩ = some (.int .i64 0) := by simp only [World.cell?, hs]; rfl
        have y1 : w4.frozen? ⟨w6.heap.size, 1, none⟩ = false := by simp [World.frozen?, hs]
        have z2 : w4.cell? ⟨w6.heap.size, 2, none⟩ = some (.int .i64 0) := by simp only [World.cell?, hs]; rfl
        have y2 : w4.frozen? ⟨w6.heap.size, 2, none⟩ = false := by simp [World.frozen?, hs]
        have z3 : w4.cell? ⟨w6.heap.size, 3, none⟩ = some (.slice none 0 0) := by simp only [World.cell?, hs]; rfl
        have y3 : w4.frozen? ⟨w6.heap.size, 3, none⟩ = false := by simp [World.frozen?, hs]
        have z4 : w4.cell? ⟨w6.heap.size, 4, none⟩ = some (.slice none 0 0) := by simp only [World.cell?, hs]; rfl
        have y4 : w4.frozen? ⟨w6.heap.size, 4, none⟩ = false := by simp [World.frozen?, hs]
        have z5 : w4.cell? ⟨w6.heap.size, 5, none⟩ = some (.int .i64 0) := by simp only [World.cell?, hs]; rfl
        have y5 : w4.frozen? ⟨w6.heap.size, 5, none⟩ = false := by simp [World.frozen?, hs]
        have z6 : w4.cell? ⟨w6.heap.size, 6, none⟩ = some (.bool false) := by simp only [World.cell?, hs]; rfl
        have y6 : w4.frozen? ⟨w6.heap.size, 6, none⟩ = false := by simp [World.frozen?, hs]
        go_simp
        go_wp2_with fail
        clear z0 y0 z1 y1 z2 y2 z3 y3 z4 y4 z5 y5 z6 y6
        show K _ (w4.setCells (w6.heap.size) 0 [.int .i64 (t.fn : Int), .int .i64 (t.pc : Int), .int .i64 (t.fu : Int), .slice sa t.sk.length sc, .slice la t.lo.length lc, .int .i64 t.kd, .bool t.wt])
        have hne : wd.heap.size ≠ w6.heap.size := by intro e; rw [e, hs] at he; simp at he
        have o1 := own_stay o1 (fun g c _ hg => setCells_other (k := g) (b := w6.heap.size) (by intro e; rw [e, hs] at hg; simp at hg) [.int .i64 (t.fn : Int), .int .i64 (t.pc : Int), .int .i64 (t.fu : Int), .slice sa t.sk.length sc, .slice la t.lo.length lc, .int .i64 t.kd, .bool t.wt] 0 w4)
        have o2 := own_stay o2 (fun g c _ hg => setCells_other (k := g) (b := w6.heap.size) (by intro e; rw [e, hs] at hg; simp at hg) [.int .i64 (t.fn : Int), .int .i64 (t.pc : Int), .int .i64 (t.fu : Int), .slice sa t.sk.length sc, .slice la t.lo.length lc, .int .i64 t.kd, .bool t.wt] 0 w4)
        have o3 := own_stay o3 (fun g c _ hg => setCells_other (k := g) (b := w6.heap.size) (by intro e; rw [e, hs] at hg; simp at hg) [.int .i64 (t.fn : Int), .int .i64 (t.pc : Int), .int .i64 (t.fu : Int), .slice sa t.sk.length sc, .slice la t.lo.length lc, .int .i64 t.kd, .bool t.wt] 0 w4)
        have he := (setCells_other (k := wd.heap.size) (b := w6.heap.size) hne [.int .i64 (t.fn : Int), .int .i64 (t.pc : Int), .int .i64 (t.fu : Int), .slice sa t.sk.length sc, .slice la t.lo.length lc, .int .i64 t.kd, .bool t.wt] 0 w4).trans he
        have hs := setCells_row (vs := [.int .i64 (t.fn : Int), .int .i64 (t.pc : Int), .int .i64 (t.fu : Int), .slice sa t.sk.length sc, .slice la t.lo.length lc, .int .i64 t.kd, .bool t.wt]) hs rfl
        have hN := setCells_below hsB [.int .i64 (t.fn : Int), .int .i64 (t.pc : Int), .int .i64 (t.fu : Int), .slice sa t.sk.length sc, .slice la t.lo.length lc, .int .i64 t.kd, .bool t.wt] 0 hN
        generalize w4.setCells (w6.heap.size) 0 [.int .i64 (t.fn : Int), .int .i64 (t.pc : Int), .int .i64 (t.fu : Int), .slice sa t.sk.length sc, .slice la t.lo.length lc, .int .i64 t.kd, .bool t.wt] = w7 at *
        clear hne hHeld
        refine hK.out _ _ (⟨keep_cell v0 hN, keep_cell v1 hN, keep_cell v2 hN, keep_cell v3 hN, keep_cell v4 hN, keep_cell x0 hN, keep_cell x8 hN, keep_cell x9 hN, keep_cell x10 hN, keep_cell x11 hN, keep_cell x12 hN, keep_cell x13 hN, keep_cell x14 hN⟩) (fun hHeld => ?_)
        clear hK K
        try simp only [Act.put, List.setIfInBounds_toArray, List.set_cons_zero, List.set_cons_succ]
        refine wpAnyH_ready (rs := [26]) (by kernel_rfl) (by simp) ?_
        refine AllReadyH.cons rfl (fun K hK => ?_) AllReadyH.nil
        have z0 : w7.cell? ⟨wd.heap.size, 0, none⟩ = some (.int .i64 0) := by simp only [World.cell?, he]; rfl
        have y0 : w7.frozen? ⟨wd.heap.size, 0, none⟩ = false := by simp [World.frozen?, he]
        have z1 : w7.cell? ⟨wd.heap.size, 1, none⟩ = some (.int .i64 0) := by simp only [World.cell?, he]; rfl
        have y1 : w7.frozen? ⟨wd.heap.size, 1, none⟩ = false := by simp [World.frozen?, he]
        have z2 : w7.cell? ⟨wd.heap.size, 2, none⟩ = some (.int .i64 0) := by simp only [World.cell?, he]; rfl
        have y2 : w7.frozen? ⟨wd.heap.size, 2, none⟩ = false := by simp [World.frozen?, he]
        have z3 : w7.cell? ⟨wd.heap.size, 3, none⟩ = some (.int .i64 0) := by simp only [World.cell?, he]; rfl
        have y3 : w7.frozen? ⟨wd.heap.size, 3, none⟩ = false := by simp [World.frozen?, he]
        have z4 : w7.cell? ⟨wd.heap.size, 4, none⟩ = some (.slice none 0 0) := by simp only [World.cell?, he]; rfl
        have y4 : w7.frozen? ⟨wd.heap.size, 4, none⟩ = false := by simp [World.frozen?, he]
        have z5 : w7.cell? ⟨wd.heap.size, 5, none⟩ = some (.int .i64 0) := by simp only [World.cell?, he]; rfl
        have y5 : w7.frozen? ⟨wd.heap.size, 5, none⟩ = false := by simp [World.frozen?, he]
        have z6 : w7.cell? ⟨wd.heap.size, 6, none⟩ = some (.int .i64 0) := by simp only [World.cell?, he]; rfl
        have y6 : w7.frozen? ⟨wd.heap.size, 6, none⟩ = false := by simp [World.frozen?, he]
        go_simp
        go_wp2_with fail
        clear z0 y0 z1 y1 z2 y2 z3 y3 z4 y4 z5 y5 z6 y6
        show K _ (w7.setCells (wd.heap.size) 0 [.int .i64 t.ek, .int .i64 t.ef, .int .i64 t.ei, .int .i64 (t.es : Int), .slice aa t.ar.length ac, .int .i64 t.er, .int .i64 t.ev])
        have hne : w6.heap.size ≠ wd.heap.size := by intro e; rw [e, he] at hs; simp at hs
        have o1 := own_stay o1 (fun g c _ hg => setCells_other (k := g) (b := wd.heap.size) (by intro e; rw [e, he] at hg; simp at hg) [.int .i64 t.ek, .int .i64 t.ef, .int .i64 t.ei, .int .i64 (t.es : Int), .slice aa t.ar.length ac, .int .i64 t.er, .int .i64 t.ev] 0 w7)
        have o2 := own_stay o2 (fun g c _ hg => setCells_other (k := g) (b := wd.heap.size) (by intro e; rw [e, he] at hg; simp at hg) [.int .i64 t.ek, .int .i64 t.ef, .int .i64 t.ei, .int .i64 (t.es : Int), .slice aa t.ar.length ac, .int .i64 t.er, .int .i64 t.ev] 0 w7)
        have o3 := own_stay o3 (fun g c _ hg => setCells_other (k := g) (b := wd.heap.size) (by intro e; rw [e, he] at hg; simp at hg) [.int .i64 t.ek, .int .i64 t.ef, .int .i64 t.ei, .int .i64 (t.es : Int), .slice aa t.ar.length ac, .int .i64 t.er, .int .i64 t.ev] 0 w7)
        have hs := (setCells_other (k := w6.heap.size) (b := wd.heap.size) hne [.int .i64 t.ek, .int .i64 t.ef, .int .i64 t.ei, .int .i64 (t.es : Int), .slice aa t.ar.length ac, .int .i64 t.er, .int .i64 t.ev] 0 w7).trans hs
        have he := setCells_row (vs := [.int .i64 t.ek, .int .i64 t.ef, .int .i64 t.ei, .int .i64 (t.es : Int), .slice aa t.ar.length ac, .int .i64 t.er, .int .i64 t.ev]) he rfl
        have hN := setCells_below heB [.int .i64 t.ek, .int .i64 t.ef, .int .i64 t.ei, .int .i64 (t.es : Int), .slice aa t.ar.length ac, .int .i64 t.er, .int .i64 t.ev] 0 hN
        generalize w7.setCells (wd.heap.size) 0 [.int .i64 t.ek, .int .i64 t.ef, .int .i64 t.ei, .int .i64 (t.es : Int), .slice aa t.ar.length ac, .int .i64 t.er, .int .i64 t.ev] = w8 at *
        clear hne hHeld
        refine hK.out _ _ (⟨keep_cell v0 hN, keep_cell v1 hN, keep_cell v2 hN, keep_cell v3 hN, keep_cell v4 hN, keep_cell x0 hN, keep_cell x8 hN, keep_cell x9 hN, keep_cell x10 hN, keep_cell x11 hN, keep_cell x12 hN, keep_cell x13 hN, keep_cell x14 hN⟩) (fun hHeld => ?_)
        clear hK K
        try simp only [Act.put, List.setIfInBounds_toArray, List.set_cons_zero, List.set_cons_succ]
        refine wpAnyH_done (by kernel_rfl) ?_ _
        refine NoPanic.normal ?_
        go_wp2_with fail
        go_meet
        case rel => exact ⟨w6.heap.size, wd.heap.size, sa, la, aa, sc, lc, ac, rfl, rfl, ⟨hs, he, hsB, heB, o1, o2, o3⟩, hN⟩
end Go.Proofs.YtbpcibnomkfglaaGreatDoor
