/- step: an instruction that turns values alone. -/
import Derived.Test.YtnkfdpnommjlcaaGreatDoorPla
namespace Go.Proofs.YtnkfdpnommjlcaaGreatDoor
open Go.RowKit Go.ChangeShapes Go.WideShapes Go.ChangeAt Go.Deep

/-- The instruction where the machine stands. -/
theorem ins_cells {w : World} {ca : Option Addr} {code : List (Int × Int)} {k : Nat} {op n : Int} (h : Reads w ca (insV code)) (hk : code[k]? = some (op, n)) : ∃ cb co, ca = some ⟨cb, co, none⟩ ∧ w.cell? ⟨cb, co + k * 2, none⟩ = some (.int .i64 op) ∧ w.cell? ⟨cb, co + k * 2 + 1, none⟩ = some (.int .i64 n) := by
  have hat : ∀ (c : List (Int × Int)) (k : Nat), c[k]? = some (op, n) → (insV c)[k * 2]? = some (.int .i64 op) ∧ (insV c)[k * 2 + 1]? = some (.int .i64 n) := by
    intro c
    induction c with
    | nil => intro k h; simp at h
    | cons i r ih =>
      intro k h
      cases k with
      | zero => simp at h; subst h; exact ⟨rfl, rfl⟩
      | succ k =>
        have := ih k (by simpa using h)
        rw [show (k + 1) * 2 = k * 2 + 1 + 1 by omega]
        simpa [insV] using this
  obtain ⟨h1, h2⟩ := hat code k hk
  rcases h with h | ⟨cb, co, e, hc⟩
  · rw [h] at h1; simp at h1
  · exact ⟨cb, co, e, hc _ _ h1, by rw [Nat.add_assoc]; exact hc _ _ h2⟩

set_option linter.unusedSimpArgs false in
set_option maxRecDepth 100000 in
set_option maxHeartbeats 2000000 in
theorem step_plain {B : Bd} {w w0 : World} {m : Nat} {M : Mc} {sk sk' lo ar : List Int} {cs : List Value} {fs : List Fun} {args : List Int} {deep : Int} (h : Mach B w m M sk.reverse lo ar) (hJ : JobR w0 M.j cs fs args) (hB : B = w0.heap.size) (hb : Below B w0 w) (fn pc : Nat) (f : Fun) (op n : Int)
    (hfn : M.fn = (fn : Int)) (hpc : M.pc = (pc : Int)) (hf : fs[fn]? = some f) (hi : f.code[pc]? = some (op, n)) (hfu : M.fu < M.j.fuel) (hfl : -1000000 ≤ M.fu ∧ M.fu ≤ 1000000) (hes : -1000000 ≤ M.es ∧ M.es ≤ 1000000) (hpcl : pc ≤ 1000000) 
    (hop : ¬ (14 ≤ op ∧ op ≤ 19))
    (CP : ∀ W, Mach B W m { M with fu := M.fu + 1, es := M.es + 1 } sk.reverse lo ar → Calls Tryz.prog 89 #[.pointer (some ⟨m, 0, none⟩), .agg #[.int .i64 op, .int .i64 n]] W fun e w' => e = .returned (.tuple #[]) ∧ ∃ sv, Mach B w' m { M with fu := M.fu + 1, es := M.es + 1, sv := sv } sk'.reverse lo ar ∧ Below B W w') :
    Calls Tryz.prog 72 #[.pointer (some ⟨m, 0, none⟩), .int .i64 deep] w fun e w' => e = .returned (.tuple #[]) ∧ ∃ sv, Mach B w' m { M with fu := M.fu + 1, es := M.es + 1, sv := sv, pc := (pc : Int) + 1 } sk'.reverse lo ar ∧ Below B w w' := by
  have hlt := h.lt
  have hbm := h.bm
  have N1 := fun w => tneed_yes 21 w
  have c2 := h.cell 2 _ rfl
  have c10 := h.cell 10 _ rfl
  have hbs := hb.size
  go_enter Tryz.func72, Tryz.ntmps72
  go_wp2_with fail
  go_big_quiet (first | (go_at_call 24; with_reducible exact Calls.quiet_of_same (N1 _)))
  have hb1 : Below w.heap.size w (w.drewN nq) := below_drewN' (Below.refl _ _) nq
  have h1 := h.below hb1
  have hB1 : Below B w0 (w.drewN nq) := hb.trans (hb1.mono (by omega))
  generalize w.drewN nq = w1 at *
  clear c2 c10
  have c2 := h1.cell 2 _ rfl
  have f2 := h1.froz 2
  have h2 := h1.put (M' := { M with fu := M.fu + 1 }) 2 (.int .i64 (M.fu + 1)) rfl rfl rfl rfl
  have hB2 : Below B w0 (w1.setCell ⟨m, 2, none⟩ (.int .i64 (M.fu + 1))) := hB1.setCell (p := ⟨m, 2, none⟩) hbm _
  have hw2 : Below B w (w1.setCell ⟨m, 2, none⟩ (.int .i64 (M.fu + 1))) := (hb1.mono (by omega)).setCell (p := ⟨m, 2, none⟩) hbm _
  go_upto_region 2 with fail
  clear c2 f2
  generalize w1.setCell ⟨m, 2, none⟩ (.int .i64 (M.fu + 1)) = w2 at *
  have c15 := h2.cell 15 _ rfl
  have f15 := h2.froz 15
  have h3 := h2.put (M' := { M with fu := M.fu + 1, es := M.es + 1 }) 15 (.int .i64 (M.es + 1)) rfl rfl rfl rfl
  have hB3 : Below B w0 (w2.setCell ⟨m, 15, none⟩ (.int .i64 (M.es + 1))) := hB2.setCell (p := ⟨m, 15, none⟩) hbm _
  have hw3 : Below B w (w2.setCell ⟨m, 15, none⟩ (.int .i64 (M.es + 1))) := hw2.setCell (p := ⟨m, 15, none⟩) hbm _
  go_upto_region 3 with fail
  clear c15 f15
  generalize w2.setCell ⟨m, 15, none⟩ (.int .i64 (M.es + 1)) = w3 at *
  have hJ3 : JobR w3 M.j cs fs args := hJ.below (hB ▸ hB3)
  have hfl2 : fn < fs.length := (List.getElem?_eq_some_iff.1 hf).1
  have hpl : pc < f.code.length := (List.getElem?_eq_some_iff.1 hi).1
  obtain ⟨fb, off, ca, cc, ea, _, _, _, k3, hrc, _⟩ := hJ3.fun_at hfl2
  have efn : fs[fn] = f := (List.getElem?_eq_some_iff.1 hf).2
  rw [efn] at k3 hrc
  obtain ⟨cb, co, rfl, ki, kn⟩ := ins_cells hrc hi
  have c7 := h3.cell 7 _ rfl
  have c0 := h3.cell 0 _ rfl
  have c1 := h3.cell 1 _ rfl
  simp only [ea, hfn, hpc, hJ3.nf] at c7 c0 c1
  have hba := alloc_below w3 (.cells #[.int .i64 0, .int .i64 0] 55)
  have c7' := keep_cell c7 hba
  have c0' := keep_cell c0 hba
  have c1' := keep_cell c1 hba
  have k3' := keep_cell k3 hba
  have ki' := keep_cell ki hba
  have kn' := keep_cell kn hba
  have hfl3 : (fn : Int) < (fs.length : Int) := by omega
  have hpl3 : (pc : Int) < (f.code.length : Int) := by omega
  have H3 := hide h3
  have HW3 := hide hw3
  have HCP := hide CP
  clear h h1 h2 h3 hw2 hw3 hJ3 hrc CP hB1 hB2 hB3 hJ hb hb1 hf hi efn
  go_big_region
  have hb4 : Below w3.heap.size w3 (w3.alloc (.cells #[.int .i64 op, .int .i64 n] 55)).drew := (alloc_below w3 _).drew
  have h4 := H3.out.below hb4
  have hw4 : Below B w (w3.alloc (.cells #[.int .i64 op, .int .i64 n] 55)).drew := HW3.out.trans (hb4.mono (by have := H3.out.lt; omega))
  have C := HCP.out _ h4
  have g14 : (op == 14) = false := by rw [beq_eq_false_iff_ne]; omega
  have g15 : (op == 15) = false := by rw [beq_eq_false_iff_ne]; omega
  have g16 : (op == 16) = false := by rw [beq_eq_false_iff_ne]; omega
  have g17 : (op == 17) = false := by rw [beq_eq_false_iff_ne]; omega
  have g18 : (op == 18) = false := by rw [beq_eq_false_iff_ne]; omega
  have g19 : (op == 19) = false := by rw [beq_eq_false_iff_ne]; omega
  clear c7 c0 c1 k3 ki kn c7' c0' c1' k3' ki' kn' H3 HW3 HCP h4 hb4 hba
  go_wp2_with (go_at_call 89; go_must (with_reducible refine C.mono ?_; (rintro e w5 ⟨rfl, sv5, h5, hb5⟩); refine Hid.out ?_))
  refine Lib.hid ?_
  have c1 := h5.cell 1 _ rfl
  simp only [hpc] at c1
  have f1 := h5.froz 1
  have h6 := h5.put (M' := { M with fu := M.fu + 1, es := M.es + 1, sv := sv5, pc := (pc : Int) + 1 }) 1 (.int .i64 ((pc : Int) + 1)) rfl rfl rfl rfl
  have HB6 := hide (show Below B w (w5.setCell ⟨m, 1, none⟩ (.int .i64 ((pc : Int) + 1))) from (hw4.trans hb5).setCell (p := ⟨m, 1, none⟩) hbm _)
  have H6 := hide h6
  clear h5 h6 C
  go_wp2_with fail
  go_end0
  exact ⟨rfl, sv5, H6.out, HB6.out⟩
end Go.Proofs.YtnkfdpnommjlcaaGreatDoor
/- ended. -/

namespace Go.Proofs.YtnkfdpnommjlcaaGreatDoor
open Go.RowKit Go.ChangeShapes Go.WideShapes Go.ChangeAt Go.Deep

def Mc.stV (M : Mc) : Value := .agg #[.int .i64 M.fn, .int .i64 M.pc, .int .i64 M.fu, M.sv, M.lv, .int .i64 M.kd, .bool M.wt]
def Mc.evV (M : Mc) : Value := .agg #[.int .i64 M.ek, .int .i64 M.ef, .int .i64 M.ei, .int .i64 M.es, M.av, .int .i64 M.er, .int .i64 M.ev]

theorem store_seven {w : World} {b : Nat} {t : TypeId} {old : Array Value} {vs : List Value} (h : w.heap[b]? = some (.cells old t (0, 0))) (hl : old.size = vs.length) (h1 : ∀ v ∈ vs, v.oneCell' = true) : (storeCells ⟨b, 0, none⟩ vs).run Tryz.prog w = .ok () (w.setCells b 0 vs) := by
  have := run_storeCells_cells (P := Tryz.prog) b 0 vs 0 w (fun j hj => by
    simp only [Nat.zero_add]
    simp [World.cell?, h, show j < old.size by omega]) (fun j _ => by simp [World.frozen?, h]) h1
  exact this
theorem setCells_other {b k : Nat} (hk : k ≠ b) : ∀ (vs : List Value) (o : Nat) (w : World), (w.setCells b o vs).heap[k]? = w.heap[k]?
  | [], _, _ => rfl
  | v :: r, o, w => by
    unfold World.setCells
    rw [setCells_other hk r (o + 1) (w.setCell ⟨b, o, none⟩ v)]
    exact heap_setCell_other _ _ _ _ hk
theorem setCells_below {B b : Nat} (hb : B ≤ b) : ∀ (vs : List Value) (o : Nat) {w0 w : World}, Below B w0 w → Below B w0 (w.setCells b o vs)
  | [], _, _, _, h => h
  | v :: r, o, w0, w, h => by
    unfold World.setCells
    exact setCells_below hb r (o + 1) (h.setCell (p := ⟨b, o, none⟩) hb _)
theorem setCells_at {w : World} {b : Nat} {t : TypeId} {old : Array Value} {vs : List Value} (h : w.heap[b]? = some (.cells old t (0, 0))) (hl : old.size = vs.length) {j : Nat} {v : Value} (hj : vs[j]? = some v) : (w.setCells b 0 vs).cell? ⟨b, j, none⟩ = some v := by
  have hlt : j < vs.length := by
    rcases Nat.lt_or_ge j vs.length with q | q
    · exact q
    · rw [List.getElem?_eq_none q] at hj; cases hj
  have := World.cell?_setCells_in b vs 0 w (fun j hj => by
    rw [Nat.zero_add]
    simp [World.cell?, h, show j < old.size by omega]) j hlt
  rw [Nat.zero_add] at this
  rw [this]
  rw [List.getElem?_eq_getElem hlt] at hj
  simpa using hj
theorem Mach.far {B : Bd} {w w' : World} {m : Nat} {M : Mc} {st lo ar : List Int} (h : Mach B w m M st lo ar) (hk : ∀ (g : Nat) (c : Array Value) (t : TypeId), (t = 3 ∨ t = 104 ∨ t = 66) → w.heap[g]? = some (Obj.cells c t (0, 0)) → w'.heap[g]? = w.heap[g]?) : Mach B w' m M st lo ar := by
  have kr : ∀ {v n xs}, w.ownsRow B 3 1 v n xs → w'.ownsRow B 3 1 v n xs := fun ho => own_keepI ho (fun g hg => by
    rcases ho.2 with ⟨e, _⟩ | ⟨g', cap, cur, e, _, h2, _⟩
    · rw [e] at hg; cases hg
    · rw [e] at hg
      cases hg
      exact hk _ _ 3 (.inl rfl) h2)
  exact ⟨by rw [hk m _ 104 (.inr (.inl rfl)) h.at_]; exact h.at_, h.bm, kr h.own, kr h.loc, kr h.arg, h.sl, h.sa, h.la, fun k v hkv => (hk k _ 66 (.inr (.inr rfl)) (h.kept k v hkv)).trans (h.kept k v hkv)⟩

set_option linter.unusedSimpArgs false in
set_option maxRecDepth 100000 in
set_option maxHeartbeats 2000000 in
theorem ended_any {B : Bd} {w : World} {m : Nat} {M : Mc} {st lo ar : List Int} (h : Mach B w m M st lo ar) (er ev : Int) :
    Calls Tryz.prog 29 #[.pointer (some ⟨m, 0, none⟩), .agg #[.int .i64 er, .int .i64 ev]] w fun e w' => e = .returned (.tuple #[{ M with ek := 3, er := er, ev := ev }.stV, { M with ek := 3, er := er, ev := ev }.evV]) ∧ Mach B w' m { M with ek := 3, er := er, ev := ev } st lo ar ∧ Below B w w' := by
  obtain ⟨fn, pc, fu, sv, lv, kd, wt, j, ek, ef, ei, es, av, er0, ev0⟩ := M
  obtain ⟨sa, sc, rfl, _⟩ := slice_form h.own rfl
  obtain ⟨la, lc, rfl, _⟩ := slice_form h.loc rfl
  obtain ⟨aa, ac, rfl, _⟩ := slice_form h.arg rfl
  have hlt := h.lt
  have hbm := h.bm
  go_enter Tryz.func29, Tryz.ntmps29
  go_wp2_with fail
  have hb3 : Below w.heap.size w (((w.alloc (.cells #[.int .i64 er, .int .i64 ev] 35)).alloc (.cells #[.int .i64 0, .int .i64 0, .int .i64 0, .slice none 0 0, .slice none 0 0, .int .i64 0, .bool false] 29)).alloc (.cells #[.int .i64 0, .int .i64 0, .int .i64 0, .int .i64 0, .slice none 0 0, .int .i64 0, .int .i64 0] 37)) := (((Below.refl _ _).alloc (Nat.le_refl _) _).alloc (by simp) _).alloc (by simp; omega) _
  have hx3 : (((w.alloc (.cells #[.int .i64 er, .int .i64 ev] 35)).alloc (.cells #[.int .i64 0, .int .i64 0, .int .i64 0, .slice none 0 0, .slice none 0 0, .int .i64 0, .bool false] 29)).alloc (.cells #[.int .i64 0, .int .i64 0, .int .i64 0, .int .i64 0, .slice none 0 0, .int .i64 0, .int .i64 0] 37)).heap[w.heap.size]? = some (.cells #[.int .i64 er, .int .i64 ev] 35 (0, 0)) := by
    rw [heap_alloc_old _ _ (by simp; omega), heap_alloc_old _ _ (by simp), heap_alloc_new]
  have hs3 : (((w.alloc (.cells #[.int .i64 er, .int .i64 ev] 35)).alloc (.cells #[.int .i64 0, .int .i64 0, .int .i64 0, .slice none 0 0, .slice none 0 0, .int .i64 0, .bool false] 29)).alloc (.cells #[.int .i64 0, .int .i64 0, .int .i64 0, .int .i64 0, .slice none 0 0, .int .i64 0, .int .i64 0] 37)).heap[w.heap.size + 1]? = some (.cells #[.int .i64 0, .int .i64 0, .int .i64 0, .slice none 0 0, .slice none 0 0, .int .i64 0, .bool false] 29 (0, 0)) := by
    rw [heap_alloc_old _ _ (by simp)]
    have := heap_alloc_new (w.alloc (.cells #[.int .i64 er, .int .i64 ev] 35)) (.cells #[.int .i64 0, .int .i64 0, .int .i64 0, .slice none 0 0, .slice none 0 0, .int .i64 0, .bool false] 29)
    simpa using this
  have he3 : (((w.alloc (.cells #[.int .i64 er, .int .i64 ev] 35)).alloc (.cells #[.int .i64 0, .int .i64 0, .int .i64 0, .slice none 0 0, .slice none 0 0, .int .i64 0, .bool false] 29)).alloc (.cells #[.int .i64 0, .int .i64 0, .int .i64 0, .int .i64 0, .slice none 0 0, .int .i64 0, .int .i64 0] 37)).heap[w.heap.size + 1 + 1]? = some (.cells #[.int .i64 0, .int .i64 0, .int .i64 0, .int .i64 0, .slice none 0 0, .int .i64 0, .int .i64 0] 37 (0, 0)) := by
    have := heap_alloc_new ((w.alloc (.cells #[.int .i64 er, .int .i64 ev] 35)).alloc (.cells #[.int .i64 0, .int .i64 0, .int .i64 0, .slice none 0 0, .slice none 0 0, .int .i64 0, .bool false] 29)) (.cells #[.int .i64 0, .int .i64 0, .int .i64 0, .int .i64 0, .slice none 0 0, .int .i64 0, .int .i64 0] 37)
    simpa using this
  have h3 := h.below hb3
  generalize (((w.alloc (.cells #[.int .i64 er, .int .i64 ev] 35)).alloc (.cells #[.int .i64 0, .int .i64 0, .int .i64 0, .slice none 0 0, .slice none 0 0, .int .i64 0, .bool false] 29)).alloc (.cells #[.int .i64 0, .int .i64 0, .int .i64 0, .int .i64 0, .slice none 0 0, .int .i64 0, .int .i64 0] 37)) = w3 at *
  have b0 : w3.cell? ⟨w.heap.size, 0, none⟩ = some (.int .i64 er) := by simp [World.cell?, hx3]
  have b1 : w3.cell? ⟨w.heap.size, 1, none⟩ = some (.int .i64 ev) := by simp [World.cell?, hx3]
  have c12 := h3.cell 12 _ rfl
  have f12 := h3.froz 12
  have h4 := h3.put (M' := ⟨fn, pc, fu, .slice sa st.length sc, .slice la lo.length lc, kd, wt, j, 3, ef, ei, es, .slice aa ar.length ac, er0, ev0⟩) 12 (.int .i64 3) rfl rfl rfl rfl
  have c17 := h4.cell 17 _ rfl
  have f17 := h4.froz 17
  have h5 := h4.put (M' := ⟨fn, pc, fu, .slice sa st.length sc, .slice la lo.length lc, kd, wt, j, 3, ef, ei, es, .slice aa ar.length ac, er, ev0⟩) 17 (.int .i64 er) rfl rfl rfl rfl
  have c18 := h5.cell 18 _ rfl
  have f18 := h5.froz 18
  have f18' := h4.froz 18
  have c18' := h4.cell 18 _ rfl
  have h6 := h5.put (M' := ⟨fn, pc, fu, .slice sa st.length sc, .slice la lo.length lc, kd, wt, j, 3, ef, ei, es, .slice aa ar.length ac, er, ev⟩) 18 (.int .i64 ev) rfl rfl rfl rfl
  have hb6 : Below B w (((w3.setCell ⟨m, 12, none⟩ (.int .i64 3)).setCell ⟨m, 17, none⟩ (.int .i64 er)).setCell ⟨m, 18, none⟩ (.int .i64 ev)) := (((hb3.mono (by omega)).setCell (p := ⟨m, 12, none⟩) hbm _).setCell (p := ⟨m, 17, none⟩) hbm _).setCell (p := ⟨m, 18, none⟩) hbm _
  have hs6 : (((w3.setCell ⟨m, 12, none⟩ (.int .i64 3)).setCell ⟨m, 17, none⟩ (.int .i64 er)).setCell ⟨m, 18, none⟩ (.int .i64 ev)).heap[w.heap.size + 1]? = some (.cells #[.int .i64 0, .int .i64 0, .int .i64 0, .slice none 0 0, .slice none 0 0, .int .i64 0, .bool false] 29 (0, 0)) := by
    rw [heap_setCell_other _ _ _ _ (by show w.heap.size + 1 ≠ m; omega), heap_setCell_other _ _ _ _ (by show w.heap.size + 1 ≠ m; omega), heap_setCell_other _ _ _ _ (by show w.heap.size + 1 ≠ m; omega)]
    exact hs3
  have he6 : (((w3.setCell ⟨m, 12, none⟩ (.int .i64 3)).setCell ⟨m, 17, none⟩ (.int .i64 er)).setCell ⟨m, 18, none⟩ (.int .i64 ev)).heap[w.heap.size + 1 + 1]? = some (.cells #[.int .i64 0, .int .i64 0, .int .i64 0, .int .i64 0, .slice none 0 0, .int .i64 0, .int .i64 0] 37 (0, 0)) := by
    rw [heap_setCell_other _ _ _ _ (by show w.heap.size + 1 + 1 ≠ m; omega), heap_setCell_other _ _ _ _ (by show w.heap.size + 1 + 1 ≠ m; omega), heap_setCell_other _ _ _ _ (by show w.heap.size + 1 + 1 ≠ m; omega)]
    exact he3
  clear hx3 hs3 he3
  go_big_region
  clear b0 b1 c12 f12 c17 f17 c18 f18 c18' f18' h h3 h4 h5 hb3
  generalize (((w3.setCell ⟨m, 12, none⟩ (.int .i64 3)).setCell ⟨m, 17, none⟩ (.int .i64 er)).setCell ⟨m, 18, none⟩ (.int .i64 ev)) = w6 at *
  have h7 := h6.below ((Below.refl _ _).drew)
  have cs := fun i u hu => h7.cell i u hu
  have c0 := cs 0 _ rfl
  have c1 := cs 1 _ rfl
  have c2 := cs 2 _ rfl
  have c3 := cs 3 _ rfl
  have c4 := cs 4 _ rfl
  have c5 := cs 5 _ rfl
  have c6 := cs 6 _ rfl
  have c12 := cs 12 _ rfl
  have c13 := cs 13 _ rfl
  have c14 := cs 14 _ rfl
  have c15 := cs 15 _ rfl
  have c16 := cs 16 _ rfl
  have c17 := cs 17 _ rfl
  have c18 := cs 18 _ rfl
  have hs7 : w6.drew.heap[w.heap.size + 1]? = _ := hs6
  have he7 : w6.drew.heap[w.heap.size + 1 + 1]? = _ := he6
  have hb7 : Below B w w6.drew := hb6.drew
  clear hs6 he6 hb6 h6
  generalize w6.drew = w7 at *
  clear cs
  have z0 : w7.cell? ⟨w.heap.size + 1, 0, none⟩ = some (.int .i64 0) := by simp [World.cell?, hs7]
  have zf0 : w7.frozen? ⟨w.heap.size + 1, 0, none⟩ = false := by simp [World.frozen?, hs7]
  have y0 : w7.cell? ⟨w.heap.size + 1 + 1, 0, none⟩ = some (.int .i64 0) := by simp [World.cell?, he7]
  have yf0 : w7.frozen? ⟨w.heap.size + 1 + 1, 0, none⟩ = false := by simp [World.frozen?, he7]
  have z1 : w7.cell? ⟨w.heap.size + 1, 1, none⟩ = some (.int .i64 0) := by simp [World.cell?, hs7]
  have zf1 : w7.frozen? ⟨w.heap.size + 1, 1, none⟩ = false := by simp [World.frozen?, hs7]
  have y1 : w7.cell? ⟨w.heap.size + 1 + 1, 1, none⟩ = some (.int .i64 0) := by simp [World.cell?, he7]
  have yf1 : w7.frozen? ⟨w.heap.size + 1 + 1, 1, none⟩ = false := by simp [World.frozen?, he7]
  have z2 : w7.cell? ⟨w.heap.size + 1, 2, none⟩ = some (.int .i64 0) := by simp [World.cell?, hs7]
  have zf2 : w7.frozen? ⟨w.heap.size + 1, 2, none⟩ = false := by simp [World.frozen?, hs7]
  have y2 : w7.cell? ⟨w.heap.size + 1 + 1, 2, none⟩ = some (.int .i64 0) := by simp [World.cell?, he7]
  have yf2 : w7.frozen? ⟨w.heap.size + 1 + 1, 2, none⟩ = false := by simp [World.frozen?, he7]
  have z3 : w7.cell? ⟨w.heap.size + 1, 3, none⟩ = some (.slice none 0 0) := by simp [World.cell?, hs7]
  have zf3 : w7.frozen? ⟨w.heap.size + 1, 3, none⟩ = false := by simp [World.frozen?, hs7]
  have y3 : w7.cell? ⟨w.heap.size + 1 + 1, 3, none⟩ = some (.int .i64 0) := by simp [World.cell?, he7]
  have yf3 : w7.frozen? ⟨w.heap.size + 1 + 1, 3, none⟩ = false := by simp [World.frozen?, he7]
  have z4 : w7.cell? ⟨w.heap.size + 1, 4, none⟩ = some (.slice none 0 0) := by simp [World.cell?, hs7]
  have zf4 : w7.frozen? ⟨w.heap.size + 1, 4, none⟩ = false := by simp [World.frozen?, hs7]
  have y4 : w7.cell? ⟨w.heap.size + 1 + 1, 4, none⟩ = some (.slice none 0 0) := by simp [World.cell?, he7]
  have yf4 : w7.frozen? ⟨w.heap.size + 1 + 1, 4, none⟩ = false := by simp [World.frozen?, he7]
  have z5 : w7.cell? ⟨w.heap.size + 1, 5, none⟩ = some (.int .i64 0) := by simp [World.cell?, hs7]
  have zf5 : w7.frozen? ⟨w.heap.size + 1, 5, none⟩ = false := by simp [World.frozen?, hs7]
  have y5 : w7.cell? ⟨w.heap.size + 1 + 1, 5, none⟩ = some (.int .i64 0) := by simp [World.cell?, he7]
  have yf5 : w7.frozen? ⟨w.heap.size + 1 + 1, 5, none⟩ = false := by simp [World.frozen?, he7]
  have z6 : w7.cell? ⟨w.heap.size + 1, 6, none⟩ = some (.bool false) := by simp [World.cell?, hs7]
  have zf6 : w7.frozen? ⟨w.heap.size + 1, 6, none⟩ = false := by simp [World.frozen?, hs7]
  have y6 : w7.cell? ⟨w.heap.size + 1 + 1, 6, none⟩ = some (.int .i64 0) := by simp [World.cell?, he7]
  have yf6 : w7.frozen? ⟨w.heap.size + 1 + 1, 6, none⟩ = false := by simp [World.frozen?, he7]
  have H7 := hide h7
  have HB7 := hide hb7
  have HS7 := hide hs7
  have HE7 := hide he7
  clear h7 hb7 hs7 he7
  go_wp2_with fail
  go_big_region
  clear z0 zf0 y0 yf0 z1 zf1 y1 yf1 z2 zf2 y2 yf2 z3 zf3 y3 yf3 z4 zf4 y4 yf4 z5 zf5 y5 yf5 z6 zf6 y6 yf6 c0 c1 c2 c3 c4 c5 c6 c12 c13 c14 c15 c16 c17 c18
  show Exit.then _ _ Exit.normal _ (((w7.setCells (w.heap.size + 1) 0 [.int .i64 fn, .int .i64 pc, .int .i64 fu, .slice sa st.length sc, .slice la lo.length lc, .int .i64 kd, .bool wt]).setCells (w.heap.size + 1 + 1) 0 [.int .i64 3, .int .i64 ef, .int .i64 ei, .int .i64 es, .slice aa ar.length ac, .int .i64 er, .int .i64 ev]).drew)
  obtain ⟨S, hS⟩ : ∃ S : List Value, S = [.int .i64 fn, .int .i64 pc, .int .i64 fu, .slice sa st.length sc, .slice la lo.length lc, .int .i64 kd, .bool wt] := ⟨_, rfl⟩
  obtain ⟨E, hE⟩ : ∃ E : List Value, E = [.int .i64 3, .int .i64 ef, .int .i64 ei, .int .i64 es, .slice aa ar.length ac, .int .i64 er, .int .i64 ev] := ⟨_, rfl⟩
  have lS : S.length = 7 := by rw [hS]; rfl
  have lE : E.length = 7 := by rw [hE]; rfl
  rw [← hS, ← hE]
  have he8 := (setCells_other (k := w.heap.size + 1 + 1) (b := w.heap.size + 1) (by omega) S 0 w7).trans HE7.out
  have r1 : ∀ i u, S[i]? = some u → (((w7.setCells (w.heap.size + 1) 0 S).setCells (w.heap.size + 1 + 1) 0 E).drew).cell? ⟨w.heap.size + 1, i, none⟩ = some u := fun i u hu => by
    show ((w7.setCells (w.heap.size + 1) 0 S).setCells (w.heap.size + 1 + 1) 0 E).cell? ⟨w.heap.size + 1, i, none⟩ = some u
    rw [World.cell?_of_block (setCells_other (k := w.heap.size + 1) (b := w.heap.size + 1 + 1) (by omega) E 0 _)]
    exact setCells_at (vs := S) HS7.out (by rw [lS]; rfl) hu
  have r2 : ∀ i u, E[i]? = some u → (((w7.setCells (w.heap.size + 1) 0 S).setCells (w.heap.size + 1 + 1) 0 E).drew).cell? ⟨w.heap.size + 1 + 1, i, none⟩ = some u := fun i u hu => by
    show ((w7.setCells (w.heap.size + 1) 0 S).setCells (w.heap.size + 1 + 1) 0 E).cell? ⟨w.heap.size + 1 + 1, i, none⟩ = some u
    exact setCells_at (vs := E) he8 (by rw [lE]; rfl) hu
  have HM9 := hide ((H7.out.far (w' := ((w7.setCells (w.heap.size + 1) 0 S).setCells (w.heap.size + 1 + 1) 0 E)) (fun g c t ht hg => by
    rw [setCells_other (k := g) (b := w.heap.size + 1 + 1) (by intro e; rw [e, HE7.out] at hg; simp only [Option.some.injEq, Obj.cells.injEq] at hg; rcases ht with q | q | q <;> (rw [q] at hg; exact absurd hg.2.1 (by decide))) E 0 _, setCells_other (k := g) (b := w.heap.size + 1) (by intro e; rw [e, HS7.out] at hg; simp only [Option.some.injEq, Obj.cells.injEq] at hg; rcases ht with q | q | q <;> (rw [q] at hg; exact absurd hg.2.1 (by decide))) S 0 _])).below ((Below.refl _ _).drew))
  have HB9 := hide (show Below B w (((w7.setCells (w.heap.size + 1) 0 S).setCells (w.heap.size + 1 + 1) 0 E).drew) from (setCells_below (by omega) _ _ (setCells_below (by omega) _ _ HB7.out)).drew)
  generalize ((w7.setCells (w.heap.size + 1) 0 S).setCells (w.heap.size + 1 + 1) 0 E).drew = w9 at *
  clear he8 lS lE H7 HB7 HS7 HE7
  subst hS
  subst hE
  have x0 := r1 0 _ rfl
  have x1 := r1 1 _ rfl
  have x2 := r1 2 _ rfl
  have x3 := r1 3 _ rfl
  have x4 := r1 4 _ rfl
  have x5 := r1 5 _ rfl
  have x6 := r1 6 _ rfl
  have v0 := r2 0 _ rfl
  have v1 := r2 1 _ rfl
  have v2 := r2 2 _ rfl
  have v3 := r2 3 _ rfl
  have v4 := r2 4 _ rfl
  have v5 := r2 5 _ rfl
  have v6 := r2 6 _ rfl
  clear r1 r2
  go_wp2_with fail
  exact bodyPost_ret (v := .tuple #[.agg #[.int .i64 fn, .int .i64 pc, .int .i64 fu, .slice sa st.length sc, .slice la lo.length lc, .int .i64 kd, .bool wt], .agg #[.int .i64 3, .int .i64 ef, .int .i64 ei, .int .i64 es, .slice aa ar.length ac, .int .i64 er, .int .i64 ev]]) (by simp [results, Tryz.results29, go_sem, x0, x1, x2, x3, x4, x5, x6, v0, v1, v2, v3, v4, v5, v6]) rfl ⟨rfl, HM9.out, HB9.out⟩
end Go.Proofs.YtnkfdpnommjlcaaGreatDoor
/- step: ret. -/

namespace Go.Proofs.YtnkfdpnommjlcaaGreatDoor
open Go.RowKit Go.ChangeShapes Go.WideShapes Go.ChangeAt Go.Deep

set_option linter.unusedSimpArgs false in
set_option maxRecDepth 100000 in
set_option maxHeartbeats 2000000 in
theorem step_ret {B : Bd} {w w0 : World} {m : Nat} {M : Mc} {sk lo ar : List Int} {x : Int} {cs : List Value} {fs : List Fun} {args : List Int} {deep : Int} (h : Mach B w m M (x :: sk).reverse lo ar) (hJ : JobR w0 M.j cs fs args) (hB : B = w0.heap.size) (hb : Below B w0 w) (fn pc : Nat) (f : Fun) (n : Int)
    (hfn : M.fn = (fn : Int)) (hpc : M.pc = (pc : Int)) (hf : fs[fn]? = some f) (hi : f.code[pc]? = some (18, n)) (hfu : M.fu < M.j.fuel) (hfl : -1000000 ≤ M.fu ∧ M.fu ≤ 1000000) (hes : -1000000 ≤ M.es ∧ M.es ≤ 1000000) (_hpcl : pc ≤ 1000000) 
    (hsk : sk.length ≤ 10000) :
    Calls Tryz.prog 72 #[.pointer (some ⟨m, 0, none⟩), .int .i64 deep] w fun e w' => e = .returned (.tuple #[]) ∧ Mach B w' m { M with fu := M.fu + 1, es := M.es + 1, ek := 3, er := 0, ev := x } (x :: sk).reverse lo ar ∧ Below B w w' := by
  have hlt := h.lt
  have hbm := h.bm
  have N1 := fun w => tneed_yes 21 w
  have c2 := h.cell 2 _ rfl
  have c10 := h.cell 10 _ rfl
  have hbs := hb.size
  go_enter Tryz.func72, Tryz.ntmps72
  go_wp2_with fail
  go_big_quiet (first | (go_at_call 24; with_reducible exact Calls.quiet_of_same (N1 _)))
  have hb1 : Below w.heap.size w (w.drewN nq) := below_drewN' (Below.refl _ _) nq
  have h1 := h.below hb1
  have hB1 : Below B w0 (w.drewN nq) := hb.trans (hb1.mono (by omega))
  generalize w.drewN nq = w1 at *
  clear c2 c10
  have c2 := h1.cell 2 _ rfl
  have f2 := h1.froz 2
  have h2 := h1.put (M' := { M with fu := M.fu + 1 }) 2 (.int .i64 (M.fu + 1)) rfl rfl rfl rfl
  have hB2 : Below B w0 (w1.setCell ⟨m, 2, none⟩ (.int .i64 (M.fu + 1))) := hB1.setCell (p := ⟨m, 2, none⟩) hbm _
  have hw2 : Below B w (w1.setCell ⟨m, 2, none⟩ (.int .i64 (M.fu + 1))) := (hb1.mono (by omega)).setCell (p := ⟨m, 2, none⟩) hbm _
  go_upto_region 2 with fail
  clear c2 f2
  generalize w1.setCell ⟨m, 2, none⟩ (.int .i64 (M.fu + 1)) = w2 at *
  have c15 := h2.cell 15 _ rfl
  have f15 := h2.froz 15
  have h3 := h2.put (M' := { M with fu := M.fu + 1, es := M.es + 1 }) 15 (.int .i64 (M.es + 1)) rfl rfl rfl rfl
  have hB3 : Below B w0 (w2.setCell ⟨m, 15, none⟩ (.int .i64 (M.es + 1))) := hB2.setCell (p := ⟨m, 15, none⟩) hbm _
  have hw3 : Below B w (w2.setCell ⟨m, 15, none⟩ (.int .i64 (M.es + 1))) := hw2.setCell (p := ⟨m, 15, none⟩) hbm _
  go_upto_region 3 with fail
  clear c15 f15
  generalize w2.setCell ⟨m, 15, none⟩ (.int .i64 (M.es + 1)) = w3 at *
  have hJ3 : JobR w3 M.j cs fs args := hJ.below (hB ▸ hB3)
  have hfl2 : fn < fs.length := (List.getElem?_eq_some_iff.1 hf).1
  have hpl : pc < f.code.length := (List.getElem?_eq_some_iff.1 hi).1
  obtain ⟨fb, off, ca, cc, ea, _, _, _, k3, hrc, _⟩ := hJ3.fun_at hfl2
  have efn : fs[fn] = f := (List.getElem?_eq_some_iff.1 hf).2
  rw [efn] at k3 hrc
  obtain ⟨cb, co, rfl, ki, kn⟩ := ins_cells hrc hi
  have c7 := h3.cell 7 _ rfl
  have c0 := h3.cell 0 _ rfl
  have c1 := h3.cell 1 _ rfl
  simp only [ea, hfn, hpc, hJ3.nf] at c7 c0 c1
  have hba := alloc_below w3 (.cells #[.int .i64 0, .int .i64 0] 55)
  have c7' := keep_cell c7 hba
  have c0' := keep_cell c0 hba
  have c1' := keep_cell c1 hba
  have k3' := keep_cell k3 hba
  have ki' := keep_cell ki hba
  have kn' := keep_cell kn hba
  have hfl3 : (fn : Int) < (fs.length : Int) := by omega
  have hpl3 : (pc : Int) < (f.code.length : Int) := by omega
  have H3 := hide h3
  have HW3 := hide hw3
  clear h h1 h2 h3 hw2 hw3 hJ3 hrc hB1 hB2 hB3 hJ hb hb1 hf hi efn
  go_big_region
  have hb4 : Below w3.heap.size w3 (w3.alloc (.cells #[.int .i64 18, .int .i64 n] 55)).drew := (alloc_below w3 _).drew
  have h4 := H3.out.below hb4
  have hw4 : Below B w (w3.alloc (.cells #[.int .i64 18, .int .i64 n] 55)).drew := HW3.out.trans (hb4.mono (by have := H3.out.lt; omega))
  have hL : Mach B (w3.alloc (.cells #[.int .i64 18, .int .i64 n] 55)).drew m { M with fu := M.fu + 1, es := M.es + 1 } (sk.reverse ++ [x]) lo ar := by simpa using h4
  have CL := last_any hL (by simp; omega)
  have CE := ended_any h4 0 x
  clear c7 c0 c1 k3 ki kn c7' c0' c1' k3' ki' kn' H3 HW3 h4 hb4 hba hL
  go_wp2_with (first
    | (go_at_call 86; go_must (with_reducible refine CL.mono ?_; (rintro e w5 ⟨rfl, hw5⟩); subst hw5))
    | (go_at_call 29; go_must (with_reducible refine CE.mono ?_; (rintro e w6 ⟨rfl, h6, hb6⟩))))
  go_end0
  exact ⟨rfl, h6, hw4.trans hb6⟩
end Go.Proofs.YtnkfdpnommjlcaaGreatDoor
