/- checkFunc. -/
import Derived.Test.YtnkfdpnommjlcaaGreatDoorJobW
namespace Go.Proofs.YtnkfdpnommjlcaaGreatDoor
open Go.RowKit Go.ChangeShapes Go.WideShapes Go.ChangeAt Go.Deep

/-- What is wrong with a function ahead of its instructions; 0: nothing. -/
def headErr (fs : List Fun) (k : Nat) (f : Fun) : Int :=
  if (isNameL f.name.data.toList && !(decide (0 ≤ findF f.name (fs.take k)))) = false then 6
  else if inB f.args 0 8 = false then 15
  else if inB f.locals f.args 16 = false then 13
  else if inB f.code.length 1 256 = false then 3 else 0
/-- What is wrong with function k, and where; (0, 0): nothing. -/
def funcErr (fs : List Fun) (k : Nat) (f : Fun) : Int × Int :=
  if headErr fs k f ≠ 0 then (0, headErr fs k f)
  else if (insFrom f.locals f.code.length fs.length 0 f.code).2 ≠ 0 then insFrom f.locals f.code.length fs.length 0 f.code
  else match depthsL (fs.map Fun.args) f.code with
    | .error q => q
    | .ok _ => (0, 0)

theorem JobR.areads {w : World} {j : JV} {cs : List Value} {fs : List Fun} {args : List Int} (h : JobR w j cs fs args) : AReads w j.fa (fs.map Fun.args) := by
  rcases h.fns with h0 | ⟨fb, off, e, _, hc⟩
  · have hl : (frs fs cs).length = fs.length := by simp [frs, h.len]
    rw [h0] at hl
    exact .inl (by simp at hl; simp [List.eq_nil_of_length_eq_zero hl.symm])
  · refine .inr ⟨fb, off, e, fun q n hq => ?_⟩
    rw [List.getElem?_map] at hq
    cases hf : fs[q]? with
    | none => rw [hf] at hq; cases hq
    | some f =>
      rw [hf] at hq
      have hlt : q < fs.length := by
        rcases Nat.lt_or_ge q fs.length with h | h
        · exact h
        · rw [List.getElem?_eq_none h] at hf; cases hf
      have hfe : fs[q] = f := by rw [List.getElem?_eq_getElem hlt] at hf; exact Option.some.inj hf
      have hl : (frs fs cs).length = fs.length := by simp [frs, h.len]
      have := hc q (by omega) 1 (.int .i64 n) (by
        rw [frs_row h.len hlt, hfe]
        simpa [Fun.row, FR.enc] using hq)
      exact this
theorem JobR.ahead {w : World} {j : JV} {cs : List Value} {fs : List Fun} {args : List Int} (h : JobR w j cs fs args) (k : Nat) (h0 : 0 < fs.length) : FReads w j.fa (frs (fs.take k) (cs.take k)) := by
  rcases h.fns with h1 | ⟨fb, off, e, hl, hc⟩
  · have hl : (frs fs cs).length = fs.length := by simp [frs, h.len]
    rw [h1] at hl
    simp at hl; omega
  · refine .inr ⟨fb, off, e, hl, fun q hq i v hv => ?_⟩
    have h2 : frs (fs.take k) (cs.take k) = (frs fs cs).take k := by simp [frs, List.take_zipWith]
    rw [h2] at hq hv
    have hq' : q < (frs fs cs).length := by simp at hq; omega
    refine hc q hq' i v ?_
    rw [getElem!_pos _ q hq']
    rw [getElem!_pos _ q hq] at hv
    simpa using hv

theorem upE_of2 {fn e : Int} {q : Int × Int} (h : q = (0, e)) (h0 : e ≠ 0) : Ending.panicked [{ v := wrongV fn 0 e, recovered := false }] = upE fn q.1 q.2 := by rw [h, upE_ne h0]
theorem nextGo_ne {n : Nat} {beh : Int} : ∀ {L d : List Int} {l : Nat} {e : Int}, nextGo n beh L d l = .error e → e ≠ 0
  | [], d, l, e, h => by simp [nextGo] at h
  | t :: ts, d, l, e, h => by
    rw [nextGo] at h
    split at h
    · split at h
      · exact nextGo_ne h
      · split at h
        · exact nextGo_ne h
        · cases h; decide
    · cases h; decide
theorem overL_ne {ns : List Int} {code : List (Int × Int)} {d : List Int} {q l : Nat} {e : Int} (h : overL ns code d q l = .error e) : e ≠ 0 := by
  unfold overL at h
  split at h
  · exact nextGo_ne h
  · cases h; decide
theorem walkL_ne {ns : List Int} {code : List (Int × Int)} : ∀ {m : Nat} {d : List Int} {g : List Bool} {l : Nat} {q : Int × Int}, walkL ns code m d g l = .error q → q.2 ≠ 0
  | 0, d, g, l, q, h => by cases h
  | m + 1, d, g, l, q, h => by
    rw [walkL] at h
    split at h
    · split at h
      · rename_i e he
        cases h
        exact overL_ne he
      · exact walkL_ne h
    · cases h
theorem depthsL_ne {ns : List Int} {code : List (Int × Int)} {q : Int × Int} (h : depthsL ns code = .error q) : q.2 ≠ 0 := walkL_ne h
/-- What stands behind a look at a function. -/
def FuncPost (k : Int) (w : World) (q : Int × Int) (r : Ending) (w' : World) : Prop := r = upE k q.1 q.2 ∧ Below w.heap.size w w'

set_option maxRecDepth 100000 in
set_option maxHeartbeats 8000000 in
theorem checkFunc_any (j : JV) (cs : List Value) (fs : List Fun) (args : List Int) (k : Nat) (w : World) (hJ : JobR w j cs fs args) (hE : Env w) (hk : k < fs.length) (hf : fs.length ≤ 1000000000) (hs : fs[k].code.length ≤ 9223372036854775807 ∧ fs[k].name.size < 9223372036854775808) :
    Calls Tryz.prog 46 #[.agg j.cells, .int .i64 (k : Int)] w (FuncPost (k : Int) w (funcErr fs k fs[k])) := by
  have hb0 := alloc_below w (.cells j.cells 25)
  have hbx0 : (w.alloc (.cells j.cells 25)).heap[w.heap.size]? = some (.cells j.cells.toList.toArray 25 (0, 0)) := by
    have := heap_alloc_new w (.cells j.cells 25)
    simpa using this
  have hJ0 := hJ.below hb0
  have C24 := newWalk_any j cs fs args k _ hJ0 hk
  have hnf := hJ.nf
  have HCAP := hide hJ.cap
  have HJ := hide (fun (W : World) (hb : Below w.heap.size w W) => (hJ.below hb))
  have HFA := hide (fun (W : World) (hb : Below w.heap.size w W) => ((hJ.below hb).ahead k (by omega)))
  have HAR := hide (fun (W : World) (hb : Below w.heap.size w W) => ((hJ.below hb).areads))
  have HEN := hide (fun (W : World) (hb : Below w.heap.size w W) => hE.below hb)
  have HLEN := hide hJ.len
  have HCR := hide (fun (W : World) (hb : Below w.heap.size w W) (ca : Option Addr) (n cc : Nat) (hc : cs[k]? = some (.slice ca n cc)) => (hJ.below hb).code_reads hk hc)
  obtain ⟨fb, off, hfa⟩ : ∃ fb off, j.fa = some ⟨fb, off, none⟩ := by obtain ⟨fb, off, _, _, h, _⟩ := hJ.fun_at hk; exact ⟨fb, off, h⟩
  have HN := hide (fun (W : World) (hb : Below w.heap.size w W) => isNm_any fs[k].name hs.2 W (hE.below hb))
  have HFE := hide (show funcErr fs k fs[k] = (if headErr fs k fs[k] ≠ 0 then (0, headErr fs k fs[k]) else if (insFrom fs[k].locals fs[k].code.length fs.length 0 fs[k].code).2 ≠ 0 then insFrom fs[k].locals fs[k].code.length fs.length 0 fs[k].code else match depthsL (fs.map Fun.args) fs[k].code with | .error q => q | .ok _ => (0, 0)) from rfl)
  have HHE := hide (show headErr fs k fs[k] = (if (isNameL fs[k].name.data.toList && !(decide (0 ≤ findF fs[k].name (fs.take k)))) = false then 6 else if inB fs[k].args 0 8 = false then 15 else if inB fs[k].locals fs[k].args 16 = false then 13 else if inB fs[k].code.length 1 256 = false then 3 else 0) from rfl)
  generalize funcErr fs k fs[k] = fe at HFE ⊢
  generalize headErr fs k fs[k] = he at HFE HHE
  have hsc := hs.1
  clear hJ hE hJ0 hs
  generalize fs[k] = f at *
  obtain ⟨nm, ar, lo, code⟩ := f
  simp only [] at *
  generalize hcl : code.length = cn at *
  have HCL := hide hcl
  rw [← hnf] at hk hf HFE
  have HNF := hide hnf
  obtain ⟨fa, nf, fc, mn, aa, na, ac, fu, ta⟩ := j
  simp only [JV.cells] at *
  subst hfa
  clear hcl hnf
  go_enter Tryz.func46, Tryz.ntmps46
  go_wp2_with (go_at_call 51; go_must (with_reducible refine C24.mono ?_; (rintro e w1 ⟨rfl, ⟨ca, cc, hA1, hr1⟩, hb1⟩); refine Hid.out ?_))
  refine Lib.hid ?_
  have hb01 := chain hb0 hb1
  have hbx1 := heap_row hbx0 hb1
  have hsz : (w.alloc (.cells #[.slice (some ⟨fb, off, none⟩) nf fc, .int .i64 mn, .slice aa na ac, .int .i64 fu, .int .i64 ta] 25)).heap.size + 1 = w.heap.size + 1 + 1 := by simp
  rw [hsz] at hA1
  have hlw : w.heap.size ≤ w.heap.size + 1 + 1 := by omega
  clear C24 hbx0 hb1 hsz
  generalize w.heap.size + 1 + 1 = wb at *
  have HR1 := hide hr1
  clear hr1 hb0
  have x0 : w1.cell? ⟨wb, 0, none⟩ = some (.string nm) := cell_row (i := 0) hA1 rfl
  have x1 : w1.cell? ⟨wb, 1, none⟩ = some (.int .i64 ar) := cell_row (i := 1) hA1 rfl
  have x2 : w1.cell? ⟨wb, 2, none⟩ = some (.int .i64 lo) := cell_row (i := 2) hA1 rfl
  have x3 : w1.cell? ⟨wb, 3, none⟩ = some (.slice ca cn cc) := cell_row (i := 3) hA1 rfl
  have x4 : w1.cell? ⟨wb, 4, none⟩ = some (.int .i64 (k : Int)) := cell_row (i := 4) hA1 rfl
  have x5 : w1.cell? ⟨wb, 5, none⟩ = some (.int .i64 0) := cell_row (i := 5) hA1 rfl
  have x6 : w1.cell? ⟨wb, 6, none⟩ = some (.slice (some ⟨fb, off, none⟩) nf fc) := cell_row (i := 6) hA1 rfl
  have jb0 := cell_row (i := 0) hbx1 rfl
  have CN := fun W hb => HN.out W hb
  have CM : ∀ (W : World) (hb : Below w.heap.size w W), Calls Tryz.prog 68 #[.string nm, .slice (some ⟨fb, off, none⟩) k fc] W fun e w' => e = .returned (.bool (decide (0 ≤ findF nm (fs.take k)))) ∧ Below W.heap.size W w' := fun W hb => by
    have := named_any nm (some ⟨fb, off, none⟩) fc k (frs (fs.take k) (cs.take k)) (by have := HLEN.out; have := HNF.out; simp [frs]; omega) (by omega) W (HFA.out W hb)
    rwa [findL_eq nm _ _ (by simp [HLEN.out])] at this
  have hcap : nf ≤ fc := HCAP.out
  have hk' : (k : Int) ≤ (fc : Int) := by omega
  generalize isNameL nm.data.toList = q1 at CN HHE
  generalize decide (0 ≤ findF nm (fs.take k)) = q2 at CM HHE
  clear HN HFA
  go_upto_region 2 with fail
  cases q1 with
  | false =>
    have HE := hide (show fe = (0, 6) by have h : he = 6 := (by rw [HHE.out]; rfl); rw [HFE.out, if_pos (by rw [h]; decide), h])
    have hN : Below w1.heap.size w1 w1.drew := (Below.refl _ _).drew
    refine wp_region_held_drew (S := fun W => W.cell? ⟨wb, 0, none⟩ = some (.string nm) ∧ W.cell? ⟨wb, 4, none⟩ = some (.int .i64 (k : Int)) ∧ W.cell? ⟨wb, 5, none⟩ = some (.int .i64 0) ∧ W.cell? ⟨w.heap.size, 0, none⟩ = some (.slice (some ⟨fb, off, none⟩) nf fc)) (by kernel_rfl) (⟨keep_cell x0 hN, keep_cell x4 hN, keep_cell x5 hN, keep_cell jb0 hN⟩) (fun hHeld => ?_)
    refine takeD (i := 0) (d := some 8) (v := ?_) rfl rfl (by kernel_rfl) (by kernel_rfl) (by kernel_rfl) (fun _ _ _ h => h) (Or.inl ⟨by rfl, ?_⟩) (by assumption) ?_
    rotate_left
    · intro w hSw
      go_simp
      try (with_reducible rfl)
    try simp only [Act.put, List.setIfInBounds_toArray, List.set_cons_zero, List.set_cons_succ]
    refine takeD (i := 1) (d := some 9) (v := ?_) rfl rfl (by kernel_rfl) (by kernel_rfl) (by kernel_rfl) (fun _ _ _ h => h) (Or.inl ⟨by rfl, ?_⟩) (by assumption) ?_
    rotate_left
    · intro w hSw
      go_simp
      try (with_reducible rfl)
    try simp only [Act.put, List.setIfInBounds_toArray, List.set_cons_zero, List.set_cons_succ]
    refine takeD (i := 2) (d := some 10) (v := ?_) rfl rfl (by kernel_rfl) (by kernel_rfl) (by kernel_rfl) (fun _ _ _ h => h) (Or.inl ⟨by rfl, ?_⟩) (by assumption) ?_
    rotate_left
    · intro w hSw
      go_simp
      try (with_reducible rfl)
    try simp only [Act.put, List.setIfInBounds_toArray, List.set_cons_zero, List.set_cons_succ]
    refine takeD (i := 3) (d := some 11) (v := ?_) rfl rfl (by kernel_rfl) (by kernel_rfl) (by kernel_rfl) (fun _ _ _ h => h) (Or.inl ⟨by rfl, ?_⟩) (by assumption) ?_
    rotate_left
    · intro w hSw
      go_simp
      try (with_reducible rfl)
    try simp only [Act.put, List.setIfInBounds_toArray, List.set_cons_zero, List.set_cons_succ]
    refine takeD (i := 4) (d := some 12) (v := ?_) rfl rfl (by kernel_rfl) (by kernel_rfl) (by kernel_rfl) (fun _ _ _ h => h) (Or.inl ⟨by rfl, ?_⟩) (by assumption) ?_
    rotate_left
    · intro w hSw
      go_simp
      try (with_reducible rfl)
    try simp only [Act.put, List.setIfInBounds_toArray, List.set_cons_zero, List.set_cons_succ]
    refine takeD (i := 5) (d := some 13) (v := ?_) rfl rfl (by kernel_rfl) (by kernel_rfl) (by kernel_rfl) (fun _ _ _ h => h) (Or.inl ⟨by rfl, ?_⟩) (by assumption) ?_
    rotate_left
    · intro w hSw
      go_simp
      try (with_reducible rfl)
    try simp only [Act.put, List.setIfInBounds_toArray, List.set_cons_zero, List.set_cons_succ]
    refine takeD (i := 6) (d := some 14) (v := ?_) rfl rfl (by kernel_rfl) (by kernel_rfl) (by kernel_rfl) (fun _ _ _ h => h) (Or.inl ⟨by rfl, ?_⟩) (by assumption) ?_
    rotate_left
    · intro w hSw
      go_simp
      try (with_reducible rfl)
    try simp only [Act.put, List.setIfInBounds_toArray, List.set_cons_zero, List.set_cons_succ]
    refine takeD (i := 7) (d := some 15) (v := ?_) rfl rfl (by kernel_rfl) (by kernel_rfl) (by kernel_rfl) (fun _ _ _ h => h) (Or.inl ⟨by rfl, ?_⟩) (by assumption) ?_
    rotate_left
    · intro w hSw
      go_simp
      try (with_reducible rfl)
    try simp only [Act.put, List.setIfInBounds_toArray, List.set_cons_zero, List.set_cons_succ]
    refine takeD (i := 8) (d := some 16) (v := ?_) rfl rfl (by kernel_rfl) (by kernel_rfl) (by kernel_rfl) (fun _ _ _ h => h) (Or.inl ⟨by rfl, ?_⟩) (by assumption) ?_
    rotate_left
    · intro w hSw
      go_simp
      try (with_reducible rfl)
    try simp only [Act.put, List.setIfInBounds_toArray, List.set_cons_zero, List.set_cons_succ]
    refine wpAnyH_ready (rs := [9]) (by kernel_rfl) (by simp) ?_
    refine AllReadyH.cons rfl (fun K hK => ?_) AllReadyH.nil
    go_simp
    refine (CN _ (hb01.trans (hN.mono hb01.size))).mono ?_
    rintro e wn ⟨rfl, hb⟩
    have hN := chain hN hb
    go_wp2_with fail
    clear hHeld
    refine hK.out _ _ (⟨keep_cell x0 hN, keep_cell x4 hN, keep_cell x5 hN, keep_cell jb0 hN⟩) (fun hHeld => ?_)
    clear hK K
    try simp only [Act.put, List.setIfInBounds_toArray, List.set_cons_zero, List.set_cons_succ]
    refine takeD (i := 10) (d := some 18) (v := ?_) rfl rfl (by kernel_rfl) (by kernel_rfl) (by kernel_rfl) (fun _ _ _ h => h) (Or.inl ⟨by rfl, ?_⟩) (by assumption) ?_
    rotate_left
    · intro w hSw
      go_simp
      try (with_reducible rfl)
    try simp only [Act.put, List.setIfInBounds_toArray, List.set_cons_zero, List.set_cons_succ]
    refine takeD (i := 11) (d := some 19) (v := undef) rfl rfl (by kernel_rfl) (by kernel_rfl) (by kernel_rfl) (fun _ _ _ h => h) (Or.inr ⟨by rfl, rfl⟩) (by assumption) ?_
    try simp only [Act.put, List.setIfInBounds_toArray, List.set_cons_zero, List.set_cons_succ]
    refine takeD (i := 12) (d := some 20) (v := undef) rfl rfl (by kernel_rfl) (by kernel_rfl) (by kernel_rfl) (fun _ _ _ h => h) (Or.inr ⟨by rfl, rfl⟩) (by assumption) ?_
    try simp only [Act.put, List.setIfInBounds_toArray, List.set_cons_zero, List.set_cons_succ]
    refine takeD (i := 13) (d := some 21) (v := undef) rfl rfl (by kernel_rfl) (by kernel_rfl) (by kernel_rfl) (fun _ _ _ h => h) (Or.inr ⟨by rfl, rfl⟩) (by assumption) ?_
    try simp only [Act.put, List.setIfInBounds_toArray, List.set_cons_zero, List.set_cons_succ]
    refine takeD (i := 14) (d := some 22) (v := undef) rfl rfl (by kernel_rfl) (by kernel_rfl) (by kernel_rfl) (fun _ _ _ h => h) (Or.inr ⟨by rfl, rfl⟩) (by assumption) ?_
    try simp only [Act.put, List.setIfInBounds_toArray, List.set_cons_zero, List.set_cons_succ]
    refine takeD (i := 15) (d := some 23) (v := undef) rfl rfl (by kernel_rfl) (by kernel_rfl) (by kernel_rfl) (fun _ _ _ h => h) (Or.inr ⟨by rfl, rfl⟩) (by assumption) ?_
    try simp only [Act.put, List.setIfInBounds_toArray, List.set_cons_zero, List.set_cons_succ]
    refine takeD (i := 16) (d := some 24) (v := undef) rfl rfl (by kernel_rfl) (by kernel_rfl) (by kernel_rfl) (fun _ _ _ h => h) (Or.inr ⟨by rfl, rfl⟩) (by assumption) ?_
    try simp only [Act.put, List.setIfInBounds_toArray, List.set_cons_zero, List.set_cons_succ]
    refine takeD (i := 17) (d := some 25) (v := undef) rfl rfl (by kernel_rfl) (by kernel_rfl) (by kernel_rfl) (fun _ _ _ h => h) (Or.inr ⟨by rfl, rfl⟩) (by assumption) ?_
    try simp only [Act.put, List.setIfInBounds_toArray, List.set_cons_zero, List.set_cons_succ]
    refine takeD (i := 18) (d := some 26) (v := undef) rfl rfl (by kernel_rfl) (by kernel_rfl) (by kernel_rfl) (fun _ _ _ h => h) (Or.inr ⟨by rfl, rfl⟩) (by assumption) ?_
    try simp only [Act.put, List.setIfInBounds_toArray, List.set_cons_zero, List.set_cons_succ]
    refine takeD (i := 19) (d := some 27) (v := undef) rfl rfl (by kernel_rfl) (by kernel_rfl) (by kernel_rfl) (fun _ _ _ h => h) (Or.inr ⟨by rfl, rfl⟩) (by assumption) ?_
    try simp only [Act.put, List.setIfInBounds_toArray, List.set_cons_zero, List.set_cons_succ]
    refine takeD (i := 20) (d := some 28) (v := undef) rfl rfl (by kernel_rfl) (by kernel_rfl) (by kernel_rfl) (fun _ _ _ h => h) (Or.inr ⟨by rfl, rfl⟩) (by assumption) ?_
    try simp only [Act.put, List.setIfInBounds_toArray, List.set_cons_zero, List.set_cons_succ]
    refine takeD (i := 21) (d := some 29) (v := undef) rfl rfl (by kernel_rfl) (by kernel_rfl) (by kernel_rfl) (fun _ _ _ h => h) (Or.inr ⟨by rfl, rfl⟩) (by assumption) ?_
    try simp only [Act.put, List.setIfInBounds_toArray, List.set_cons_zero, List.set_cons_succ]
    refine takeD (i := 22) (d := some 30) (v := ?_) rfl rfl (by kernel_rfl) (by kernel_rfl) (by kernel_rfl) (fun _ _ _ h => h) (Or.inl ⟨by rfl, ?_⟩) (by assumption) ?_
    rotate_left
    · intro w hSw
      go_simp
      try (with_reducible rfl)
    try simp only [Act.put, List.setIfInBounds_toArray, List.set_cons_zero, List.set_cons_succ]
    refine wpAnyH_ready (rs := [23]) (by kernel_rfl) (by simp) ?_
    refine AllReadyH.cons rfl (fun K hK => ?_) AllReadyH.nil
    go_simp
    refine (need_no (k : Int) 0 6 _).mono ?_
    rintro e w2 ⟨rfl, hb⟩
    have hN := chain hN hb
    exact ⟨rfl, upE_of2 HE.out (by decide), chain hb01 hN⟩
  | true =>
  cases q2 with
  | true =>
    have HE := hide (show fe = (0, 6) by have h : he = 6 := (by rw [HHE.out]; rfl); rw [HFE.out, if_pos (by rw [h]; decide), h])
    have hN : Below w1.heap.size w1 w1.drew := (Below.refl _ _).drew
    refine wp_region_held_drew (S := fun W => W.cell? ⟨wb, 0, none⟩ = some (.string nm) ∧ W.cell? ⟨wb, 4, none⟩ = some (.int .i64 (k : Int)) ∧ W.cell? ⟨wb, 5, none⟩ = some (.int .i64 0) ∧ W.cell? ⟨w.heap.size, 0, none⟩ = some (.slice (some ⟨fb, off, none⟩) nf fc)) (by kernel_rfl) (⟨keep_cell x0 hN, keep_cell x4 hN, keep_cell x5 hN, keep_cell jb0 hN⟩) (fun hHeld => ?_)
    refine takeD (i := 0) (d := some 8) (v := ?_) rfl rfl (by kernel_rfl) (by kernel_rfl) (by kernel_rfl) (fun _ _ _ h => h) (Or.inl ⟨by rfl, ?_⟩) (by assumption) ?_
    rotate_left
    · intro w hSw
      go_simp
      try (with_reducible rfl)
    try simp only [Act.put, List.setIfInBounds_toArray, List.set_cons_zero, List.set_cons_succ]
    refine takeD (i := 1) (d := some 9) (v := ?_) rfl rfl (by kernel_rfl) (by kernel_rfl) (by kernel_rfl) (fun _ _ _ h => h) (Or.inl ⟨by rfl, ?_⟩) (by assumption) ?_
    rotate_left
    · intro w hSw
      go_simp
      try (with_reducible rfl)
    try simp only [Act.put, List.setIfInBounds_toArray, List.set_cons_zero, List.set_cons_succ]
    refine takeD (i := 2) (d := some 10) (v := ?_) rfl rfl (by kernel_rfl) (by kernel_rfl) (by kernel_rfl) (fun _ _ _ h => h) (Or.inl ⟨by rfl, ?_⟩) (by assumption) ?_
    rotate_left
    · intro w hSw
      go_simp
      try (with_reducible rfl)
    try simp only [Act.put, List.setIfInBounds_toArray, List.set_cons_zero, List.set_cons_succ]
    refine takeD (i := 3) (d := some 11) (v := ?_) rfl rfl (by kernel_rfl) (by kernel_rfl) (by kernel_rfl) (fun _ _ _ h => h) (Or.inl ⟨by rfl, ?_⟩) (by assumption) ?_
    rotate_left
    · intro w hSw
      go_simp
      try (with_reducible rfl)
    try simp only [Act.put, List.setIfInBounds_toArray, List.set_cons_zero, List.set_cons_succ]
    refine takeD (i := 4) (d := some 12) (v := ?_) rfl rfl (by kernel_rfl) (by kernel_rfl) (by kernel_rfl) (fun _ _ _ h => h) (Or.inl ⟨by rfl, ?_⟩) (by assumption) ?_
    rotate_left
    · intro w hSw
      go_simp
      try (with_reducible rfl)
    try simp only [Act.put, List.setIfInBounds_toArray, List.set_cons_zero, List.set_cons_succ]
    refine takeD (i := 5) (d := some 13) (v := ?_) rfl rfl (by kernel_rfl) (by kernel_rfl) (by kernel_rfl) (fun _ _ _ h => h) (Or.inl ⟨by rfl, ?_⟩) (by assumption) ?_
    rotate_left
    · intro w hSw
      go_simp
      try (with_reducible rfl)
    try simp only [Act.put, List.setIfInBounds_toArray, List.set_cons_zero, List.set_cons_succ]
    refine takeD (i := 6) (d := some 14) (v := ?_) rfl rfl (by kernel_rfl) (by kernel_rfl) (by kernel_rfl) (fun _ _ _ h => h) (Or.inl ⟨by rfl, ?_⟩) (by assumption) ?_
    rotate_left
    · intro w hSw
      go_simp
      try (with_reducible rfl)
    try simp only [Act.put, List.setIfInBounds_toArray, List.set_cons_zero, List.set_cons_succ]
    refine takeD (i := 7) (d := some 15) (v := ?_) rfl rfl (by kernel_rfl) (by kernel_rfl) (by kernel_rfl) (fun _ _ _ h => h) (Or.inl ⟨by rfl, ?_⟩) (by assumption) ?_
    rotate_left
    · intro w hSw
      go_simp
      try (with_reducible rfl)
    try simp only [Act.put, List.setIfInBounds_toArray, List.set_cons_zero, List.set_cons_succ]
    refine takeD (i := 8) (d := some 16) (v := ?_) rfl rfl (by kernel_rfl) (by kernel_rfl) (by kernel_rfl) (fun _ _ _ h => h) (Or.inl ⟨by rfl, ?_⟩) (by assumption) ?_
    rotate_left
    · intro w hSw
      go_simp
      try (with_reducible rfl)
    try simp only [Act.put, List.setIfInBounds_toArray, List.set_cons_zero, List.set_cons_succ]
    refine wpAnyH_ready (rs := [9]) (by kernel_rfl) (by simp) ?_
    refine AllReadyH.cons rfl (fun K hK => ?_) AllReadyH.nil
    go_simp
    refine (CN _ (hb01.trans (hN.mono hb01.size))).mono ?_
    rintro e wn ⟨rfl, hb⟩
    have hN := chain hN hb
    go_wp2_with fail
    clear hHeld
    refine hK.out _ _ (⟨keep_cell x0 hN, keep_cell x4 hN, keep_cell x5 hN, keep_cell jb0 hN⟩) (fun hHeld => ?_)
    clear hK K
    try simp only [Act.put, List.setIfInBounds_toArray, List.set_cons_zero, List.set_cons_succ]
    refine takeD (i := 10) (d := some 18) (v := ?_) rfl rfl (by kernel_rfl) (by kernel_rfl) (by kernel_rfl) (fun _ _ _ h => h) (Or.inl ⟨by rfl, ?_⟩) (by assumption) ?_
    rotate_left
    · intro w hSw
      go_simp
      try (with_reducible rfl)
    try simp only [Act.put, List.setIfInBounds_toArray, List.set_cons_zero, List.set_cons_succ]
    refine takeD (i := 11) (d := some 19) (v := ?_) rfl rfl (by kernel_rfl) (by kernel_rfl) (by kernel_rfl) (fun _ _ _ h => h) (Or.inl ⟨by rfl, ?_⟩) (by assumption) ?_
    rotate_left
    · intro w hSw
      go_simp
      try (with_reducible rfl)
    try simp only [Act.put, List.setIfInBounds_toArray, List.set_cons_zero, List.set_cons_succ]
    refine takeD (i := 12) (d := some 20) (v := ?_) rfl rfl (by kernel_rfl) (by kernel_rfl) (by kernel_rfl) (fun _ _ _ h => h) (Or.inl ⟨by rfl, ?_⟩) (by assumption) ?_
    rotate_left
    · intro w hSw
      go_simp
      try (with_reducible rfl)
    try simp only [Act.put, List.setIfInBounds_toArray, List.set_cons_zero, List.set_cons_succ]
    refine takeD (i := 13) (d := some 21) (v := ?_) rfl rfl (by kernel_rfl) (by kernel_rfl) (by kernel_rfl) (fun _ _ _ h => h) (Or.inl ⟨by rfl, ?_⟩) (by assumption) ?_
    rotate_left
    · intro w hSw
      go_simp
      try (with_reducible rfl)
    try simp only [Act.put, List.setIfInBounds_toArray, List.set_cons_zero, List.set_cons_succ]
    refine takeD (i := 14) (d := some 22) (v := ?_) rfl rfl (by kernel_rfl) (by kernel_rfl) (by kernel_rfl) (fun _ _ _ h => h) (Or.inl ⟨by rfl, ?_⟩) (by assumption) ?_
    rotate_left
    · intro w hSw
      go_simp
      try (with_reducible rfl)
    try simp only [Act.put, List.setIfInBounds_toArray, List.set_cons_zero, List.set_cons_succ]
    refine takeD (i := 15) (d := some 23) (v := ?_) rfl rfl (by kernel_rfl) (by kernel_rfl) (by kernel_rfl) (fun _ _ _ h => h) (Or.inl ⟨by rfl, ?_⟩) (by assumption) ?_
    rotate_left
    · intro w hSw
      go_simp
      try (with_reducible rfl)
    try simp only [Act.put, List.setIfInBounds_toArray, List.set_cons_zero, List.set_cons_succ]
    refine takeD (i := 16) (d := some 24) (v := ?_) rfl rfl (by kernel_rfl) (by kernel_rfl) (by kernel_rfl) (fun _ _ _ h => h) (Or.inl ⟨by rfl, ?_⟩) (by assumption) ?_
    rotate_left
    · intro w hSw
      go_simp
      try (with_reducible rfl)
    try simp only [Act.put, List.setIfInBounds_toArray, List.set_cons_zero, List.set_cons_succ]
    refine takeD (i := 17) (d := some 25) (v := ?_) rfl rfl (by kernel_rfl) (by kernel_rfl) (by kernel_rfl) (fun _ _ _ h => h) (Or.inl ⟨by rfl, ?_⟩) (by assumption) ?_
    rotate_left
    · intro w hSw
      go_simp
      try (with_reducible rfl)
    try simp only [Act.put, List.setIfInBounds_toArray, List.set_cons_zero, List.set_cons_succ]
    refine takeD (i := 18) (d := some 26) (v := ?_) rfl rfl (by kernel_rfl) (by kernel_rfl) (by kernel_rfl) (fun _ _ _ h => h) (Or.inl ⟨by rfl, ?_⟩) (by assumption) ?_
    rotate_left
    · intro w hSw
      go_simp
      try (with_reducible rfl)
    try simp only [Act.put, List.setIfInBounds_toArray, List.set_cons_zero, List.set_cons_succ]
    refine takeD (i := 19) (d := some 27) (v := ?_) rfl rfl (by kernel_rfl) (by kernel_rfl) (by kernel_rfl) (fun _ _ _ h => h) (Or.inl ⟨by rfl, ?_⟩) (by assumption) ?_
    rotate_left
    · intro w hSw
      go_simp
      try (with_reducible rfl)
    try simp only [Act.put, List.setIfInBounds_toArray, List.set_cons_zero, List.set_cons_succ]
    refine wpAnyH_ready (rs := [20]) (by kernel_rfl) (by simp) ?_
    refine AllReadyH.cons rfl (fun K hK => ?_) AllReadyH.nil
    go_simp
    refine (CM _ (hb01.trans (hN.mono hb01.size))).mono ?_
    rintro e wm ⟨rfl, hb⟩
    have hN := chain hN hb
    go_wp2_with fail
    clear hHeld
    refine hK.out _ _ (⟨keep_cell x0 hN, keep_cell x4 hN, keep_cell x5 hN, keep_cell jb0 hN⟩) (fun hHeld => ?_)
    clear hK K
    try simp only [Act.put, List.setIfInBounds_toArray, List.set_cons_zero, List.set_cons_succ]
    refine takeD (i := 21) (d := some 29) (v := ?_) rfl rfl (by kernel_rfl) (by kernel_rfl) (by kernel_rfl) (fun _ _ _ h => h) (Or.inl ⟨by rfl, ?_⟩) (by assumption) ?_
    rotate_left
    · intro w hSw
      go_simp
      try (with_reducible rfl)
    try simp only [Act.put, List.setIfInBounds_toArray, List.set_cons_zero, List.set_cons_succ]
    refine takeD (i := 22) (d := some 30) (v := ?_) rfl rfl (by kernel_rfl) (by kernel_rfl) (by kernel_rfl) (fun _ _ _ h => h) (Or.inl ⟨by rfl, ?_⟩) (by assumption) ?_
    rotate_left
    · intro w hSw
      go_simp
      try (with_reducible rfl)
    try simp only [Act.put, List.setIfInBounds_toArray, List.set_cons_zero, List.set_cons_succ]
    refine wpAnyH_ready (rs := [23]) (by kernel_rfl) (by simp) ?_
    refine AllReadyH.cons rfl (fun K hK => ?_) AllReadyH.nil
    go_simp
    refine (need_no (k : Int) 0 6 _).mono ?_
    rintro e w2 ⟨rfl, hb⟩
    have hN := chain hN hb
    exact ⟨rfl, upE_of2 HE.out (by decide), chain hb01 hN⟩
  | false =>
  have HH2 := hide (show he = (if inB ar 0 8 = false then 15 else if inB lo ar 16 = false then 13 else if inB cn 1 256 = false then 3 else 0) from HHE.out)
  clear HHE
  refine wp_region_noPanic ?_
  have hN : Below w1.heap.size w1 w1.drew := (Below.refl _ _).drew
  refine wp_region_held_drew (S := fun W => W.cell? ⟨wb, 0, none⟩ = some (.string nm) ∧ W.cell? ⟨wb, 4, none⟩ = some (.int .i64 (k : Int)) ∧ W.cell? ⟨wb, 5, none⟩ = some (.int .i64 0) ∧ W.cell? ⟨w.heap.size, 0, none⟩ = some (.slice (some ⟨fb, off, none⟩) nf fc)) (by kernel_rfl) (⟨keep_cell x0 hN, keep_cell x4 hN, keep_cell x5 hN, keep_cell jb0 hN⟩) (fun hHeld => ?_)
  refine takeD (i := 0) (d := some 8) (v := ?_) rfl rfl (by kernel_rfl) (by kernel_rfl) (by kernel_rfl) (fun _ _ _ h => h) (Or.inl ⟨by rfl, ?_⟩) (by assumption) ?_
  rotate_left
  · intro w hSw
    go_simp
    try (with_reducible rfl)
  try simp only [Act.put, List.setIfInBounds_toArray, List.set_cons_zero, List.set_cons_succ]
  refine takeD (i := 1) (d := some 9) (v := ?_) rfl rfl (by kernel_rfl) (by kernel_rfl) (by kernel_rfl) (fun _ _ _ h => h) (Or.inl ⟨by rfl, ?_⟩) (by assumption) ?_
  rotate_left
  · intro w hSw
    go_simp
    try (with_reducible rfl)
  try simp only [Act.put, List.setIfInBounds_toArray, List.set_cons_zero, List.set_cons_succ]
  refine takeD (i := 2) (d := some 10) (v := ?_) rfl rfl (by kernel_rfl) (by kernel_rfl) (by kernel_rfl) (fun _ _ _ h => h) (Or.inl ⟨by rfl, ?_⟩) (by assumption) ?_
  rotate_left
  · intro w hSw
    go_simp
    try (with_reducible rfl)
  try simp only [Act.put, List.setIfInBounds_toArray, List.set_cons_zero, List.set_cons_succ]
  refine takeD (i := 3) (d := some 11) (v := ?_) rfl rfl (by kernel_rfl) (by kernel_rfl) (by kernel_rfl) (fun _ _ _ h => h) (Or.inl ⟨by rfl, ?_⟩) (by assumption) ?_
  rotate_left
  · intro w hSw
    go_simp
    try (with_reducible rfl)
  try simp only [Act.put, List.setIfInBounds_toArray, List.set_cons_zero, List.set_cons_succ]
  refine takeD (i := 4) (d := some 12) (v := ?_) rfl rfl (by kernel_rfl) (by kernel_rfl) (by kernel_rfl) (fun _ _ _ h => h) (Or.inl ⟨by rfl, ?_⟩) (by assumption) ?_
  rotate_left
  · intro w hSw
    go_simp
    try (with_reducible rfl)
  try simp only [Act.put, List.setIfInBounds_toArray, List.set_cons_zero, List.set_cons_succ]
  refine takeD (i := 5) (d := some 13) (v := ?_) rfl rfl (by kernel_rfl) (by kernel_rfl) (by kernel_rfl) (fun _ _ _ h => h) (Or.inl ⟨by rfl, ?_⟩) (by assumption) ?_
  rotate_left
  · intro w hSw
    go_simp
    try (with_reducible rfl)
  try simp only [Act.put, List.setIfInBounds_toArray, List.set_cons_zero, List.set_cons_succ]
  refine takeD (i := 6) (d := some 14) (v := ?_) rfl rfl (by kernel_rfl) (by kernel_rfl) (by kernel_rfl) (fun _ _ _ h => h) (Or.inl ⟨by rfl, ?_⟩) (by assumption) ?_
  rotate_left
  · intro w hSw
    go_simp
    try (with_reducible rfl)
  try simp only [Act.put, List.setIfInBounds_toArray, List.set_cons_zero, List.set_cons_succ]
  refine takeD (i := 7) (d := some 15) (v := ?_) rfl rfl (by kernel_rfl) (by kernel_rfl) (by kernel_rfl) (fun _ _ _ h => h) (Or.inl ⟨by rfl, ?_⟩) (by assumption) ?_
  rotate_left
  · intro w hSw
    go_simp
    try (with_reducible rfl)
  try simp only [Act.put, List.setIfInBounds_toArray, List.set_cons_zero, List.set_cons_succ]
  refine takeD (i := 8) (d := some 16) (v := ?_) rfl rfl (by kernel_rfl) (by kernel_rfl) (by kernel_rfl) (fun _ _ _ h => h) (Or.inl ⟨by rfl, ?_⟩) (by assumption) ?_
  rotate_left
  · intro w hSw
    go_simp
    try (with_reducible rfl)
  try simp only [Act.put, List.setIfInBounds_toArray, List.set_cons_zero, List.set_cons_succ]
  refine wpAnyH_ready (rs := [9]) (by kernel_rfl) (by simp) ?_
  refine AllReadyH.cons rfl (fun K hK => ?_) AllReadyH.nil
  go_simp
  refine (CN _ (hb01.trans (hN.mono hb01.size))).mono ?_
  rintro e wn ⟨rfl, hb⟩
  have hN := chain hN hb
  go_wp2_with fail
  clear hHeld
  refine hK.out _ _ (⟨keep_cell x0 hN, keep_cell x4 hN, keep_cell x5 hN, keep_cell jb0 hN⟩) (fun hHeld => ?_)
  clear hK K
  try simp only [Act.put, List.setIfInBounds_toArray, List.set_cons_zero, List.set_cons_succ]
  refine takeD (i := 10) (d := some 18) (v := ?_) rfl rfl (by kernel_rfl) (by kernel_rfl) (by kernel_rfl) (fun _ _ _ h => h) (Or.inl ⟨by rfl, ?_⟩) (by assumption) ?_
  rotate_left
  · intro w hSw
    go_simp
    try (with_reducible rfl)
  try simp only [Act.put, List.setIfInBounds_toArray, List.set_cons_zero, List.set_cons_succ]
  refine takeD (i := 11) (d := some 19) (v := ?_) rfl rfl (by kernel_rfl) (by kernel_rfl) (by kernel_rfl) (fun _ _ _ h => h) (Or.inl ⟨by rfl, ?_⟩) (by assumption) ?_
  rotate_left
  · intro w hSw
    go_simp
    try (with_reducible rfl)
  try simp only [Act.put, List.setIfInBounds_toArray, List.set_cons_zero, List.set_cons_succ]
  refine takeD (i := 12) (d := some 20) (v := ?_) rfl rfl (by kernel_rfl) (by kernel_rfl) (by kernel_rfl) (fun _ _ _ h => h) (Or.inl ⟨by rfl, ?_⟩) (by assumption) ?_
  rotate_left
  · intro w hSw
    go_simp
    try (with_reducible rfl)
  try simp only [Act.put, List.setIfInBounds_toArray, List.set_cons_zero, List.set_cons_succ]
  refine takeD (i := 13) (d := some 21) (v := ?_) rfl rfl (by kernel_rfl) (by kernel_rfl) (by kernel_rfl) (fun _ _ _ h => h) (Or.inl ⟨by rfl, ?_⟩) (by assumption) ?_
  rotate_left
  · intro w hSw
    go_simp
    try (with_reducible rfl)
  try simp only [Act.put, List.setIfInBounds_toArray, List.set_cons_zero, List.set_cons_succ]
  refine takeD (i := 14) (d := some 22) (v := ?_) rfl rfl (by kernel_rfl) (by kernel_rfl) (by kernel_rfl) (fun _ _ _ h => h) (Or.inl ⟨by rfl, ?_⟩) (by assumption) ?_
  rotate_left
  · intro w hSw
    go_simp
    try (with_reducible rfl)
  try simp only [Act.put, List.setIfInBounds_toArray, List.set_cons_zero, List.set_cons_succ]
  refine takeD (i := 15) (d := some 23) (v := ?_) rfl rfl (by kernel_rfl) (by kernel_rfl) (by kernel_rfl) (fun _ _ _ h => h) (Or.inl ⟨by rfl, ?_⟩) (by assumption) ?_
  rotate_left
  · intro w hSw
    go_simp
    try (with_reducible rfl)
  try simp only [Act.put, List.setIfInBounds_toArray, List.set_cons_zero, List.set_cons_succ]
  refine takeD (i := 16) (d := some 24) (v := ?_) rfl rfl (by kernel_rfl) (by kernel_rfl) (by kernel_rfl) (fun _ _ _ h => h) (Or.inl ⟨by rfl, ?_⟩) (by assumption) ?_
  rotate_left
  · intro w hSw
    go_simp
    try (with_reducible rfl)
  try simp only [Act.put, List.setIfInBounds_toArray, List.set_cons_zero, List.set_cons_succ]
  refine takeD (i := 17) (d := some 25) (v := ?_) rfl rfl (by kernel_rfl) (by kernel_rfl) (by kernel_rfl) (fun _ _ _ h => h) (Or.inl ⟨by rfl, ?_⟩) (by assumption) ?_
  rotate_left
  · intro w hSw
    go_simp
    try (with_reducible rfl)
  try simp only [Act.put, List.setIfInBounds_toArray, List.set_cons_zero, List.set_cons_succ]
  refine takeD (i := 18) (d := some 26) (v := ?_) rfl rfl (by kernel_rfl) (by kernel_rfl) (by kernel_rfl) (fun _ _ _ h => h) (Or.inl ⟨by rfl, ?_⟩) (by assumption) ?_
  rotate_left
  · intro w hSw
    go_simp
    try (with_reducible rfl)
  try simp only [Act.put, List.setIfInBounds_toArray, List.set_cons_zero, List.set_cons_succ]
  refine takeD (i := 19) (d := some 27) (v := ?_) rfl rfl (by kernel_rfl) (by kernel_rfl) (by kernel_rfl) (fun _ _ _ h => h) (Or.inl ⟨by rfl, ?_⟩) (by assumption) ?_
  rotate_left
  · intro w hSw
    go_simp
    try (with_reducible rfl)
  try simp only [Act.put, List.setIfInBounds_toArray, List.set_cons_zero, List.set_cons_succ]
  refine wpAnyH_ready (rs := [20]) (by kernel_rfl) (by simp) ?_
  refine AllReadyH.cons rfl (fun K hK => ?_) AllReadyH.nil
  go_simp
  refine (CM _ (hb01.trans (hN.mono hb01.size))).mono ?_
  rintro e wm ⟨rfl, hb⟩
  have hN := chain hN hb
  go_wp2_with fail
  clear hHeld
  refine hK.out _ _ (⟨keep_cell x0 hN, keep_cell x4 hN, keep_cell x5 hN, keep_cell jb0 hN⟩) (fun hHeld => ?_)
  clear hK K
  try simp only [Act.put, List.setIfInBounds_toArray, List.set_cons_zero, List.set_cons_succ]
  refine takeD (i := 21) (d := some 29) (v := ?_) rfl rfl (by kernel_rfl) (by kernel_rfl) (by kernel_rfl) (fun _ _ _ h => h) (Or.inl ⟨by rfl, ?_⟩) (by assumption) ?_
  rotate_left
  · intro w hSw
    go_simp
    try (with_reducible rfl)
  try simp only [Act.put, List.setIfInBounds_toArray, List.set_cons_zero, List.set_cons_succ]
  refine takeD (i := 22) (d := some 30) (v := ?_) rfl rfl (by kernel_rfl) (by kernel_rfl) (by kernel_rfl) (fun _ _ _ h => h) (Or.inl ⟨by rfl, ?_⟩) (by assumption) ?_
  rotate_left
  · intro w hSw
    go_simp
    try (with_reducible rfl)
  try simp only [Act.put, List.setIfInBounds_toArray, List.set_cons_zero, List.set_cons_succ]
  refine wpAnyH_ready (rs := [23]) (by kernel_rfl) (by simp) ?_
  refine AllReadyH.cons rfl (fun K hK => ?_) AllReadyH.nil
  go_simp
  refine (need_yes (k : Int) 0 6 _).mono ?_
  rintro e w2 ⟨rfl, hb⟩
  have hN := chain hN hb
  go_wp2_with fail
  clear hHeld
  refine hK.out _ _ (⟨keep_cell x0 hN, keep_cell x4 hN, keep_cell x5 hN, keep_cell jb0 hN⟩) (fun hHeld => ?_)
  clear hK K
  try simp only [Act.put, List.setIfInBounds_toArray, List.set_cons_zero, List.set_cons_succ]
  refine wpAnyH_done (by kernel_rfl) ?_ _
  refine NoPanic.normal ?_
  have hb02 := chain hb01 hN
  have hA2 := hA1.below hN
  clear hHeld hN hb x0 x1 x2 x3 x4 x5 x6 hb01 hA1 jb0 hbx1 CN CM
  have x0 : w2.cell? ⟨wb, 0, none⟩ = some (.string nm) := cell_row (i := 0) hA2 rfl
  have x1 : w2.cell? ⟨wb, 1, none⟩ = some (.int .i64 ar) := cell_row (i := 1) hA2 rfl
  have x2 : w2.cell? ⟨wb, 2, none⟩ = some (.int .i64 lo) := cell_row (i := 2) hA2 rfl
  have x3 : w2.cell? ⟨wb, 3, none⟩ = some (.slice ca cn cc) := cell_row (i := 3) hA2 rfl
  have x4 : w2.cell? ⟨wb, 4, none⟩ = some (.int .i64 (k : Int)) := cell_row (i := 4) hA2 rfl
  have x5 : w2.cell? ⟨wb, 5, none⟩ = some (.int .i64 0) := cell_row (i := 5) hA2 rfl
  have x6 : w2.cell? ⟨wb, 6, none⟩ = some (.slice (some ⟨fb, off, none⟩) nf fc) := cell_row (i := 6) hA2 rfl
  go_upto_region 3 with fail
  have CW3 := fun w => within_any ar 0 8 w
  cases q3 : inB ar 0 8 with
  | false =>
    rw [q3] at CW3
    have HE := hide (show fe = (0, 15) by have h : he = 15 := (by rw [HH2.out]; rw [q3]; rfl); rw [HFE.out, if_pos (by rw [h]; decide), h])
    have hN : Below w2.heap.size w2 w2.drew := (Below.refl _ _).drew
    refine wp_region_held_drew (S := fun W => W.cell? ⟨wb, 1, none⟩ = some (.int .i64 ar) ∧ W.cell? ⟨wb, 4, none⟩ = some (.int .i64 (k : Int)) ∧ W.cell? ⟨wb, 5, none⟩ = some (.int .i64 0)) (by kernel_rfl) (⟨keep_cell x1 hN, keep_cell x4 hN, keep_cell x5 hN⟩) (fun hHeld => ?_)
    refine takeD (i := 0) (d := some 32) (v := ?_) rfl rfl (by kernel_rfl) (by kernel_rfl) (by kernel_rfl) (fun _ _ _ h => h) (Or.inl ⟨by rfl, ?_⟩) (by assumption) ?_
    rotate_left
    · intro w hSw
      go_simp
      try (with_reducible rfl)
    try simp only [Act.put, List.setIfInBounds_toArray, List.set_cons_zero, List.set_cons_succ]
    refine takeD (i := 1) (d := some 33) (v := ?_) rfl rfl (by kernel_rfl) (by kernel_rfl) (by kernel_rfl) (fun _ _ _ h => h) (Or.inl ⟨by rfl, ?_⟩) (by assumption) ?_
    rotate_left
    · intro w hSw
      go_simp
      try (with_reducible rfl)
    try simp only [Act.put, List.setIfInBounds_toArray, List.set_cons_zero, List.set_cons_succ]
    refine takeD (i := 2) (d := some 34) (v := ?_) rfl rfl (by kernel_rfl) (by kernel_rfl) (by kernel_rfl) (fun _ _ _ h => h) (Or.inl ⟨by rfl, ?_⟩) (by assumption) ?_
    rotate_left
    · intro w hSw
      go_simp
      try (with_reducible rfl)
    try simp only [Act.put, List.setIfInBounds_toArray, List.set_cons_zero, List.set_cons_succ]
    refine takeD (i := 3) (d := some 35) (v := ?_) rfl rfl (by kernel_rfl) (by kernel_rfl) (by kernel_rfl) (fun _ _ _ h => h) (Or.inl ⟨by rfl, ?_⟩) (by assumption) ?_
    rotate_left
    · intro w hSw
      go_simp
      try (with_reducible rfl)
    try simp only [Act.put, List.setIfInBounds_toArray, List.set_cons_zero, List.set_cons_succ]
    refine takeD (i := 4) (d := some 36) (v := ?_) rfl rfl (by kernel_rfl) (by kernel_rfl) (by kernel_rfl) (fun _ _ _ h => h) (Or.inl ⟨by rfl, ?_⟩) (by assumption) ?_
    rotate_left
    · intro w hSw
      go_simp
      try (with_reducible rfl)
    try simp only [Act.put, List.setIfInBounds_toArray, List.set_cons_zero, List.set_cons_succ]
    refine takeD (i := 5) (d := some 37) (v := ?_) rfl rfl (by kernel_rfl) (by kernel_rfl) (by kernel_rfl) (fun _ _ _ h => h) (Or.inl ⟨by rfl, ?_⟩) (by assumption) ?_
    rotate_left
    · intro w hSw
      go_simp
      try (with_reducible rfl)
    try simp only [Act.put, List.setIfInBounds_toArray, List.set_cons_zero, List.set_cons_succ]
    refine takeD (i := 6) (d := some 38) (v := ?_) rfl rfl (by kernel_rfl) (by kernel_rfl) (by kernel_rfl) (fun _ _ _ h => h) (Or.inl ⟨by rfl, ?_⟩) (by assumption) ?_
    rotate_left
    · intro w hSw
      go_simp
      try (with_reducible rfl)
    try simp only [Act.put, List.setIfInBounds_toArray, List.set_cons_zero, List.set_cons_succ]
    refine takeD (i := 7) (d := some 39) (v := ?_) rfl rfl (by kernel_rfl) (by kernel_rfl) (by kernel_rfl) (fun _ _ _ h => h) (Or.inl ⟨by rfl, ?_⟩) (by assumption) ?_
    rotate_left
    · intro w hSw
      go_simp
      try (with_reducible rfl)
    try simp only [Act.put, List.setIfInBounds_toArray, List.set_cons_zero, List.set_cons_succ]
    refine takeD (i := 8) (d := some 40) (v := ?_) rfl rfl (by kernel_rfl) (by kernel_rfl) (by kernel_rfl) (fun _ _ _ h => h) (Or.inl ⟨by rfl, ?_⟩) (by assumption) ?_
    rotate_left
    · intro w hSw
      go_simp
      try (with_reducible rfl)
    try simp only [Act.put, List.setIfInBounds_toArray, List.set_cons_zero, List.set_cons_succ]
    refine wpAnyH_ready (rs := [9]) (by kernel_rfl) (by simp) ?_
    refine AllReadyH.cons rfl (fun K hK => ?_) AllReadyH.nil
    go_simp
    refine (CW3 _).mono ?_
    rintro e wv ⟨rfl, hwv⟩
    replace hwv := hwv.symm
    subst hwv
    go_wp2_with fail
    refine hK.out _ _ hHeld (fun hHeld => ?_)
    clear hK K
    try simp only [Act.put, List.setIfInBounds_toArray, List.set_cons_zero, List.set_cons_succ]
    refine wpAnyH_ready (rs := [10]) (by kernel_rfl) (by simp) ?_
    refine AllReadyH.cons rfl (fun K hK => ?_) AllReadyH.nil
    go_simp
    refine (need_no (k : Int) 0 15 _).mono ?_
    rintro e w3 ⟨rfl, hb⟩
    have hN := chain hN hb
    exact ⟨rfl, upE_of2 HE.out (by decide), chain hb02 hN⟩
  | true =>
  rw [q3] at CW3
  have HH3 := hide (show he = (if inB lo ar 16 = false then 13 else if inB cn 1 256 = false then 3 else 0) by rw [HH2.out, q3]; rfl)
  clear HH2
  refine wp_region_noPanic ?_
  have hN : Below w2.heap.size w2 w2.drew := (Below.refl _ _).drew
  refine wp_region_held_drew (S := fun W => W.cell? ⟨wb, 1, none⟩ = some (.int .i64 ar) ∧ W.cell? ⟨wb, 4, none⟩ = some (.int .i64 (k : Int)) ∧ W.cell? ⟨wb, 5, none⟩ = some (.int .i64 0)) (by kernel_rfl) (⟨keep_cell x1 hN, keep_cell x4 hN, keep_cell x5 hN⟩) (fun hHeld => ?_)
  refine takeD (i := 0) (d := some 32) (v := ?_) rfl rfl (by kernel_rfl) (by kernel_rfl) (by kernel_rfl) (fun _ _ _ h => h) (Or.inl ⟨by rfl, ?_⟩) (by assumption) ?_
  rotate_left
  · intro w hSw
    go_simp
    try (with_reducible rfl)
  try simp only [Act.put, List.setIfInBounds_toArray, List.set_cons_zero, List.set_cons_succ]
  refine takeD (i := 1) (d := some 33) (v := ?_) rfl rfl (by kernel_rfl) (by kernel_rfl) (by kernel_rfl) (fun _ _ _ h => h) (Or.inl ⟨by rfl, ?_⟩) (by assumption) ?_
  rotate_left
  · intro w hSw
    go_simp
    try (with_reducible rfl)
  try simp only [Act.put, List.setIfInBounds_toArray, List.set_cons_zero, List.set_cons_succ]
  refine takeD (i := 2) (d := some 34) (v := ?_) rfl rfl (by kernel_rfl) (by kernel_rfl) (by kernel_rfl) (fun _ _ _ h => h) (Or.inl ⟨by rfl, ?_⟩) (by assumption) ?_
  rotate_left
  · intro w hSw
    go_simp
    try (with_reducible rfl)
  try simp only [Act.put, List.setIfInBounds_toArray, List.set_cons_zero, List.set_cons_succ]
  refine takeD (i := 3) (d := some 35) (v := ?_) rfl rfl (by kernel_rfl) (by kernel_rfl) (by kernel_rfl) (fun _ _ _ h => h) (Or.inl ⟨by rfl, ?_⟩) (by assumption) ?_
  rotate_left
  · intro w hSw
    go_simp
    try (with_reducible rfl)
  try simp only [Act.put, List.setIfInBounds_toArray, List.set_cons_zero, List.set_cons_succ]
  refine takeD (i := 4) (d := some 36) (v := ?_) rfl rfl (by kernel_rfl) (by kernel_rfl) (by kernel_rfl) (fun _ _ _ h => h) (Or.inl ⟨by rfl, ?_⟩) (by assumption) ?_
  rotate_left
  · intro w hSw
    go_simp
    try (with_reducible rfl)
  try simp only [Act.put, List.setIfInBounds_toArray, List.set_cons_zero, List.set_cons_succ]
  refine takeD (i := 5) (d := some 37) (v := ?_) rfl rfl (by kernel_rfl) (by kernel_rfl) (by kernel_rfl) (fun _ _ _ h => h) (Or.inl ⟨by rfl, ?_⟩) (by assumption) ?_
  rotate_left
  · intro w hSw
    go_simp
    try (with_reducible rfl)
  try simp only [Act.put, List.setIfInBounds_toArray, List.set_cons_zero, List.set_cons_succ]
  refine takeD (i := 6) (d := some 38) (v := ?_) rfl rfl (by kernel_rfl) (by kernel_rfl) (by kernel_rfl) (fun _ _ _ h => h) (Or.inl ⟨by rfl, ?_⟩) (by assumption) ?_
  rotate_left
  · intro w hSw
    go_simp
    try (with_reducible rfl)
  try simp only [Act.put, List.setIfInBounds_toArray, List.set_cons_zero, List.set_cons_succ]
  refine takeD (i := 7) (d := some 39) (v := ?_) rfl rfl (by kernel_rfl) (by kernel_rfl) (by kernel_rfl) (fun _ _ _ h => h) (Or.inl ⟨by rfl, ?_⟩) (by assumption) ?_
  rotate_left
  · intro w hSw
    go_simp
    try (with_reducible rfl)
  try simp only [Act.put, List.setIfInBounds_toArray, List.set_cons_zero, List.set_cons_succ]
  refine takeD (i := 8) (d := some 40) (v := ?_) rfl rfl (by kernel_rfl) (by kernel_rfl) (by kernel_rfl) (fun _ _ _ h => h) (Or.inl ⟨by rfl, ?_⟩) (by assumption) ?_
  rotate_left
  · intro w hSw
    go_simp
    try (with_reducible rfl)
  try simp only [Act.put, List.setIfInBounds_toArray, List.set_cons_zero, List.set_cons_succ]
  refine wpAnyH_ready (rs := [9]) (by kernel_rfl) (by simp) ?_
  refine AllReadyH.cons rfl (fun K hK => ?_) AllReadyH.nil
  go_simp
  refine (CW3 _).mono ?_
  rintro e wv ⟨rfl, hwv⟩
  replace hwv := hwv.symm
  subst hwv
  go_wp2_with fail
  refine hK.out _ _ hHeld (fun hHeld => ?_)
  clear hK K
  try simp only [Act.put, List.setIfInBounds_toArray, List.set_cons_zero, List.set_cons_succ]
  refine wpAnyH_ready (rs := [10]) (by kernel_rfl) (by simp) ?_
  refine AllReadyH.cons rfl (fun K hK => ?_) AllReadyH.nil
  go_simp
  refine (need_yes (k : Int) 0 15 _).mono ?_
  rintro e w3 ⟨rfl, hb⟩
  have hN := chain hN hb
  go_wp2_with fail
  clear hHeld
  refine hK.out _ _ (⟨keep_cell x1 hN, keep_cell x4 hN, keep_cell x5 hN⟩) (fun hHeld => ?_)
  clear hK K
  try simp only [Act.put, List.setIfInBounds_toArray, List.set_cons_zero, List.set_cons_succ]
  refine wpAnyH_done (by kernel_rfl) ?_ _
  refine NoPanic.normal ?_
  have hb03 := chain hb02 hN
  have hA3 := hA2.below hN
  clear hHeld hN hb x0 x1 x2 x3 x4 x5 x6 hb02 hA2
  have x0 : w3.cell? ⟨wb, 0, none⟩ = some (.string nm) := cell_row (i := 0) hA3 rfl
  have x1 : w3.cell? ⟨wb, 1, none⟩ = some (.int .i64 ar) := cell_row (i := 1) hA3 rfl
  have x2 : w3.cell? ⟨wb, 2, none⟩ = some (.int .i64 lo) := cell_row (i := 2) hA3 rfl
  have x3 : w3.cell? ⟨wb, 3, none⟩ = some (.slice ca cn cc) := cell_row (i := 3) hA3 rfl
  have x4 : w3.cell? ⟨wb, 4, none⟩ = some (.int .i64 (k : Int)) := cell_row (i := 4) hA3 rfl
  have x5 : w3.cell? ⟨wb, 5, none⟩ = some (.int .i64 0) := cell_row (i := 5) hA3 rfl
  have x6 : w3.cell? ⟨wb, 6, none⟩ = some (.slice (some ⟨fb, off, none⟩) nf fc) := cell_row (i := 6) hA3 rfl
  go_upto_region 4 with fail
  have CW4 := fun w => within_any lo ar 16 w
  cases q4 : inB lo ar 16 with
  | false =>
    rw [q4] at CW4
    have HE := hide (show fe = (0, 13) by have h : he = 13 := (by rw [HH3.out]; rw [q4]; rfl); rw [HFE.out, if_pos (by rw [h]; decide), h])
    have hN : Below w3.heap.size w3 w3.drew := (Below.refl _ _).drew
    refine wp_region_held_drew (S := fun W => W.cell? ⟨wb, 1, none⟩ = some (.int .i64 ar) ∧ W.cell? ⟨wb, 2, none⟩ = some (.int .i64 lo) ∧ W.cell? ⟨wb, 4, none⟩ = some (.int .i64 (k : Int)) ∧ W.cell? ⟨wb, 5, none⟩ = some (.int .i64 0)) (by kernel_rfl) (⟨keep_cell x1 hN, keep_cell x2 hN, keep_cell x4 hN, keep_cell x5 hN⟩) (fun hHeld => ?_)
    refine takeD (i := 0) (d := some 43) (v := ?_) rfl rfl (by kernel_rfl) (by kernel_rfl) (by kernel_rfl) (fun _ _ _ h => h) (Or.inl ⟨by rfl, ?_⟩) (by assumption) ?_
    rotate_left
    · intro w hSw
      go_simp
      try (with_reducible rfl)
    try simp only [Act.put, List.setIfInBounds_toArray, List.set_cons_zero, List.set_cons_succ]
    refine takeD (i := 1) (d := some 44) (v := ?_) rfl rfl (by kernel_rfl) (by kernel_rfl) (by kernel_rfl) (fun _ _ _ h => h) (Or.inl ⟨by rfl, ?_⟩) (by assumption) ?_
    rotate_left
    · intro w hSw
      go_simp
      try (with_reducible rfl)
    try simp only [Act.put, List.setIfInBounds_toArray, List.set_cons_zero, List.set_cons_succ]
    refine takeD (i := 2) (d := some 45) (v := ?_) rfl rfl (by kernel_rfl) (by kernel_rfl) (by kernel_rfl) (fun _ _ _ h => h) (Or.inl ⟨by rfl, ?_⟩) (by assumption) ?_
    rotate_left
    · intro w hSw
      go_simp
      try (with_reducible rfl)
    try simp only [Act.put, List.setIfInBounds_toArray, List.set_cons_zero, List.set_cons_succ]
    refine takeD (i := 3) (d := some 46) (v := ?_) rfl rfl (by kernel_rfl) (by kernel_rfl) (by kernel_rfl) (fun _ _ _ h => h) (Or.inl ⟨by rfl, ?_⟩) (by assumption) ?_
    rotate_left
    · intro w hSw
      go_simp
      try (with_reducible rfl)
    try simp only [Act.put, List.setIfInBounds_toArray, List.set_cons_zero, List.set_cons_succ]
    refine takeD (i := 4) (d := some 47) (v := ?_) rfl rfl (by kernel_rfl) (by kernel_rfl) (by kernel_rfl) (fun _ _ _ h => h) (Or.inl ⟨by rfl, ?_⟩) (by assumption) ?_
    rotate_left
    · intro w hSw
      go_simp
      try (with_reducible rfl)
    try simp only [Act.put, List.setIfInBounds_toArray, List.set_cons_zero, List.set_cons_succ]
    refine takeD (i := 5) (d := some 48) (v := ?_) rfl rfl (by kernel_rfl) (by kernel_rfl) (by kernel_rfl) (fun _ _ _ h => h) (Or.inl ⟨by rfl, ?_⟩) (by assumption) ?_
    rotate_left
    · intro w hSw
      go_simp
      try (with_reducible rfl)
    try simp only [Act.put, List.setIfInBounds_toArray, List.set_cons_zero, List.set_cons_succ]
    refine takeD (i := 6) (d := some 49) (v := ?_) rfl rfl (by kernel_rfl) (by kernel_rfl) (by kernel_rfl) (fun _ _ _ h => h) (Or.inl ⟨by rfl, ?_⟩) (by assumption) ?_
    rotate_left
    · intro w hSw
      go_simp
      try (with_reducible rfl)
    try simp only [Act.put, List.setIfInBounds_toArray, List.set_cons_zero, List.set_cons_succ]
    refine takeD (i := 7) (d := some 50) (v := ?_) rfl rfl (by kernel_rfl) (by kernel_rfl) (by kernel_rfl) (fun _ _ _ h => h) (Or.inl ⟨by rfl, ?_⟩) (by assumption) ?_
    rotate_left
    · intro w hSw
      go_simp
      try (with_reducible rfl)
    try simp only [Act.put, List.setIfInBounds_toArray, List.set_cons_zero, List.set_cons_succ]
    refine takeD (i := 8) (d := some 51) (v := ?_) rfl rfl (by kernel_rfl) (by kernel_rfl) (by kernel_rfl) (fun _ _ _ h => h) (Or.inl ⟨by rfl, ?_⟩) (by assumption) ?_
    rotate_left
    · intro w hSw
      go_simp
      try (with_reducible rfl)
    try simp only [Act.put, List.setIfInBounds_toArray, List.set_cons_zero, List.set_cons_succ]
    refine takeD (i := 9) (d := some 52) (v := ?_) rfl rfl (by kernel_rfl) (by kernel_rfl) (by kernel_rfl) (fun _ _ _ h => h) (Or.inl ⟨by rfl, ?_⟩) (by assumption) ?_
    rotate_left
    · intro w hSw
      go_simp
      try (with_reducible rfl)
    try simp only [Act.put, List.setIfInBounds_toArray, List.set_cons_zero, List.set_cons_succ]
    refine takeD (i := 10) (d := some 53) (v := ?_) rfl rfl (by kernel_rfl) (by kernel_rfl) (by kernel_rfl) (fun _ _ _ h => h) (Or.inl ⟨by rfl, ?_⟩) (by assumption) ?_
    rotate_left
    · intro w hSw
      go_simp
      try (with_reducible rfl)
    try simp only [Act.put, List.setIfInBounds_toArray, List.set_cons_zero, List.set_cons_succ]
    refine takeD (i := 11) (d := some 54) (v := ?_) rfl rfl (by kernel_rfl) (by kernel_rfl) (by kernel_rfl) (fun _ _ _ h => h) (Or.inl ⟨by rfl, ?_⟩) (by assumption) ?_
    rotate_left
    · intro w hSw
      go_simp
      try (with_reducible rfl)
    try simp only [Act.put, List.setIfInBounds_toArray, List.set_cons_zero, List.set_cons_succ]
    refine takeD (i := 12) (d := some 55) (v := ?_) rfl rfl (by kernel_rfl) (by kernel_rfl) (by kernel_rfl) (fun _ _ _ h => h) (Or.inl ⟨by rfl, ?_⟩) (by assumption) ?_
    rotate_left
    · intro w hSw
      go_simp
      try (with_reducible rfl)
    try simp only [Act.put, List.setIfInBounds_toArray, List.set_cons_zero, List.set_cons_succ]
    refine takeD (i := 13) (d := some 56) (v := ?_) rfl rfl (by kernel_rfl) (by kernel_rfl) (by kernel_rfl) (fun _ _ _ h => h) (Or.inl ⟨by rfl, ?_⟩) (by assumption) ?_
    rotate_left
    · intro w hSw
      go_simp
      try (with_reducible rfl)
    try simp only [Act.put, List.setIfInBounds_toArray, List.set_cons_zero, List.set_cons_succ]
    refine wpAnyH_ready (rs := [14]) (by kernel_rfl) (by simp) ?_
    refine AllReadyH.cons rfl (fun K hK => ?_) AllReadyH.nil
    go_simp
    refine (CW4 _).mono ?_
    rintro e wv ⟨rfl, hwv⟩
    replace hwv := hwv.symm
    subst hwv
    go_wp2_with fail
    refine hK.out _ _ hHeld (fun hHeld => ?_)
    clear hK K
    try simp only [Act.put, List.setIfInBounds_toArray, List.set_cons_zero, List.set_cons_succ]
    refine wpAnyH_ready (rs := [15]) (by kernel_rfl) (by simp) ?_
    refine AllReadyH.cons rfl (fun K hK => ?_) AllReadyH.nil
    go_simp
    refine (need_no (k : Int) 0 13 _).mono ?_
    rintro e w4 ⟨rfl, hb⟩
    have hN := chain hN hb
    exact ⟨rfl, upE_of2 HE.out (by decide), chain hb03 hN⟩
  | true =>
  rw [q4] at CW4
  have HH4 := hide (show he = (if inB cn 1 256 = false then 3 else 0) by rw [HH3.out, q4]; rfl)
  clear HH3
  refine wp_region_noPanic ?_
  have hN : Below w3.heap.size w3 w3.drew := (Below.refl _ _).drew
  refine wp_region_held_drew (S := fun W => W.cell? ⟨wb, 1, none⟩ = some (.int .i64 ar) ∧ W.cell? ⟨wb, 2, none⟩ = some (.int .i64 lo) ∧ W.cell? ⟨wb, 4, none⟩ = some (.int .i64 (k : Int)) ∧ W.cell? ⟨wb, 5, none⟩ = some (.int .i64 0)) (by kernel_rfl) (⟨keep_cell x1 hN, keep_cell x2 hN, keep_cell x4 hN, keep_cell x5 hN⟩) (fun hHeld => ?_)
  refine takeD (i := 0) (d := some 43) (v := ?_) rfl rfl (by kernel_rfl) (by kernel_rfl) (by kernel_rfl) (fun _ _ _ h => h) (Or.inl ⟨by rfl, ?_⟩) (by assumption) ?_
  rotate_left
  · intro w hSw
    go_simp
    try (with_reducible rfl)
  try simp only [Act.put, List.setIfInBounds_toArray, List.set_cons_zero, List.set_cons_succ]
  refine takeD (i := 1) (d := some 44) (v := ?_) rfl rfl (by kernel_rfl) (by kernel_rfl) (by kernel_rfl) (fun _ _ _ h => h) (Or.inl ⟨by rfl, ?_⟩) (by assumption) ?_
  rotate_left
  · intro w hSw
    go_simp
    try (with_reducible rfl)
  try simp only [Act.put, List.setIfInBounds_toArray, List.set_cons_zero, List.set_cons_succ]
  refine takeD (i := 2) (d := some 45) (v := ?_) rfl rfl (by kernel_rfl) (by kernel_rfl) (by kernel_rfl) (fun _ _ _ h => h) (Or.inl ⟨by rfl, ?_⟩) (by assumption) ?_
  rotate_left
  · intro w hSw
    go_simp
    try (with_reducible rfl)
  try simp only [Act.put, List.setIfInBounds_toArray, List.set_cons_zero, List.set_cons_succ]
  refine takeD (i := 3) (d := some 46) (v := ?_) rfl rfl (by kernel_rfl) (by kernel_rfl) (by kernel_rfl) (fun _ _ _ h => h) (Or.inl ⟨by rfl, ?_⟩) (by assumption) ?_
  rotate_left
  · intro w hSw
    go_simp
    try (with_reducible rfl)
  try simp only [Act.put, List.setIfInBounds_toArray, List.set_cons_zero, List.set_cons_succ]
  refine takeD (i := 4) (d := some 47) (v := ?_) rfl rfl (by kernel_rfl) (by kernel_rfl) (by kernel_rfl) (fun _ _ _ h => h) (Or.inl ⟨by rfl, ?_⟩) (by assumption) ?_
  rotate_left
  · intro w hSw
    go_simp
    try (with_reducible rfl)
  try simp only [Act.put, List.setIfInBounds_toArray, List.set_cons_zero, List.set_cons_succ]
  refine takeD (i := 5) (d := some 48) (v := ?_) rfl rfl (by kernel_rfl) (by kernel_rfl) (by kernel_rfl) (fun _ _ _ h => h) (Or.inl ⟨by rfl, ?_⟩) (by assumption) ?_
  rotate_left
  · intro w hSw
    go_simp
    try (with_reducible rfl)
  try simp only [Act.put, List.setIfInBounds_toArray, List.set_cons_zero, List.set_cons_succ]
  refine takeD (i := 6) (d := some 49) (v := ?_) rfl rfl (by kernel_rfl) (by kernel_rfl) (by kernel_rfl) (fun _ _ _ h => h) (Or.inl ⟨by rfl, ?_⟩) (by assumption) ?_
  rotate_left
  · intro w hSw
    go_simp
    try (with_reducible rfl)
  try simp only [Act.put, List.setIfInBounds_toArray, List.set_cons_zero, List.set_cons_succ]
  refine takeD (i := 7) (d := some 50) (v := ?_) rfl rfl (by kernel_rfl) (by kernel_rfl) (by kernel_rfl) (fun _ _ _ h => h) (Or.inl ⟨by rfl, ?_⟩) (by assumption) ?_
  rotate_left
  · intro w hSw
    go_simp
    try (with_reducible rfl)
  try simp only [Act.put, List.setIfInBounds_toArray, List.set_cons_zero, List.set_cons_succ]
  refine takeD (i := 8) (d := some 51) (v := ?_) rfl rfl (by kernel_rfl) (by kernel_rfl) (by kernel_rfl) (fun _ _ _ h => h) (Or.inl ⟨by rfl, ?_⟩) (by assumption) ?_
  rotate_left
  · intro w hSw
    go_simp
    try (with_reducible rfl)
  try simp only [Act.put, List.setIfInBounds_toArray, List.set_cons_zero, List.set_cons_succ]
  refine takeD (i := 9) (d := some 52) (v := ?_) rfl rfl (by kernel_rfl) (by kernel_rfl) (by kernel_rfl) (fun _ _ _ h => h) (Or.inl ⟨by rfl, ?_⟩) (by assumption) ?_
  rotate_left
  · intro w hSw
    go_simp
    try (with_reducible rfl)
  try simp only [Act.put, List.setIfInBounds_toArray, List.set_cons_zero, List.set_cons_succ]
  refine takeD (i := 10) (d := some 53) (v := ?_) rfl rfl (by kernel_rfl) (by kernel_rfl) (by kernel_rfl) (fun _ _ _ h => h) (Or.inl ⟨by rfl, ?_⟩) (by assumption) ?_
  rotate_left
  · intro w hSw
    go_simp
    try (with_reducible rfl)
  try simp only [Act.put, List.setIfInBounds_toArray, List.set_cons_zero, List.set_cons_succ]
  refine takeD (i := 11) (d := some 54) (v := ?_) rfl rfl (by kernel_rfl) (by kernel_rfl) (by kernel_rfl) (fun _ _ _ h => h) (Or.inl ⟨by rfl, ?_⟩) (by assumption) ?_
  rotate_left
  · intro w hSw
    go_simp
    try (with_reducible rfl)
  try simp only [Act.put, List.setIfInBounds_toArray, List.set_cons_zero, List.set_cons_succ]
  refine takeD (i := 12) (d := some 55) (v := ?_) rfl rfl (by kernel_rfl) (by kernel_rfl) (by kernel_rfl) (fun _ _ _ h => h) (Or.inl ⟨by rfl, ?_⟩) (by assumption) ?_
  rotate_left
  · intro w hSw
    go_simp
    try (with_reducible rfl)
  try simp only [Act.put, List.setIfInBounds_toArray, List.set_cons_zero, List.set_cons_succ]
  refine takeD (i := 13) (d := some 56) (v := ?_) rfl rfl (by kernel_rfl) (by kernel_rfl) (by kernel_rfl) (fun _ _ _ h => h) (Or.inl ⟨by rfl, ?_⟩) (by assumption) ?_
  rotate_left
  · intro w hSw
    go_simp
    try (with_reducible rfl)
  try simp only [Act.put, List.setIfInBounds_toArray, List.set_cons_zero, List.set_cons_succ]
  refine wpAnyH_ready (rs := [14]) (by kernel_rfl) (by simp) ?_
  refine AllReadyH.cons rfl (fun K hK => ?_) AllReadyH.nil
  go_simp
  refine (CW4 _).mono ?_
  rintro e wv ⟨rfl, hwv⟩
  replace hwv := hwv.symm
  subst hwv
  go_wp2_with fail
  refine hK.out _ _ hHeld (fun hHeld => ?_)
  clear hK K
  try simp only [Act.put, List.setIfInBounds_toArray, List.set_cons_zero, List.set_cons_succ]
  refine wpAnyH_ready (rs := [15]) (by kernel_rfl) (by simp) ?_
  refine AllReadyH.cons rfl (fun K hK => ?_) AllReadyH.nil
  go_simp
  refine (need_yes (k : Int) 0 13 _).mono ?_
  rintro e w4 ⟨rfl, hb⟩
  have hN := chain hN hb
  go_wp2_with fail
  clear hHeld
  refine hK.out _ _ (⟨keep_cell x1 hN, keep_cell x2 hN, keep_cell x4 hN, keep_cell x5 hN⟩) (fun hHeld => ?_)
  clear hK K
  try simp only [Act.put, List.setIfInBounds_toArray, List.set_cons_zero, List.set_cons_succ]
  refine wpAnyH_done (by kernel_rfl) ?_ _
  refine NoPanic.normal ?_
  have hb04 := chain hb03 hN
  have hA4 := hA3.below hN
  clear hHeld hN hb x0 x1 x2 x3 x4 x5 x6 hb03 hA3
  have x0 : w4.cell? ⟨wb, 0, none⟩ = some (.string nm) := cell_row (i := 0) hA4 rfl
  have x1 : w4.cell? ⟨wb, 1, none⟩ = some (.int .i64 ar) := cell_row (i := 1) hA4 rfl
  have x2 : w4.cell? ⟨wb, 2, none⟩ = some (.int .i64 lo) := cell_row (i := 2) hA4 rfl
  have x3 : w4.cell? ⟨wb, 3, none⟩ = some (.slice ca cn cc) := cell_row (i := 3) hA4 rfl
  have x4 : w4.cell? ⟨wb, 4, none⟩ = some (.int .i64 (k : Int)) := cell_row (i := 4) hA4 rfl
  have x5 : w4.cell? ⟨wb, 5, none⟩ = some (.int .i64 0) := cell_row (i := 5) hA4 rfl
  have x6 : w4.cell? ⟨wb, 6, none⟩ = some (.slice (some ⟨fb, off, none⟩) nf fc) := cell_row (i := 6) hA4 rfl
  go_upto_region 5 with fail
  have CW5 := fun w => within_any (cn : Int) 1 256 w
  cases q5 : inB (cn : Int) 1 256 with
  | false =>
    rw [q5] at CW5
    have HE := hide (show fe = (0, 3) by have h : he = 3 := (by rw [HH4.out]; rw [q5]; rfl); rw [HFE.out, if_pos (by rw [h]; decide), h])
    have hN : Below w4.heap.size w4 w4.drew := (Below.refl _ _).drew
    refine wp_region_held_drew (S := fun W => W.cell? ⟨wb, 3, none⟩ = some (.slice ca cn cc) ∧ W.cell? ⟨wb, 4, none⟩ = some (.int .i64 (k : Int)) ∧ W.cell? ⟨wb, 5, none⟩ = some (.int .i64 0)) (by kernel_rfl) (⟨keep_cell x3 hN, keep_cell x4 hN, keep_cell x5 hN⟩) (fun hHeld => ?_)
    refine takeD (i := 0) (d := some 59) (v := ?_) rfl rfl (by kernel_rfl) (by kernel_rfl) (by kernel_rfl) (fun _ _ _ h => h) (Or.inl ⟨by rfl, ?_⟩) (by assumption) ?_
    rotate_left
    · intro w hSw
      go_simp
      try (with_reducible rfl)
    try simp only [Act.put, List.setIfInBounds_toArray, List.set_cons_zero, List.set_cons_succ]
    refine takeD (i := 1) (d := some 60) (v := ?_) rfl rfl (by kernel_rfl) (by kernel_rfl) (by kernel_rfl) (fun _ _ _ h => h) (Or.inl ⟨by rfl, ?_⟩) (by assumption) ?_
    rotate_left
    · intro w hSw
      go_simp
      try (with_reducible rfl)
    try simp only [Act.put, List.setIfInBounds_toArray, List.set_cons_zero, List.set_cons_succ]
    refine takeD (i := 2) (d := some 61) (v := ?_) rfl rfl (by kernel_rfl) (by kernel_rfl) (by kernel_rfl) (fun _ _ _ h => h) (Or.inl ⟨by rfl, ?_⟩) (by assumption) ?_
    rotate_left
    · intro w hSw
      go_simp
      try (with_reducible rfl)
    try simp only [Act.put, List.setIfInBounds_toArray, List.set_cons_zero, List.set_cons_succ]
    refine takeD (i := 3) (d := some 62) (v := ?_) rfl rfl (by kernel_rfl) (by kernel_rfl) (by kernel_rfl) (fun _ _ _ h => h) (Or.inl ⟨by rfl, ?_⟩) (by assumption) ?_
    rotate_left
    · intro w hSw
      go_simp
      try (with_reducible rfl)
    try simp only [Act.put, List.setIfInBounds_toArray, List.set_cons_zero, List.set_cons_succ]
    refine takeD (i := 4) (d := some 63) (v := ?_) rfl rfl (by kernel_rfl) (by kernel_rfl) (by kernel_rfl) (fun _ _ _ h => h) (Or.inl ⟨by rfl, ?_⟩) (by assumption) ?_
    rotate_left
    · intro w hSw
      go_simp
      try (with_reducible rfl)
    try simp only [Act.put, List.setIfInBounds_toArray, List.set_cons_zero, List.set_cons_succ]
    refine takeD (i := 5) (d := some 64) (v := ?_) rfl rfl (by kernel_rfl) (by kernel_rfl) (by kernel_rfl) (fun _ _ _ h => h) (Or.inl ⟨by rfl, ?_⟩) (by assumption) ?_
    rotate_left
    · intro w hSw
      go_simp
      try (with_reducible rfl)
    try simp only [Act.put, List.setIfInBounds_toArray, List.set_cons_zero, List.set_cons_succ]
    refine takeD (i := 6) (d := some 65) (v := ?_) rfl rfl (by kernel_rfl) (by kernel_rfl) (by kernel_rfl) (fun _ _ _ h => h) (Or.inl ⟨by rfl, ?_⟩) (by assumption) ?_
    rotate_left
    · intro w hSw
      go_simp
      try (with_reducible rfl)
    try simp only [Act.put, List.setIfInBounds_toArray, List.set_cons_zero, List.set_cons_succ]
    refine takeD (i := 7) (d := some 66) (v := ?_) rfl rfl (by kernel_rfl) (by kernel_rfl) (by kernel_rfl) (fun _ _ _ h => h) (Or.inl ⟨by rfl, ?_⟩) (by assumption) ?_
    rotate_left
    · intro w hSw
      go_simp
      try (with_reducible rfl)
    try simp only [Act.put, List.setIfInBounds_toArray, List.set_cons_zero, List.set_cons_succ]
    refine takeD (i := 8) (d := some 67) (v := ?_) rfl rfl (by kernel_rfl) (by kernel_rfl) (by kernel_rfl) (fun _ _ _ h => h) (Or.inl ⟨by rfl, ?_⟩) (by assumption) ?_
    rotate_left
    · intro w hSw
      go_simp
      try (with_reducible rfl)
    try simp only [Act.put, List.setIfInBounds_toArray, List.set_cons_zero, List.set_cons_succ]
    refine takeD (i := 9) (d := some 68) (v := ?_) rfl rfl (by kernel_rfl) (by kernel_rfl) (by kernel_rfl) (fun _ _ _ h => h) (Or.inl ⟨by rfl, ?_⟩) (by assumption) ?_
    rotate_left
    · intro w hSw
      go_simp
      try (with_reducible rfl)
    try simp only [Act.put, List.setIfInBounds_toArray, List.set_cons_zero, List.set_cons_succ]
    refine wpAnyH_ready (rs := [10]) (by kernel_rfl) (by simp) ?_
    refine AllReadyH.cons rfl (fun K hK => ?_) AllReadyH.nil
    go_simp
    refine (CW5 _).mono ?_
    rintro e wv ⟨rfl, hwv⟩
    replace hwv := hwv.symm
    subst hwv
    go_wp2_with fail
    refine hK.out _ _ hHeld (fun hHeld => ?_)
    clear hK K
    try simp only [Act.put, List.setIfInBounds_toArray, List.set_cons_zero, List.set_cons_succ]
    refine wpAnyH_ready (rs := [11]) (by kernel_rfl) (by simp) ?_
    refine AllReadyH.cons rfl (fun K hK => ?_) AllReadyH.nil
    go_simp
    refine (need_no (k : Int) 0 3 _).mono ?_
    rintro e w5 ⟨rfl, hb⟩
    have hN := chain hN hb
    exact ⟨rfl, upE_of2 HE.out (by decide), chain hb04 hN⟩
  | true =>
  rw [q5] at CW5
  have HH5 := hide (show he = 0 by rw [HH4.out, q5]; rfl)
  clear HH4
  refine wp_region_noPanic ?_
  have hN : Below w4.heap.size w4 w4.drew := (Below.refl _ _).drew
  refine wp_region_held_drew (S := fun W => W.cell? ⟨wb, 3, none⟩ = some (.slice ca cn cc) ∧ W.cell? ⟨wb, 4, none⟩ = some (.int .i64 (k : Int)) ∧ W.cell? ⟨wb, 5, none⟩ = some (.int .i64 0)) (by kernel_rfl) (⟨keep_cell x3 hN, keep_cell x4 hN, keep_cell x5 hN⟩) (fun hHeld => ?_)
  refine takeD (i := 0) (d := some 59) (v := ?_) rfl rfl (by kernel_rfl) (by kernel_rfl) (by kernel_rfl) (fun _ _ _ h => h) (Or.inl ⟨by rfl, ?_⟩) (by assumption) ?_
  rotate_left
  · intro w hSw
    go_simp
    try (with_reducible rfl)
  try simp only [Act.put, List.setIfInBounds_toArray, List.set_cons_zero, List.set_cons_succ]
  refine takeD (i := 1) (d := some 60) (v := ?_) rfl rfl (by kernel_rfl) (by kernel_rfl) (by kernel_rfl) (fun _ _ _ h => h) (Or.inl ⟨by rfl, ?_⟩) (by assumption) ?_
  rotate_left
  · intro w hSw
    go_simp
    try (with_reducible rfl)
  try simp only [Act.put, List.setIfInBounds_toArray, List.set_cons_zero, List.set_cons_succ]
  refine takeD (i := 2) (d := some 61) (v := ?_) rfl rfl (by kernel_rfl) (by kernel_rfl) (by kernel_rfl) (fun _ _ _ h => h) (Or.inl ⟨by rfl, ?_⟩) (by assumption) ?_
  rotate_left
  · intro w hSw
    go_simp
    try (with_reducible rfl)
  try simp only [Act.put, List.setIfInBounds_toArray, List.set_cons_zero, List.set_cons_succ]
  refine takeD (i := 3) (d := some 62) (v := ?_) rfl rfl (by kernel_rfl) (by kernel_rfl) (by kernel_rfl) (fun _ _ _ h => h) (Or.inl ⟨by rfl, ?_⟩) (by assumption) ?_
  rotate_left
  · intro w hSw
    go_simp
    try (with_reducible rfl)
  try simp only [Act.put, List.setIfInBounds_toArray, List.set_cons_zero, List.set_cons_succ]
  refine takeD (i := 4) (d := some 63) (v := ?_) rfl rfl (by kernel_rfl) (by kernel_rfl) (by kernel_rfl) (fun _ _ _ h => h) (Or.inl ⟨by rfl, ?_⟩) (by assumption) ?_
  rotate_left
  · intro w hSw
    go_simp
    try (with_reducible rfl)
  try simp only [Act.put, List.setIfInBounds_toArray, List.set_cons_zero, List.set_cons_succ]
  refine takeD (i := 5) (d := some 64) (v := ?_) rfl rfl (by kernel_rfl) (by kernel_rfl) (by kernel_rfl) (fun _ _ _ h => h) (Or.inl ⟨by rfl, ?_⟩) (by assumption) ?_
  rotate_left
  · intro w hSw
    go_simp
    try (with_reducible rfl)
  try simp only [Act.put, List.setIfInBounds_toArray, List.set_cons_zero, List.set_cons_succ]
  refine takeD (i := 6) (d := some 65) (v := ?_) rfl rfl (by kernel_rfl) (by kernel_rfl) (by kernel_rfl) (fun _ _ _ h => h) (Or.inl ⟨by rfl, ?_⟩) (by assumption) ?_
  rotate_left
  · intro w hSw
    go_simp
    try (with_reducible rfl)
  try simp only [Act.put, List.setIfInBounds_toArray, List.set_cons_zero, List.set_cons_succ]
  refine takeD (i := 7) (d := some 66) (v := ?_) rfl rfl (by kernel_rfl) (by kernel_rfl) (by kernel_rfl) (fun _ _ _ h => h) (Or.inl ⟨by rfl, ?_⟩) (by assumption) ?_
  rotate_left
  · intro w hSw
    go_simp
    try (with_reducible rfl)
  try simp only [Act.put, List.setIfInBounds_toArray, List.set_cons_zero, List.set_cons_succ]
  refine takeD (i := 8) (d := some 67) (v := ?_) rfl rfl (by kernel_rfl) (by kernel_rfl) (by kernel_rfl) (fun _ _ _ h => h) (Or.inl ⟨by rfl, ?_⟩) (by assumption) ?_
  rotate_left
  · intro w hSw
    go_simp
    try (with_reducible rfl)
  try simp only [Act.put, List.setIfInBounds_toArray, List.set_cons_zero, List.set_cons_succ]
  refine takeD (i := 9) (d := some 68) (v := ?_) rfl rfl (by kernel_rfl) (by kernel_rfl) (by kernel_rfl) (fun _ _ _ h => h) (Or.inl ⟨by rfl, ?_⟩) (by assumption) ?_
  rotate_left
  · intro w hSw
    go_simp
    try (with_reducible rfl)
  try simp only [Act.put, List.setIfInBounds_toArray, List.set_cons_zero, List.set_cons_succ]
  refine wpAnyH_ready (rs := [10]) (by kernel_rfl) (by simp) ?_
  refine AllReadyH.cons rfl (fun K hK => ?_) AllReadyH.nil
  go_simp
  refine (CW5 _).mono ?_
  rintro e wv ⟨rfl, hwv⟩
  replace hwv := hwv.symm
  subst hwv
  go_wp2_with fail
  refine hK.out _ _ hHeld (fun hHeld => ?_)
  clear hK K
  try simp only [Act.put, List.setIfInBounds_toArray, List.set_cons_zero, List.set_cons_succ]
  refine wpAnyH_ready (rs := [11]) (by kernel_rfl) (by simp) ?_
  refine AllReadyH.cons rfl (fun K hK => ?_) AllReadyH.nil
  go_simp
  refine (need_yes (k : Int) 0 3 _).mono ?_
  rintro e w5 ⟨rfl, hb⟩
  have hN := chain hN hb
  go_wp2_with fail
  clear hHeld
  refine hK.out _ _ (⟨keep_cell x3 hN, keep_cell x4 hN, keep_cell x5 hN⟩) (fun hHeld => ?_)
  clear hK K
  try simp only [Act.put, List.setIfInBounds_toArray, List.set_cons_zero, List.set_cons_succ]
  refine wpAnyH_done (by kernel_rfl) ?_ _
  refine NoPanic.normal ?_
  have hb05 := chain hb04 hN
  have hA5 := hA4.below hN
  clear hHeld hN hb x0 x1 x2 x3 x4 x5 x6 hb04 hA4
  have x0 : w5.cell? ⟨wb, 0, none⟩ = some (.string nm) := cell_row (i := 0) hA5 rfl
  have x1 : w5.cell? ⟨wb, 1, none⟩ = some (.int .i64 ar) := cell_row (i := 1) hA5 rfl
  have x2 : w5.cell? ⟨wb, 2, none⟩ = some (.int .i64 lo) := cell_row (i := 2) hA5 rfl
  have x3 : w5.cell? ⟨wb, 3, none⟩ = some (.slice ca cn cc) := cell_row (i := 3) hA5 rfl
  have x4 : w5.cell? ⟨wb, 4, none⟩ = some (.int .i64 (k : Int)) := cell_row (i := 4) hA5 rfl
  have x5 : w5.cell? ⟨wb, 5, none⟩ = some (.int .i64 0) := cell_row (i := 5) hA5 rfl
  have x6 : w5.cell? ⟨wb, 6, none⟩ = some (.slice (some ⟨fb, off, none⟩) nf fc) := cell_row (i := 6) hA5 rfl
  have hlo : 0 ≤ lo ∧ lo ≤ 16 := by simp [inB] at q3 q4; omega
  have hcn : 1 ≤ cn ∧ cn ≤ 256 := by simp [inB] at q5; omega
  clear q3 q4 q5 CW3 CW4 CW5 x0 x1 x2 x3 x4 x5 x6
  have HFE2 := hide (show fe = (if (insFrom lo cn nf 0 code).2 ≠ 0 then insFrom lo cn nf 0 code else match depthsL (fs.map Fun.args) code with | .error q => q | .ok _ => (0, 0)) by rw [HFE.out, if_neg (by rw [HH5.out]; simp)])
  clear HFE HH5
  have HST : Hid (∀ W, Below w.heap.size w W → Tab W ∧ AReads W (some ⟨fb, off, none⟩) (fs.map Fun.args) ∧ Reads W ca (insV code)) := fun W hb => ⟨(HEN.out W hb).tab, HAR.out W hb, HCR.out W hb ca cn cc HR1.out⟩
  clear HEN HAR HCR HR1 HJ
  have hBs5 := hb05.size
  have C35 := instrs_any w.heap.size wb _ code w5 hA5 hlw (by show -9223372036854775808 < lo ∧ lo ≤ 9223372036854775807; omega) (by show cn ≤ 1000000000; omega) (by show nf ≤ 1000000000; omega) HCL.out (fun W hW => ⟨(HST.out W (hb05.trans hW)).1, (HST.out W (hb05.trans hW)).2.2⟩)
  unfold InsPost at C35
  simp only [] at C35
  generalize insFrom lo cn nf 0 code = iq at C35 HFE2
  obtain ⟨ip, ie⟩ := iq
  simp only [] at C35 HFE2
  by_cases hie : ie = 0
  · subst hie
    rw [upE_zero] at C35
    have HFE3 := hide (show fe = (match depthsL (fs.map Fun.args) code with | .error q => q | .ok _ => (0, 0)) by rw [HFE2.out, if_neg (by simp)])
    clear HFE2
    go_wp2_with (go_at_call 69; go_must (with_reducible refine C35.mono ?_; (rintro e w6 ⟨hb6, rfl, hp6⟩); refine Hid.out ?_))
    refine Lib.hid ?_
    obtain ⟨p6, hA6⟩ := hp6 trivial
    have hb06 := hb05.trans hb6
    have C25 := depths_any w.heap.size wb _ code (fs.map Fun.args) w6 hA6 rfl hlw hb06.size hcn.1 (by show cn ≤ 1000000000; omega) HCL.out (by rw [List.length_map]; exact HNF.out.symm) (fun W hW => HST.out W (hb06.trans hW))
    clear C35 hp6 hb6 hA5 hA6
    unfold DepPost at C25
    simp only [] at C25
    cases hd : depthsL (fs.map Fun.args) code with
    | error q =>
      rw [hd] at C25 HFE3
      simp only [] at C25
      have HQ := hide (depthsL_ne hd)
      go_wp2_with (go_at_call 52; go_must (with_reducible refine C25.mono ?_; (rintro e w7 ⟨hb7, rfl⟩); refine Hid.out ?_))
      refine Lib.hid ?_
      have hb07 := hb06.trans hb7
      clear C25
      go_wp2
      exact ⟨rfl, by rw [HFE3.out, upE_ne HQ.out], hb07⟩
    | ok dd =>
      rw [hd] at C25 HFE3
      simp only [] at C25
      go_wp2_with (go_at_call 52; go_must (with_reducible refine C25.mono ?_; (rintro e w7 ⟨hb7, rfl, _⟩); refine Hid.out ?_))
      refine Lib.hid ?_
      have hb07 := hb06.trans hb7
      clear C25
      go_wp2
      go_end0
      exact ⟨by rw [HFE3.out]; rfl, hb07⟩
  · have HFE3 := hide (show fe = (ip, ie) by rw [HFE2.out, if_pos hie])
    clear HFE2
    rw [upE_ne hie] at C35
    have HIE := hide hie
    clear hie
    go_wp2_with (go_at_call 69; go_must (with_reducible refine C35.mono ?_; (rintro e w6 ⟨hb6, rfl, _⟩); refine Hid.out ?_))
    refine Lib.hid ?_
    have hb06 := hb05.trans hb6
    clear C35
    go_wp2
    exact ⟨rfl, by rw [HFE3.out, upE_ne HIE.out], hb06⟩
end Go.Proofs.YtnkfdpnommjlcaaGreatDoor
