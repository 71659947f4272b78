/- slices.Insert of one member. -/
import Derived.Test.YthjkfpcbbjmclaaWoA
import Derived.Lib.AppendZerosOnto
import Derived.Lib.Overlaps
import Derived.Deep.RegionLaw
namespace Go.Proofs.Ythjkfpcbbjmclaa
open Go.RowKit Go.ChangeShapes Go.WideShapes Go.ChangeAt Go.Deep

/-- Members are copied: all is read before anything is written. -/
theorem run_copy2 (w : World) (ty : TypeId) (g o dLen dCap : Nat) (a : Addr) (sLen sCap : Nat) (cur : Array Value) (cs : List Value) (hg : w.heap[g]? = some (.cells cur 41 (0, 0))) (hn : cs.length = Nat.min sLen dLen * 2)
    (hsrc : ∀ j v, cs[j]? = some v → w.cell? (a.add j) = some v) (hfit : o + cs.length ≤ cur.size) (h1 : ∀ v ∈ cs, v.oneCell' = true) :
    (Builtin.copy_ #[22, 22] ty #[.slice (some ⟨g, o, none⟩) dLen dCap, .slice (some a) sLen sCap]).run Try.prog w = .ok (goInt (Nat.min sLen dLen)) (w.setRow g (cur.toList.take o ++ cs ++ cur.toList.drop (o + cs.length)).toArray) := by
  have hl := run_loadCells_list (P := Try.prog) w a cs hsrc
  have hst := run_storeCells_at Try.prog g o 41 cs 0 cur w hg (by simpa using hfit) h1
  obtain ⟨i, hi, _, hz, _⟩ := info_parts Try.info41
  simp [Builtin.copy_, run_underlying Try.underlying22, Builtin.lenOf, Builtin.firstCells, sizeOf, typeInfo, hi, hz, ← hn, hl, hst]

theorem wpList_copy2 {w : World} {ops : Array Oper} {rest : List Oper} {o : Oper} {a : Act} {Q : Exit → Act → World → Prop} (hgd : o.guard = none) (d s : Operand)
    (ho : o.op = .call { callee := .builtin .copy, args := #[d, s], argTypes := #[22, 22] }) (v u : Value) (hd : a.eval d = v) (hs : a.eval s = u) {v' : Value} {w' : World}
    (hr : (Builtin.copy_ #[22, 22] o.type #[v, u]).run Try.prog w = .ok v' w') (h : wpList Try.prog ops Q rest (a.put o.dst v') w') : wpList Try.prog ops Q (o :: rest) a w := by
  refine wpList_plain hgd fun K hK => ?_
  unfold Oper.wp
  simp [execOp, ho, resolve, invoke, builtin, hd, hs, hr, Result.andThen]
  exact hK _ _ h
theorem step_copy2 {ops : Array Oper} {o : Oper} {a : Act} {w : World} {K : Act → World → Prop} {Q : Exit → Act → World → Prop} {E : Prop} (hgd : o.guard = none) (d s : Operand)
    (ho : o.op = .call { callee := .builtin .copy, args := #[d, s], argTypes := #[22, 22] }) (v u : Value) (hd : a.eval d = v) (hs : a.eval s = u) {v' : Value} {w' : World}
    (hr : (Builtin.copy_ #[22, 22] o.type #[v, u]).run Try.prog w = .ok v' w') (h : K (a.put o.dst v') w') :
    if Region.wanted o (yielded ops a.tmps) = true then Oper.wp Try.prog o a w K Q else E := by
  have hw : Region.wanted o (yielded ops a.tmps) = true := by simp [Region.wanted, hgd]
  rw [if_pos hw]
  unfold Oper.wp
  simp [execOp, ho, resolve, invoke, builtin, hd, hs, hr, Result.andThen]
  exact h
theorem wpList_append2 {w : World} {ops : Array Oper} {rest : List Oper} {o : Oper} {a : Act} {Q : Exit → Act → World → Prop} (hgd : o.guard = none) (d s : Operand)
    (ho : o.op = .call { callee := .builtin .append, args := #[d, s], argTypes := #[22, 3] }) (v u : Value) (hd : a.eval d = v) (hs : a.eval s = u) {v' : Value} {w' : World}
    (hr : (Builtin.append_ #[22, 3] o.type #[v, u]).run Try.prog w = .ok v' w') (h : wpList Try.prog ops Q rest (a.put o.dst v') w') : wpList Try.prog ops Q (o :: rest) a w := by
  refine wpList_plain hgd fun K hK => ?_
  unfold Oper.wp
  simp [execOp, ho, resolve, invoke, builtin, hd, hs, hr, Result.andThen]
  exact hK _ _ h

theorem read_one {w : World} {g2 : Nat} {m : Mb} (hm : BoxL w g2 [.int .i64 m.1, .int .i64 m.2]) : ∀ j u, (mV [m])[j]? = some u → w.cell? ⟨g2, 0 + j, none⟩ = some u := fun j u hu => by
  obtain ⟨⟨x0, x1⟩, -⟩ := hm.c2
  have hj : j < 2 := by
    rcases Nat.lt_or_ge j 2 with h | h
    · exact h
    · rw [List.getElem?_eq_none (by simp [mV]; omega)] at hu; cases hu
  have : j = 0 ∨ j = 1 := by omega
  rcases this with rfl | rfl
  · simp [mV] at hu; subst hu; exact x0
  · simp [mV] at hu; subst hu; exact x1
theorem shift_list (C D R M : List Value) (p : Nat) (hp : p + 2 ≤ C.length) : (C.take (p + 2) ++ D ++ R).take p ++ M ++ (C.take (p + 2) ++ D ++ R).drop (p + 2) = C.take p ++ (M ++ (D ++ R)) := by
  have h1 : (C.take (p + 2) ++ D ++ R).take p = C.take p := by
    rw [List.append_assoc, List.take_append_of_le_length (by rw [List.length_take]; omega), List.take_take, Nat.min_eq_left (by omega)]
  have h2 : (C.take (p + 2) ++ D ++ R).drop (p + 2) = D ++ R := by
    rw [List.append_assoc, List.drop_left' (by rw [List.length_take]; omega)]
  rw [h1, h2, List.append_assoc]
theorem ins_cells (C R : List Value) (ms : List Mb) (m : Mb) (n k : Nat) (hl : ms.length = n) (hk : k ≤ n) (ht : C.take (k * 2) = mV (ms.take k)) : (C.take (k * 2) ++ (mV [m] ++ (mV (ms.drop k) ++ R))).take ((n + 1) * 2) = mV (ms.take k ++ m :: ms.drop k) := by
  rw [ht, mV_app, mV_cons, ← List.append_assoc, ← List.append_assoc]
  rw [List.take_left' (by simp [mV_len, hl, List.length_append]; rw [Nat.min_eq_left hk]; omega)]
  simp [mV]
/-- What Insert leaves. -/
def InsPost (B : Nat) (w : World) (n k : Nat) (ms : List Mb) (m : Mb) (e : Ending) (w' : World) : Prop :=
  ∃ v, e = .returned v ∧ Own B w' v (n + 1) (ms.take k ++ m :: ms.drop k) ∧ Below B w w'

set_option linter.unusedSimpArgs false in
set_option maxRecDepth 100000 in
set_option maxHeartbeats 2000000 in
/-- At the end. -/
theorem insert_end (B : Nat) (ms : List Mb) (m : Mb) (g n c g2 : Nat) (w : World) (h : Own B w (.slice (some ⟨g, 0, none⟩) n c) n ms) (hn : n ≤ 20000) (hB : B ≤ w.heap.size) (hm : BoxL w g2 [.int .i64 m.1, .int .i64 m.2]) :
    Calls Try.prog 35 #[.slice (some ⟨g, 0, none⟩) n c, .int .i64 (n : Nat), .slice (some ⟨g2, 0, none⟩) 1 1] w (InsPost B w n n ms m) := by
  have HO := hide h
  have HBB := hide hB
  have HL := hide h.len
  have HBg := hide (show B ≤ g from h.row.choose_spec.2.2.2.2.2)
  have HR := hide (show Reads w (some ⟨g2, 0, none⟩) (mV [m]) from .inr ⟨g2, 0, rfl, read_one hm⟩)
  have hnn : ((n : Int) == (n : Int)) = true := by simp
  have kf := fun W => slice_from W g 0 n c n (Nat.le_refl _)
  unfold InsPost
  clear h hm hB
  go_enter Try.func35, Try.ntmps35
  go_wp2_with (at_builtin; go_must (refine append_m rfl (.tmp 23) (.tmp 24) rfl B (.slice (some ⟨g, 0, none⟩) n c) n ms rfl HO.out (some ⟨g2, 0, none⟩) 1 1 [m] rfl (fun h => by cases h) rfl HR.out (by omega) HBB.out ?_; intro v' w1 ho hg; have HO1 := hide ho; have HG := hide hg; clear ho hg))
  go_ret
  refine ⟨v', rfl, ?_, (Below.refl B w).grown HG.out HBB.out (fun k hk => by simp [Value.ownBlock] at hk; have := HBg.out; omega)⟩
  have e : ms.take n ++ m :: ms.drop n = ms ++ [m] := by
    rw [List.take_of_length_le (by have := HL.out; omega), List.drop_of_length_le (by have := HL.out; omega)]
  rw [e]
  exact HO1.out

set_option linter.unusedSimpArgs false in
set_option maxRecDepth 100000 in
set_option maxHeartbeats 4000000 in
/-- There is room: in place. -/
theorem insert_shift (B : Nat) (ms : List Mb) (m : Mb) (g n c k g2 : Nat) (w : World) (h : Own B w (.slice (some ⟨g, 0, none⟩) n c) n ms) (hn : n ≤ 20000) (hm : BoxL w g2 [.int .i64 m.1, .int .i64 m.2]) (hg2 : w.heap[g2]? = some (.cells #[.int .i64 m.1, .int .i64 m.2] 41 (0, 0))) (hne : g2 ≠ g) (hk : k < n) (hroom : n + 1 ≤ c) :
    Calls Try.prog 35 #[.slice (some ⟨g, 0, none⟩) n c, .int .i64 (k : Nat), .slice (some ⟨g2, 0, none⟩) 1 1] w (InsPost B w n k ms m) := by
  obtain ⟨cur, hg, hs, ht, hnc, hcm, hBg⟩ := h.row
  have hl := h.len
  have kf1 : ∀ W, (Instr.slice 22 (.slice (some ⟨g, 0, none⟩) n c) (some (.int .i64 (k : Int))) none none).run Try.prog W = .ok (.slice (some ⟨g, k * 2, none⟩) (n - k) (c - k)) W := fun W => by
    have := slice_from W g 0 n c k (by omega)
    rwa [show atm g 0 c k = ⟨g, k * 2, none⟩ by unfold atm; rw [if_neg (by omega), Nat.zero_add]] at this
  have kt : ∀ W, (Instr.slice 22 (.slice (some ⟨g, 0, none⟩) n c) none (some (.int .i64 ((n : Int) + 1))) none).run Try.prog W = .ok (.slice (some ⟨g, 0, none⟩) (n + 1) c) W := fun W => by
    rw [show ((n : Int) + 1) = ((n + 1 : Nat) : Int) by omega]; exact slice_to W _ n c (n + 1) hroom
  have kg : ∀ W, (Instr.slice 22 (.slice (some ⟨g, 0, none⟩) (n + 1) c) (some (.int .i64 ((k : Int) + 1))) none none).run Try.prog W = .ok (.slice (some ⟨g, (k + 1) * 2, none⟩) (n - k) (c - (k + 1))) W := fun W => by
    rw [show ((k : Int) + 1) = ((k + 1 : Nat) : Int) by omega]
    have := slice_from W g 0 (n + 1) c (k + 1) (by omega)
    rwa [show atm g 0 c (k + 1) = ⟨g, (k + 1) * 2, none⟩ by unfold atm; rw [if_neg (by omega), Nat.zero_add], show n + 1 - (k + 1) = n - k by omega] at this
  have kh : ∀ W, (Instr.slice 22 (.slice (some ⟨g, 0, none⟩) (n + 1) c) (some (.int .i64 (k : Int))) none none).run Try.prog W = .ok (.slice (some ⟨g, k * 2, none⟩) (n + 1 - k) (c - k)) W := fun W => by
    have := slice_from W g 0 (n + 1) c k (by omega)
    rwa [show atm g 0 c k = ⟨g, k * 2, none⟩ by unfold atm; rw [if_neg (by omega), Nat.zero_add]] at this
  have hkn : ((k : Int) == (n : Int)) = false := by rw [beq_eq_false_iff_ne]; omega
  have hgt : ¬ (c : Int) < (n : Int) + 1 := by omega
  have hwn : IntKind.i64.wrap ((n : Int) + 1) = (n : Int) + 1 := by rw [IntKind.wrap_i64]; omega
  have hwk : IntKind.i64.wrap ((k : Int) + 1) = (k : Int) + 1 := by rw [IntKind.wrap_i64]; omega
  have hov : ∀ lb cb, (callFunc 43 #[.slice (some ⟨g2, 0, none⟩) 1 1, .slice (some ⟨g, (k + 1) * 2, none⟩) lb cb]).run Try.prog w = .ok (.value (.bool false)) w := fun lb cb => by
    rw [run_callFunc_extern Try.func43 (by kernel_rfl) (by kernel_rfl) (by kernel_rfl) (e := Extern.SlicesOverlaps.overlaps #[22, 22] #[4]) (by kernel_rfl),
      Lib.run_overlaps_apart w 22 4 41 Try.underlying22 2 (fun w => by kernel_rfl) ⟨g2, 0, none⟩ ⟨g, (k + 1) * 2, none⟩ 1 1 lb cb hne 41 41 2 (c * 2) (by simp [World.shape?, hg2]) (by simp [World.shape?, hg, hs]) (by omega) (by simp [World.frozen?, hg2]) (by simp [World.frozen?, hg2])]
    rfl
  have hcs1 : ∀ j v, (mV (ms.drop k))[j]? = some v → w.cell? ⟨g, k * 2 + j, none⟩ = some v := fun j v hj => by
    rw [mV_drop, List.getElem?_drop, ← ht, List.getElem?_take] at hj
    split at hj
    · rw [cell_of_row w g _ cur 41 (0, 0) hg]; simpa using hj
    · cases hj
  obtain ⟨C1, hC1⟩ : ∃ C1, C1 = (cur.toList.take (k * 2 + 2) ++ mV (ms.drop k) ++ cur.toList.drop ((k + 1) * 2 + (mV (ms.drop k)).length)).toArray := ⟨_, rfl⟩
  have hcp1 : ∀ ty dc sc, (Builtin.copy_ #[22, 22] ty #[.slice (some ⟨g, (k + 1) * 2, none⟩) (n - k) dc, .slice (some ⟨g, k * 2, none⟩) (n + 1 - k) sc]).run Try.prog w.drew = .ok (goInt ((n - k : Nat) : Int)) (w.drew.setRow g C1) := fun ty dc sc => by
    have := run_copy2 w.drew ty g ((k + 1) * 2) (n - k) dc ⟨g, k * 2, none⟩ (n + 1 - k) sc cur (mV (ms.drop k)) hg (by rw [mV_len, List.length_drop, hl]; simp only [Nat.min_def]; split <;> omega) (fun j v hj => by rw [add_none]; exact hcs1 j v hj) (by rw [mV_len, List.length_drop, hl]; omega) (mV_one _)
    rw [this, hC1, show Nat.min (n + 1 - k) (n - k) = n - k by simp only [Nat.min_def]; split <;> omega, show (k + 1) * 2 = k * 2 + 2 by omega]
  have hg1 : (w.drew.setRow g C1).heap[g]? = some (.cells C1 41 (0, 0)) := setRow_heap w.drew g cur _ 41 _ hg
  have hmV : (mV (ms.drop k)).length = (n - k) * 2 := by rw [mV_len, List.length_drop, hl]
  have hs1 : C1.size = c * 2 := by
    rw [hC1]; simp [hmV]; omega
  have hm1 := hm.below (w' := w.drew.setRow g C1)
  obtain ⟨C2, hC2⟩ : ∃ C2, C2 = (C1.toList.take (k * 2) ++ mV [m] ++ C1.toList.drop (k * 2 + (mV [m]).length)).toArray := ⟨_, rfl⟩
  have hrd : ∀ j u, (mV [m])[j]? = some u → (w.drew.setRow g C1).cell? ⟨g2, 0 + j, none⟩ = some u := fun j u hu => by
    rw [World.cell?_of_block (w := w.drew) (a := ⟨g2, 0 + j, none⟩) (setRow_other w.drew g g2 C1 hne)]
    exact read_one hm j u hu
  have hcp2 : ∀ ty dc, (Builtin.copy_ #[22, 22] ty #[.slice (some ⟨g, k * 2, none⟩) (n + 1 - k) dc, .slice (some ⟨g2, 0, none⟩) 1 1]).run Try.prog (w.drew.setRow g C1) = .ok (goInt ((1 : Nat) : Int)) ((w.drew.setRow g C1).setRow g C2) := fun ty dc => by
    have := run_copy2 (w.drew.setRow g C1) ty g (k * 2) (n + 1 - k) dc ⟨g2, 0, none⟩ 1 1 C1 (mV [m]) hg1 (by rw [mV_len]; simp only [Nat.min_def, List.length_singleton]; split <;> omega) (fun j v hj => by rw [add_none]; exact hrd j v hj) (by rw [mV_len, hs1]; simp only [List.length_singleton]; omega) (mV_one _)
    rw [this, hC2, show Nat.min 1 (n + 1 - k) = 1 by simp only [Nat.min_def]; split <;> omega]
  have hg3 : ((w.drew.setRow g C1).setRow g C2).heap[g]? = some (.cells C2 41 (0, 0)) := setRow_heap _ g C1 _ 41 _ hg1
  have HFI := hide (show Own B ((w.drew.setRow g C1).setRow g C2) (.slice (some ⟨g, 0, none⟩) (n + 1) c) (n + 1) (ms.take k ++ m :: ms.drop k) by
    refine Own.of_row hBg hg3 ?_ hroom hcm (by simp [hl]; omega) ?_
    · rw [hC2]; simp [mV_len, hs1]; omega
    · rw [hC2, hC1]
      simp only [List.length_singleton, mV_len, Nat.one_mul]
      rw [shift_list _ _ _ _ _ (by simp [hs]; omega)]
      refine ins_cells _ _ ms m n k hl (by omega) ?_
      rw [mV_take, ← ht, List.take_take, Nat.min_eq_left (by omega)])
  have HBE := hide (show Below B w ((w.drew.setRow g C1).setRow g C2) from (show Below B w w.drew from ⟨rfl, rfl, rfl, Nat.le_refl _, fun _ _ => rfl⟩).trans ((below_row hBg C1).trans (below_row hBg C2)))
  unfold InsPost
  clear hC1 hC2 hg hg1 hg3 hs hs1 ht hrd hcs1 hm1 hm hg2 h hmV
  go_enter Try.func35, Try.ntmps35
  go_wp2_with (simp only [hov])
  go_region_law (refine step_copy2 rfl (.tmp 73) (.tmp 76) rfl _ _ (by simp [Act.eval, Act.put]) (by simp [Act.eval, Act.put]) (hcp1 _ _ _) ?_)
  generalize w.drew.setRow g C1 = W1 at hcp2 HFI HBE ⊢
  go_wp2_with (at_builtin; refine wpList_copy2 rfl (.tmp 80) (.tmp 81) rfl _ _ rfl rfl (hcp2 _ _) ?_)
  go_ret
  exact ⟨_, rfl, HFI.out, HBE.out⟩

set_option linter.unusedSimpArgs false in
set_option maxRecDepth 100000 in
set_option maxHeartbeats 4000000 in
/-- There is no room: a new row. -/
theorem insert_grow (B : Nat) (ms : List Mb) (m : Mb) (g n c k g2 : Nat) (w : World) (h : Own B w (.slice (some ⟨g, 0, none⟩) n c) n ms) (hn : n ≤ 20000) (hB : B ≤ w.heap.size) (hm : BoxL w g2 [.int .i64 m.1, .int .i64 m.2]) (hk : k < n) (hroom : c < n + 1) :
    Calls Try.prog 35 #[.slice (some ⟨g, 0, none⟩) n c, .int .i64 (k : Nat), .slice (some ⟨g2, 0, none⟩) 1 1] w (InsPost B w n k ms m) := by
  obtain ⟨cur, hg, hs, ht, hnc, hcm, hBg⟩ := h.row
  have hl := h.len
  obtain ⟨i0, hi0, hz0, hzs, hzb⟩ := info_parts Try.info41
  have kf1 : ∀ W, (Instr.slice 22 (.slice (some ⟨g, 0, none⟩) n c) (some (.int .i64 (k : Int))) none none).run Try.prog W = .ok (.slice (some ⟨g, k * 2, none⟩) (n - k) (c - k)) W := fun W => by
    have := slice_from W g 0 n c k (by omega)
    rwa [show atm g 0 c k = ⟨g, k * 2, none⟩ by unfold atm; rw [if_neg (by omega), Nat.zero_add]] at this
  have kt : ∀ W, (Instr.slice 22 (.slice (some ⟨g, 0, none⟩) n c) none (some (.int .i64 (k : Int))) none).run Try.prog W = .ok (.slice (some ⟨g, 0, none⟩) k c) W := fun W => slice_to W _ n c k (by omega)
  have hkn : ((k : Int) == (n : Int)) = false := by rw [beq_eq_false_iff_ne]; omega
  have hgt : (c : Int) < (n : Int) + 1 := by omega
  have hwn : IntKind.i64.wrap ((n : Int) + 1) = (n : Int) + 1 := by rw [IntKind.wrap_i64]; omega
  have hwk : IntKind.i64.wrap ((k : Int) + 1) = (k : Int) + 1 := by rw [IntKind.wrap_i64]; omega
  have hwd : IntKind.i64.wrap ((n : Int) + 1 - (k : Int)) = (n : Int) + 1 - (k : Int) := by rw [IntKind.wrap_i64]; omega
  have hkk : (n : Int) + 1 - (k : Int) = ((n + 1 - k : Nat) : Int) := by omega
  have hik : k + (n + 1 - k) = n + 1 := by omega
  have hgw : g < w.heap.size := by
    rcases Nat.lt_or_ge g w.heap.size with h | h
    · exact h
    · rw [Array.getElem?_eq_none h] at hg; cases hg
  have hold : (Builtin.firstCells i0.size k (.slice (some ⟨g, 0, none⟩) k c)).run Try.prog w.drew = .ok (mV (ms.take k)).toArray w.drew := by
    rw [hzs]
    refine run_firstCells_some w.drew 2 k ⟨g, 0, none⟩ k c (mV (ms.take k)) (by rw [mV_len, List.length_take, hl, Nat.min_eq_left (by omega)]) (fun j v hj => ?_)
    rw [add_none, Nat.zero_add]
    rw [mV_take, ← ht, List.take_take, Nat.min_eq_left (by omega), List.getElem?_take] at hj
    split at hj
    · rw [cell_of_row w.drew g _ cur 41 (0, 0) hg]; simpa using hj
    · cases hj
  obtain ⟨G, hG⟩ : ∃ G, G = grownCap w (n + 1) c 41 := ⟨_, rfl⟩
  obtain ⟨C0, hC0⟩ : ∃ C0, C0 = (mV (ms.take k)).toArray ++ Builtin.zeroCells (Value.agg #[.int .i64 0, .int .i64 0]).cells (n + 1 - k) ++ Builtin.zeroCells (Value.agg #[.int .i64 0, .int .i64 0]).cells (G - (n + 1)) := ⟨_, rfl⟩
  obtain ⟨W1, hW1⟩ : ∃ W1, W1 = w.drew.alloc (.cells C0 41) := ⟨_, rfl⟩
  have hrz : ∀ ty, (Builtin.append_ #[22, 3] ty #[.slice (some ⟨g, 0, none⟩) k c, .int .i64 ((n : Int) + 1 - (k : Int))]).run Try.prog w = .ok (.slice (some ⟨w.heap.size, 0, none⟩) (n + 1) G) W1 := fun ty => by
    have h := Lib.run_append_grow_zeros (P := Try.prog) w 22 3 ty 41 i0 _ .i64 .i64 Try.underlying22 Try.underlying3 hi0 hz0 (some ⟨g, 0, none⟩) k c (mV (ms.take k)) hold (n + 1 - k) (by omega) (by omega) (by omega) (by omega) (by rw [hzb]; omega) (by rw [hzb, hik]; exact growslice_fits hroom (by omega))
    rw [hik] at h
    rw [hkk, hW1, hC0, hG]
    exact h
  have hGn : n + 1 ≤ G := by rw [hG]; exact grownCap_ge w _ _ _
  have hGm : G ≤ maxLen := by rw [hG]; exact grownCap_le_maxLen w (n + 1) c 41 (by unfold maxLen; omega)
  have hC0s : C0.size = G * 2 := by rw [hC0]; simp [Builtin.zeroCells, Value.cells, mV_len, hl]; omega
  have hg1 : W1.heap[w.heap.size]? = some (.cells C0 41 (0, 0)) := by rw [hW1]; exact heap_alloc_new w.drew _
  have hb1 : Below w.heap.size w W1 := by rw [hW1]; exact (Below.refl _ _).drew.alloc (Nat.le_refl _) _
  have kg : ∀ W, (Instr.slice 22 (.slice (some ⟨w.heap.size, 0, none⟩) (n + 1) G) (some (.int .i64 ((k : Int) + 1))) none none).run Try.prog W = .ok (.slice (some ⟨w.heap.size, (k + 1) * 2, none⟩) (n - k) (G - (k + 1))) W := fun W => by
    rw [show ((k : Int) + 1) = ((k + 1 : Nat) : Int) by omega]
    have := slice_from W w.heap.size 0 (n + 1) G (k + 1) (by omega)
    rwa [show atm w.heap.size 0 G (k + 1) = ⟨w.heap.size, (k + 1) * 2, none⟩ by unfold atm; rw [if_neg (by omega), Nat.zero_add], show n + 1 - (k + 1) = n - k by omega] at this
  have kh : ∀ W, (Instr.slice 22 (.slice (some ⟨w.heap.size, 0, none⟩) (n + 1) G) (some (.int .i64 (k : Int))) none none).run Try.prog W = .ok (.slice (some ⟨w.heap.size, k * 2, none⟩) (n + 1 - k) (G - k)) W := fun W => by
    have := slice_from W w.heap.size 0 (n + 1) G k (by omega)
    rwa [show atm w.heap.size 0 G k = ⟨w.heap.size, k * 2, none⟩ by unfold atm; rw [if_neg (by omega), Nat.zero_add]] at this
  obtain ⟨C1, hC1⟩ : ∃ C1, C1 = (C0.toList.take (k * 2) ++ mV [m] ++ C0.toList.drop (k * 2 + (mV [m]).length)).toArray := ⟨_, rfl⟩
  have hrd : ∀ j u, (mV [m])[j]? = some u → W1.cell? ⟨g2, 0 + j, none⟩ = some u := fun j u hu => keep_cell (read_one hm j u hu) hb1
  have hcp1 : ∀ ty dc, (Builtin.copy_ #[22, 22] ty #[.slice (some ⟨w.heap.size, k * 2, none⟩) (n + 1 - k) dc, .slice (some ⟨g2, 0, none⟩) 1 1]).run Try.prog W1 = .ok (goInt ((1 : Nat) : Int)) (W1.setRow w.heap.size C1) := fun ty dc => by
    have := run_copy2 W1 ty w.heap.size (k * 2) (n + 1 - k) dc ⟨g2, 0, none⟩ 1 1 C0 (mV [m]) hg1 (by rw [mV_len]; simp only [Nat.min_def, List.length_singleton]; split <;> omega) (fun j v hj => by rw [add_none]; exact hrd j v hj) (by rw [mV_len, hC0s]; simp only [List.length_singleton]; omega) (mV_one _)
    rw [this, hC1, show Nat.min 1 (n + 1 - k) = 1 by simp only [Nat.min_def]; split <;> omega]
  obtain ⟨W2, hW2⟩ : ∃ W2, W2 = W1.setRow w.heap.size C1 := ⟨_, rfl⟩
  have hg2 : W2.heap[w.heap.size]? = some (.cells C1 41 (0, 0)) := by rw [hW2]; exact setRow_heap W1 w.heap.size C0 _ 41 _ hg1
  have hb2 : Below w.heap.size w W2 := by rw [hW2]; exact hb1.trans (below_row (Nat.le_refl _) C1)
  rw [← hW2] at hcp1
  have hC1s : C1.size = G * 2 := by rw [hC1]; simp [mV_len, hC0s]; omega
  have hmV : (mV (ms.drop k)).length = (n - k) * 2 := by rw [mV_len, List.length_drop, hl]
  have hcs1 : ∀ j v, (mV (ms.drop k))[j]? = some v → W2.cell? ⟨g, k * 2 + j, none⟩ = some v := fun j v hj => by
    refine keep_cell (w := w) ?_ hb2
    rw [mV_drop, List.getElem?_drop, ← ht, List.getElem?_take] at hj
    split at hj
    · rw [cell_of_row w g _ cur 41 (0, 0) hg]; simpa using hj
    · cases hj
  obtain ⟨C2, hC2⟩ : ∃ C2, C2 = (C1.toList.take ((k + 1) * 2) ++ mV (ms.drop k) ++ C1.toList.drop ((k + 1) * 2 + (mV (ms.drop k)).length)).toArray := ⟨_, rfl⟩
  have hcp2 : ∀ ty dc sc, (Builtin.copy_ #[22, 22] ty #[.slice (some ⟨w.heap.size, (k + 1) * 2, none⟩) (n - k) dc, .slice (some ⟨g, k * 2, none⟩) (n - k) sc]).run Try.prog W2.drew = .ok (goInt ((n - k : Nat) : Int)) (W2.drew.setRow w.heap.size C2) := fun ty dc sc => by
    have := run_copy2 W2.drew ty w.heap.size ((k + 1) * 2) (n - k) dc ⟨g, k * 2, none⟩ (n - k) sc C1 (mV (ms.drop k)) hg2 (by rw [hmV]; simp only [Nat.min_def]; split <;> omega) (fun j v hj => by rw [add_none]; exact hcs1 j v hj) (by rw [hmV, hC1s]; omega) (mV_one _)
    rw [this, hC2, show Nat.min (n - k) (n - k) = n - k by simp only [Nat.min_def]; split <;> omega]
  have hg3 : (W2.drew.setRow w.heap.size C2).heap[w.heap.size]? = some (.cells C2 41 (0, 0)) := setRow_heap W2.drew _ C1 _ 41 _ hg2
  have HFI := hide (show Own B (W2.drew.setRow w.heap.size C2) (.slice (some ⟨w.heap.size, 0, none⟩) (n + 1) G) (n + 1) (ms.take k ++ m :: ms.drop k) by
    refine Own.of_row hB hg3 ?_ hGn hGm (by simp [hl]; omega) ?_
    · rw [hC2]; simp [hmV, hC1s]; omega
    · have e0 : C0.toList.take (k * 2) = mV (ms.take k) := by
        rw [hC0]
        simp only [Array.toList_append, List.append_assoc]
        rw [List.take_left' (by rw [mV_len, List.length_take, hl, Nat.min_eq_left (by omega)])]
      have e1 : C1.toList.take ((k + 1) * 2) = C0.toList.take (k * 2) ++ mV [m] := by
        rw [hC1, show (k + 1) * 2 = (C0.toList.take (k * 2) ++ mV [m]).length by simp [mV_len, hC0s]; omega]
        exact List.take_left' rfl
      rw [hC2]
      simp only [e1, List.append_assoc]
      exact ins_cells _ _ ms m n k hl (by omega) e0)
  have HBE := hide (show Below B w (W2.drew.setRow w.heap.size C2) from (hb2.mono hB).trans ((show Below B W2 W2.drew from ⟨rfl, rfl, rfl, Nat.le_refl _, fun _ _ => rfl⟩).trans (below_row hB C2)))
  unfold InsPost
  clear hC0 hC1 hC2 hg hg1 hg2 hg3 hs hC0s hC1s ht hrd hcs1 hm h hmV hW1 hW2 hold hkk hb1 hb2 hG hz0 hzs hzb hi0
  go_enter Try.func35, Try.ntmps35
  go_wp2_with first
    | (at_builtin; refine wpList_append2 rfl (.tmp 34) (.tmp 39) rfl _ _ rfl rfl (hrz _) ?_)
    | (at_builtin; refine wpList_copy2 rfl (.tmp 43) (.tmp 44) rfl _ _ rfl rfl (hcp1 _ _) ?_)
  go_region_law (refine step_copy2 rfl (.tmp 50) (.tmp 53) rfl _ _ (by simp [Act.eval, Act.put]) (by simp [Act.eval, Act.put]) (hcp2 _ _ _) ?_)
  go_wp2
  go_ret
  exact ⟨_, rfl, HFI.out, HBE.out⟩

/-- slices.Insert of one member into a row of one's own. -/
theorem insert_any (B : Nat) (ms : List Mb) (m : Mb) (g n c k g2 : Nat) (w : World) (h : Own B w (.slice (some ⟨g, 0, none⟩) n c) n ms) (hn : n ≤ 20000) (hB : B ≤ w.heap.size) (hm : BoxL w g2 [.int .i64 m.1, .int .i64 m.2]) (hg2 : w.heap[g2]? = some (.cells #[.int .i64 m.1, .int .i64 m.2] 41 (0, 0))) (hne : g2 ≠ g) (hk : k ≤ n) :
    Calls Try.prog 35 #[.slice (some ⟨g, 0, none⟩) n c, .int .i64 (k : Nat), .slice (some ⟨g2, 0, none⟩) 1 1] w (InsPost B w n k ms m) := by
  rcases Nat.lt_or_eq_of_le hk with h1 | rfl
  · by_cases h2 : n + 1 ≤ c
    · exact insert_shift B ms m g n c k g2 w h hn hm hg2 hne h1 h2
    · exact insert_grow B ms m g n c k g2 w h hn hB hm h1 (by omega)
  · exact insert_end B ms m g k c g2 w h hn hB hm
end Go.Proofs.Ythjkfpcbbjmclaa
