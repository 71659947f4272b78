/- A table's parked tasks: wait. -/
import Derived.Test.YtandbkbodlbjcaaRis
namespace Go.Proofs.Ytandbkbodlbjcaa
open Go.RowKit Go.ChangeShapes Go.WideShapes Go.ChangeAt Go.Deep Go.Maps Go.Sort

/-- One name behind it, in a region that draws its order. -/
theorem app_n {w : World} {o : Oper} {act : Act} {K : Act → World → Prop} {Q : Exit → Act → World → Prop} (s x : Operand)
    (ho : o.op = .call { callee := .builtin .append, args := #[s, x], argTypes := #[27, 27] })
    (a : Option Addr) (n c : Nat) (xs : List ByteArray) (hs : act.eval s = .slice a n c) (hov : RN w a n c xs) (hn : n ≤ 1000000)
    (bk : Nat) (y : ByteArray) (hx : act.eval x = .slice (some ⟨bk, 0, none⟩) 1 1) (hy : Reads w (some ⟨bk, 0, none⟩) (nV [y]))
    (h : ∀ a' c' w', RN w' a' (n + 1) c' (xs ++ [y]) → w.grownBy w' (blk a) → (blk a' = blk a ∨ ∃ b', blk a' = some b' ∧ w.heap.size ≤ b' ∧ b' < w'.heap.size) → K (act.put o.dst (.slice a' (n + 1) c')) w') : o.wp Try.prog act w K Q := by
  obtain ⟨i0, hi, hz0, hz1, hz2⟩ := info_parts Try.info31
  have hyc : ∀ j u, (nV [y])[j]? = some u → w.cell? ((⟨bk, 0, none⟩ : Addr).add j) = some u := by
    rcases hy with e | ⟨b, o, e, hr⟩
    · simp [nV] at e
    · simp only [Option.some.injEq, Addr.mk.injEq, and_true] at e
      obtain ⟨rfl, rfl⟩ := e
      intro j u hu
      rw [add_none]; exact hr j u hu
  have hov' := hov
  obtain ⟨h1, h2, h3, h4⟩ := hov
  rcases h4 with ⟨rfl, rfl⟩ | ⟨b, off, rfl, h6, h7, h8⟩
  · obtain rfl : n = 0 := by omega
    have : xs = [] := List.eq_nil_of_length_eq_zero h1
    subst this
    refine wp_append_own w s x 27 ho w.heap.size 31 i0 (.string ⟨#[]⟩) 1 16 Try.underlying27 hi hz0 hz1 hz2 rfl (by decide) (.slice none 0 0) 0 [] hs (World.ownsRow_nil _ _ _ _) ⟨bk, 0, none⟩ 1 1 (nV [y]) hx rfl hyc (nV_one _) (by unfold maxLen; omega) (by omega) (Nat.le_refl _) ?_
    intro v' w' ho' hg' _
    obtain ⟨a', c', rfl, hR, hpos⟩ := own_formS (L := [y]) ho'
    rcases hb : blk a' with _ | b'
    · cases a' with
      | none => have := hR.none_nil; omega
      | some _ => simp [blk] at hb
    · exact h _ c' w' hR hg' (.inr ⟨b', hb, hpos b' hb, hR.lt hb⟩)
  · by_cases hr : n + 1 ≤ c
    · have hsp : ∀ j, j < (nV [y]).length → (w.cell? ⟨b, off + n * i0.size + j, none⟩).isSome = true ∧ w.frozen? ⟨b, off + n * i0.size + j, none⟩ = false := fun j hj => by
        have hj0 : j = 0 := by simp [nV] at hj; omega
        subst hj0
        rw [hz1]
        have := h8 n (by omega)
        simpa using this
      have hrun := run_append_room_cells (P := Try.prog) w 27 o.type 31 i0 Try.underlying27 hi b off n c ⟨bk, 0, none⟩ 1 1 (nV [y]) (by rw [hz1]; rfl) hyc (nV_one _) hr (fun j hj => (hsp j hj).1) (fun j hj => (hsp j hj).2)
      rw [hz1] at hrun
      have hp := hov'.put (by omega) y
      have e : w.setCells b (off + n * 1) (nV [y]) = w.setCell ⟨b, off + n, none⟩ (.string y) := by simp [nV, World.setCells]
      rw [e] at hrun
      unfold Oper.wp
      simp [execOp, ho, resolve, invoke, builtin, hs, hx, hrun, Result.andThen]
      exact h _ c _ hp (grown_setCell _ _ _ _) (.inl rfl)
    · obtain ⟨v', w', hrun, ho', hg'⟩ := run_append_arg_grows (P := Try.prog) w 27 o.type 31 i0 (.string ⟨#[]⟩) 1 16 Try.underlying27 hi hz0 hz1 hz2 rfl (by decide) ⟨b, off, none⟩ n c (nV xs) (by rw [nV_length]; omega) (fun j u hj => by rw [add_none]; exact h7 j u hj) ⟨bk, 0, none⟩ 1 1 (nV [y]) rfl hyc (by omega) (by unfold maxLen; omega) (by omega)
      have e : nV xs ++ nV [y] = nV (xs ++ [y]) := by simp [nV]
      rw [e] at ho'
      obtain ⟨a', c', rfl, hR, hpos⟩ := own_formS ho'
      unfold Oper.wp
      simp [execOp, ho, resolve, invoke, builtin, hs, hx, hrun, Result.andThen]
      rcases hb : blk a' with _ | b'
      · cases a' with
        | none => have := hR.none_nil; omega
        | some _ => simp [blk] at hb
      · exact h _ c' w' hR ⟨hg'.os, hg'.tape, hg'.output, hg'.size, fun k hk _ => hg'.block k hk (by simp)⟩ (.inr ⟨b', hb, hpos b' hb, hR.lt hb⟩)

theorem zero27 (w : World) : (zeroValue 27).run Try.prog w = .ok (.slice none 0 0) w := by kernel_rfl
theorem look_bag {w : World} {b n : Nat} {D : DataW Value} (h : w.ownsMap Try.prog 31 heldR b n D) {x : ByteArray} (hx : x.size ≤ 1000000) {v : Value} (hat : D.atKey (.string x.data.toList) (.held (.slice none 0 0)) = .held v) : (Instr.lookup 55 (.map (some b)) (.string x) false).run Try.prog w = .ok v w := by
  obtain ⟨v', ps, hrun, hv⟩ := h.lookup law31 Try.underlying55 (zero27 w) (zd := .held (.slice none 0 0)) (zp := []) rfl (key31 hx)
  simp only [heldR, Option.some.injEq, Prod.mk.injEq] at hv
  rw [hat] at hv
  obtain ⟨hv, _⟩ := hv
  cases hv
  exact hrun
theorem mu_bag {w : World} {o : Oper} {act : Act} {K : Act → World → Prop} {Q : Exit → Act → World → Prop} (m x v : Operand) (hop : o.op = Op.mapUpdate 55 m x v) (b n : Nat) (D : DataW Value) (hm : act.eval m = .map (some b)) (hown : w.ownsMap Try.prog 31 heldR b n D) (hn : n ≤ 1000000) (key : ByteArray) (hk : key.size ≤ 1000000) (hx : act.eval x = .string key) (val : Value) (hv : act.eval v = val)
    (h : ∀ w', w'.ownsMap Try.prog 31 heldR b (n + 1) (D.put (.string key.data.toList) (.held val)) → w.grownBy w' (some b) → K (act.put o.dst undef) w') : o.wp Try.prog act w K Q := by
  obtain ⟨w', hrun, r1, r2⟩ := hown.update law31 Try.underlying55 (by unfold maxLen; omega) (key31 hk) (d := .held val) (ps := []) rfl
  unfold Oper.wp
  simp [execOp, hop, hm, hx, hv, hrun, Result.andThen]
  exact h w' r1 r2

theorem kids_more (p : List (ByteArray × ByteArray)) (x on : ByteArray) : kids (p ++ [(x, on)]) on = kids p on ++ [x] := by simp [kids]
theorem kids_other (p : List (ByteArray × ByteArray)) (x on on' : ByteArray) (h : on' ≠ on) : kids (p ++ [(x, on)]) on' = kids p on' := by
  have h' : ¬ on = on' := fun e => h e.symm
  simp [kids, h']

/-- What wait finds: the map, and the row that it appends to. -/
theorem TabM.bag {κ : Cl} {w : World} {cb : Nat} {T : Tb} (h : TabM κ w cb T) : w.cell? ⟨cb, 2, none⟩ = some (.map none) ∧ w.frozen? ⟨cb, 2, none⟩ = false ∧ T.prk = [] ∨ ∃ m, w.cell? ⟨cb, 2, none⟩ = some (.map (some m)) := by
  obtain ⟨h1, h2, vr, vg, vp, va, h3, h4, h5, h6, h7⟩ := h
  rcases h6.2 with ⟨rfl, e⟩ | ⟨b, D, rfl, _⟩
  · exact .inl ⟨(h3.at (o := 2) rfl).1, (h3.at (o := 2) rfl).2, e⟩
  · exact .inr ⟨b, (h3.at (o := 2) rfl).1⟩

/-- The map, made. -/
theorem bag_made {κ : Cl} {w : World} {cb : Nat} {T : Tb} (h : TabM κ w cb T) (hc : w.cell? ⟨cb, 2, none⟩ = some (.map none)) : TabM (paint κ w.heap.size .pk) ((w.alloc (.map #[] 0)).setCell ⟨cb, 2, none⟩ (.map (some w.heap.size))) cb T ∧ Stp κ (paint κ w.heap.size .pk) w ((w.alloc (.map #[] 0)).setCell ⟨cb, 2, none⟩ (.map (some w.heap.size))) ∧ ((w.alloc (.map #[] 0)).setCell ⟨cb, 2, none⟩ (.map (some w.heap.size))).cell? ⟨cb, 2, none⟩ = some (.map (some w.heap.size)) := by
  obtain ⟨h1, h2, vr, vg, vp, va, h3, h4, h5, h6, h7⟩ := h
  obtain rfl : vp = .map none := by
    have := (h3.at (o := 2) rfl).1
    rw [this] at hc
    exact Option.some.inj hc
  have hp : T.prk = [] := by
    rcases h6.2 with ⟨_, e⟩ | ⟨b, D, e, _⟩
    · exact e
    · cases e
  have hb := below_new w (.map #[] 0)
  have hlt := h3.1
  have hne : cb ≠ w.heap.size := by omega
  have hB := (h3.below hb).put 2 (.map (some w.heap.size))
  have hsz : ((w.alloc (.map #[] 0)).setCell ⟨cb, 2, none⟩ (.map (some w.heap.size))).heap.size = w.heap.size + 1 := by simp [World.setCell]
  have hk : ∀ k, k < w.heap.size → k ≠ cb → ((w.alloc (.map #[] 0)).setCell ⟨cb, 2, none⟩ (.map (some w.heap.size))).heap[k]? = w.heap[k]? := fun k hk hkc => by
    rw [Below.heap_setCell _ _ _ _ (by exact hkc)]
    exact hb.block k hk
  have q : ∀ k t, k < w.heap.size → κ k = some t → t ≠ .box → ((w.alloc (.map #[] 0)).setCell ⟨cb, 2, none⟩ (.map (some w.heap.size))).heap[k]? = w.heap[k]? ∧ paint κ w.heap.size .pk k = κ k := fun k t hk' e n1 => by
    refine ⟨hk k hk' (fun e1 => ?_), paint_other (by omega)⟩
    subst e1; rw [h2] at e; cases e; exact n1 rfl
  have hmade : ((w.alloc (.map #[] 0)).setCell ⟨cb, 2, none⟩ (.map (some w.heap.size))).ownsMap Try.prog 31 heldR w.heap.size 0 (.map []) := (World.ownsMap_made (H := Value) w Try.prog 31 heldR).setCell (a := ⟨cb, 2, none⟩) (by exact hne.symm) _
  refine ⟨⟨fun k hk => ?_, by rw [paint_other hne]; exact h2, vr, vg, .map (some w.heap.size), va, hB, h4.keep (by omega) (fun k a b => q k _ a b (by simp)), h5.keep (fun k a b => q k _ a b (by simp)), ⟨h6.1, .inr ⟨w.heap.size, .map [], rfl, paint_at _ _ _, hmade, Nat.zero_le _, fun on => ?_⟩⟩, h7.keep (fun k a b => q k _ a b (by simp))⟩, ⟨⟨rfl, rfl, rfl, by omega, fun k hk' hn => hk k hk' (fun e => hn (by subst e; rw [h2]; simp))⟩, fun k hk' => paint_other (by omega)⟩, (hB.at (o := 2) rfl).1⟩
  · by_cases e : k = w.heap.size
    · omega
    · rw [paint_other e] at hk; have := h1 k hk; omega
  · refine ⟨none, 0, 0, rfl, ?_, fun k hk => by simp [blk] at hk⟩
    rw [hp]; exact RN.nil _

/-- What wait finds. -/
structure WO (κ : Cl) (w : World) (T : Tb) (on : ByteArray) (m : Nat) (D : DataW Value) (a : Option Addr) (n c : Nat) : Prop where
  col : κ m = some .pk
  own : w.ownsMap Try.prog 31 heldR m (Maps.size D) D
  sz : Maps.size D ≤ T.wt
  hat : D.atKey (.string on.data.toList) (.held (.slice none 0 0)) = .held (.slice a n c)
  rn : RN w a n c (kids T.prk on)
  rk : ∀ k, blk a = some k → κ k = some (.bag on)

theorem wait_open {κ : Cl} {w : World} {cb m : Nat} {T : Tb} (h : TabM κ w cb T) (hc : w.cell? ⟨cb, 2, none⟩ = some (.map (some m))) (on : ByteArray) : ∃ D a n c, WO κ w T on m D a n c := by
  obtain ⟨h1, h2, vr, vg, vp, va, h3, h4, h5, h6, h7⟩ := h
  obtain rfl : vp = .map (some m) := by
    have := (h3.at (o := 2) rfl).1
    rw [this] at hc
    exact Option.some.inj hc
  rcases h6.2 with ⟨e, _⟩ | ⟨b, D, e, hb, ho, hz, hon⟩
  · cases e
  · cases e
    obtain ⟨a, n, c, g1, g2, g3⟩ := hon on
    exact ⟨D, a, n, c, hb, ho, hz, g1, g2, g3⟩

theorem wait_close {κ : Cl} {w w1 w3 w4 : World} {cb m : Nat} {T : Tb} {x on : ByteArray} {D : DataW Value} {a a' : Option Addr} {n c c' : Nat} (h : TabM κ w cb T) (hc : w.cell? ⟨cb, 2, none⟩ = some (.map (some m))) (hW : WO κ w T on m D a n c) (hx : x.size ≤ 12) (hon : on.size ≤ 12)
    (hb1 : Below w.heap.size w w1) (hg3 : w1.grownBy w3 (blk a)) (hR3 : RN w3 a' (n + 1) c' (kids T.prk on ++ [x])) (hw3 : blk a' = blk a ∨ ∃ b', blk a' = some b' ∧ w1.heap.size ≤ b' ∧ b' < w3.heap.size) (hg4 : w3.grownBy w4 (some m))
    (ho4 : w4.ownsMap Try.prog 31 heldR m (Maps.size D + 1) (D.put (.string on.data.toList) (.held (.slice a' (n + 1) c')))) :
    ∃ κ', TabM κ' w4 cb { T with prk := T.prk ++ [(x, on)], wt := T.wt + 1 } ∧ Stp κ κ' w w4 := by
  obtain ⟨h1, h2, vr, vg, vp, va, h3, h4, h5, h6, h7⟩ := h
  obtain rfl : vp = .map (some m) := by
    have := (h3.at (o := 2) rfl).1
    rw [this] at hc
    exact Option.some.inj hc
  rcases h6.2 with ⟨e, _⟩ | ⟨b, D0, e, hb, ho, hz, hons⟩
  · cases e
  cases e
  have hTidy := ho.tidy law31
  have hD : D0 = D := by
    obtain ⟨es, cl, e1, F, _, rfl⟩ := ho
    obtain ⟨es', cl', e1', F', _, rfl⟩ := hW.own
    rw [e1] at e1'
    cases e1'
    rfl
  subst hD
  have hs1 := hb1.size
  have hs3 := hg3.size
  have hs4 := hg4.size
  -- the blocks
  have hblk : ∀ k, k < w.heap.size → blk a ≠ some k → k ≠ m → w4.heap[k]? = w.heap[k]? := fun k hk e1 e2 => by
    rw [hg4.block k (by omega) (by simpa using e2), hg3.block k (by omega) (fun e => e1 e.symm), hb1.block k hk]
  obtain ⟨κ', g1, g2, g3⟩ : ∃ κ' : Cl, (∀ k, blk a' = some k → κ' k = some (.bag on)) ∧ (∀ k, k < w.heap.size → κ' k = κ k) ∧ (∀ k, κ' k ≠ none → k < w4.heap.size) := by
    rcases hw3 with e | ⟨b', e, q1, q2⟩
    · exact ⟨κ, fun k hk => hW.rk k (by rw [← e]; exact hk), fun _ _ => rfl, fun k hk => by have := h1 k hk; omega⟩
    · refine ⟨paint κ b' (.bag on), fun k hk => by rw [e] at hk; cases hk; exact paint_at _ _ _, fun k hk => paint_other (by omega), fun k hk => ?_⟩
      by_cases e : k = b'
      · omega
      · rw [paint_other e] at hk; have := h1 k hk; omega
  have q : ∀ k t, k < w.heap.size → κ k = some t → t ≠ .pk → t ≠ .bag on → w4.heap[k]? = w.heap[k]? ∧ κ' k = κ k := fun k t hk e n1 n2 => by
    refine ⟨hblk k hk (fun e1 => ?_) (fun e1 => ?_), g2 k hk⟩
    · have := hW.rk k e1; rw [e] at this; cases this; exact n2 rfl
    · subst e1; rw [hb] at e; cases e; exact n1 rfl
  have hm' : κ' m = some .pk := by rw [g2 m ho.lt]; exact hb
  refine ⟨κ', ⟨g3, by rw [g2 cb h3.1]; exact h2, vr, vg, .map (some m), va, h3.keep (by omega) (q cb .box h3.1 h2 (by simp) (by simp)).1, h4.keep (by omega) (fun k a b => q k _ a b (by simp) (by simp)), h5.keep (fun k a b => q k _ a b (by simp) (by simp)), ⟨fun y hy => ?_, .inr ⟨m, _, rfl, hm', tight ho4, ?_, fun on' => ?_⟩⟩, h7.keep (fun k a b => q k _ a b (by simp) (by simp))⟩, ⟨⟨?_, ?_, ?_, by omega, fun k hk hn => hblk k hk (fun e => hn (by rw [hW.rk k e]; simp)) (fun e => hn (by rw [e, hb]; simp))⟩, g2⟩⟩
  · rcases List.mem_append.1 hy with hy | hy
    · exact h6.1 y hy
    · simp at hy; subst hy; exact ⟨hx, hon⟩
  · have := size_put (k := .string on.data.toList) hTidy (.held (.slice a' (n + 1) c'))
    rw [this]
    simp
    split <;> omega
  · by_cases e : on' = on
    · subst e
      refine ⟨a', n + 1, c', atKey_put_same hTidy.isMap (isKeyS _) _ _, ?_, g1⟩
      rw [kids_more]
      refine hR3.keep hs4 (fun b hb' => hg4.block b (hR3.lt hb') (fun e => ?_))
      have hbm : b = m := by simpa using e
      subst hbm
      have := g1 b hb'
      rw [hm'] at this
      cases this
    · obtain ⟨a2, n2, c2, r1, r2, r3⟩ := hons on'
      refine ⟨a2, n2, c2, by rw [atKey_put_other (lit_ne e)]; exact r1, ?_, fun k hk => by rw [g2 k (r2.lt hk)]; exact r3 k hk⟩
      rw [kids_other _ _ _ _ e]
      exact r2.keep (by omega) (fun k hk => (q k _ (r2.lt hk) (r3 k hk) (by simp) (by simpa using e)).1)
  · exact hg4.os.trans (hg3.os.trans hb1.os)
  · exact hg4.tape.trans (hg3.tape.trans hb1.tape)
  · exact hg4.output.trans (hg3.output.trans hb1.output)
end Go.Proofs.Ytandbkbodlbjcaa
