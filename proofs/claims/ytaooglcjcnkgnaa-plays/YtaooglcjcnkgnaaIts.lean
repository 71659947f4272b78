/- Items, SameInts, alive. -/
import Derived.Test.YtaooglcjcnkgnaaThr
namespace Go.Proofs.Ytaooglcjcnkgnaa
open Go.RowKit Go.ChangeShapes Go.WideShapes Go.ChangeAt Go.Deep

/-- 'append(v, y...)', v the call's own row of ints, y a slice of ints that is read, nil or not. -/
theorem append_ints {w : World} {ops : Array Oper} {rest : List Oper} {o : Oper} {a : Act} {Q : Exit → Act → World → Prop} (hgd : o.guard = none) (s x : Operand)
    (ho : o.op = .call { callee := .builtin .append, args := #[s, x], argTypes := #[38, 38] })
    (base : Nat) (v : Value) (n : Nat) (xs : List Int) (hs : a.eval s = v) (hown : w.ownsRow base 3 1 v n (iV xs))
    (ad : Option Addr) (m c : Nat) (ys : List Int) (hx : a.eval x = .slice ad m c) (hnil : ad = none → m = 0 ∧ c = 0) (hl : ys.length = m) (hr : Reads w ad (iV ys))
    (hb : n + m ≤ 1000000) (hbase : base ≤ w.heap.size)
    (h : ∀ v' w', w'.ownsRow base 3 1 v' (n + m) (iV (xs ++ ys)) → w.grownBy w' v.ownBlock → wpList Try.prog ops Q rest (a.put o.dst v') w') :
    wpList Try.prog ops Q (o :: rest) a w := by
  obtain ⟨i0, hi, hz0, hz1, hz2⟩ := info_parts Try.info3
  cases ad with
  | none =>
    obtain ⟨rfl, rfl⟩ := hnil rfl
    have hy : ys = [] := by cases ys with | nil => rfl | cons _ _ => simp at hl
    subst hy
    refine wpList_append_own_none hgd s x 38 ho base 3 i0 1 Try.underlying38 hi v n (iV xs) hs hown hx ?_
    exact h v w (by simpa using hown) ⟨rfl, rfl, rfl, Nat.le_refl _, fun _ _ _ => rfl⟩
  | some ad =>
    refine wpList_append_own _ hgd s x 38 ho base 3 i0 (.int .i64 0) 1 8 Try.underlying38 hi hz0 hz1 hz2 rfl (by decide) v n (iV xs) hs hown ad m c (iV ys) hx (by rw [iV_length]; omega) ?_ (iV_one ys) (by unfold maxLen; omega) (by omega) hbase ?_
    · rcases hr with hr | ⟨b, off, e, hr⟩
      · rw [hr]; simp
      · simp at e
        subst e
        intro j u hu
        rw [add_none]; exact hr j u hu
    · intro v' w' h1 h2 h3
      exact h v' w' (by simpa [iV] using h1) h2

theorem own_reads {w : World} {B n : Nat} {v : Value} {xs : List Int} (h : w.ownsRow B 3 1 v n (iV xs)) :
    ∃ a cap, v = .slice a n cap ∧ n ≤ cap ∧ Reads w a (iV xs) ∧ xs.length = n ∧ (0 < n → ∃ g, a = some ⟨g, 0, none⟩ ∧ B ≤ g ∧ g < w.heap.size) := by
  obtain ⟨a, cap, rfl, h1, h2⟩ := own_form h
  have hl : xs.length = n := by have := h.1; rw [iV_length] at this; omega
  refine ⟨a, cap, rfl, h1, ?_, hl, h2⟩
  rcases Nat.eq_zero_or_pos n with e | e
  · have : xs = [] := List.eq_nil_of_length_eq_zero (by omega)
    subst this
    exact .inl rfl
  · obtain ⟨g, rfl, _, _⟩ := h2 e
    refine .inr ⟨g, 0, rfl, fun j u hu => ?_⟩
    have := h.cells (g := g) rfl j u hu
    rwa [add_none] at this

/-- One number of one's own row, one more. -/
theorem own_turn {w : World} {B g n cap j : Nat} {zs : List Int} (ho : w.ownsRow B 3 1 (.slice (some ⟨g, 0, none⟩) n cap) n (iV zs)) (hj : j < n) :
    ∃ x : Int, w.cell? ⟨g, j, none⟩ = some (.int .i64 x) ∧ w.frozen? ⟨g, j, none⟩ = false ∧ ∀ y : Int, (∃ zs' : List Int, (w.setCell ⟨g, j, none⟩ (.int .i64 y)).ownsRow B 3 1 (.slice (some ⟨g, 0, none⟩) n cap) n (iV zs')) ∧ w.grownBy (w.setCell ⟨g, j, none⟩ (.int .i64 y)) (some g) := by
  have hl : zs.length = n := by have := ho.1; rw [iV_length] at this; omega
  refine ⟨zs[j]'(by omega), ?_, ho.frozenAt j, fun y => ?_⟩
  · rw [ho.cellAt j (by omega)]
    simp [iV, hl, hj]
  · have h := ho.stored j (.int .i64 y)
    refine ⟨⟨zs.set j y, ?_⟩, h.2⟩
    have e : (iV zs).set j (.int .i64 y) = iV (zs.set j y) := by simp [iV, List.map_set]
    rw [← e]; exact h.1

theorem take_eq {α : Type} {a b : List α} {k : Nat} (hk : k < a.length) (hk' : k < b.length) (h : a.take k = b.take k) (he : a[k] = b[k]) : a.take (k + 1) = b.take (k + 1) := by
  rw [List.take_succ_eq_append_getElem hk, List.take_succ_eq_append_getElem hk', h, he]
theorem ne_at {α : Type} {a b : List α} {k : Nat} (hk : k < a.length) (hk' : k < b.length) (he : a[k] ≠ b[k]) : a ≠ b := fun h => he (by subst h; rfl)
set_option maxRecDepth 100000 in
set_option maxHeartbeats 8000000 in
/-- gleanerref1.SameInts. -/
theorem sameInts_any (la lb : List Int) (aa ba : Option Addr) (al ac bl bc : Nat) (w : World) (hla : la.length = al) (hlb : lb.length = bl) (hal : al ≤ 20000) (ra : Reads w aa (iV la)) (rb : Reads w ba (iV lb)) :
    Calls Try.prog 20 #[.slice aa al ac, .slice ba bl bc] w fun e w' => e = .returned (.bool (decide (la = lb))) ∧ Below w.heap.size w w' := by
  by_cases hl : al = bl
  · subst hl
    obtain ⟨R, hR⟩ : ∃ R, R = decide (la = lb) := ⟨_, rfl⟩
    rw [← hR]
    have HD := hide hR
    clear hR
    go_enter Try.func20, Try.ntmps20
    go_wp2
    go_loopw [5] (fun i wr => Hid (Below w.heap.size w wr) ∧ ∃ (k : Nat), k ≤ al ∧ i = .int .i64 (k : Nat) ∧ Hid (la.take k = lb.take k)) (fun i _ => al - (intOf i).toNat)
    case atStart => exact ⟨hide (Below.refl _ _), 0, Nat.zero_le _, rfl, hide rfl⟩
    case round =>
      obtain ⟨hbw, k, hk, rfl, hT⟩ := hrel
      by_cases hlt : k < al
      · have hka : k < la.length := by omega
        have hkb : k < lb.length := by omega
        obtain ⟨cb, off, har, hcs⟩ := reads_at (ra.below hbw.out) hka
        obtain ⟨eb, eff, hbr, hds⟩ := reads_at (rb.below hbw.out) hkb
        subst har
        subst hbr
        have y0 := hcs.out k (.int .i64 la[k]) (by simp [iV, hka])
        have z0 := hds.out k (.int .i64 lb[k]) (by simp [iV, hkb])
        have hlt' : (k : Int) < (al : Int) := by omega
        have HTE := hide (fun h => take_eq hka hkb hT.out h)
        have HNE := hide (fun h => ne_at hka hkb h)
        generalize la[k] = x at y0 HTE HNE
        generalize lb[k] = y at z0 HTE HNE
        clear hcs hds
        by_cases he : x = y
        · subst he
          have HN := hide (HTE.out rfl)
          clear HTE HNE hT
          go_wp2_with fail
          go_big_quiet (fail)
          go_wp2_with fail
          go_roundw
          case rel => exact ⟨hide (below_drewN hbw.out _), k + 1, by omega, by go_num, HN⟩
          case measure => simp [intOf]; omega
        · have HF := hide (show R = false by rw [HD.out]; exact decide_eq_false (HNE.out he))
          have g0 : (x == y) = false := by rw [beq_eq_false_iff_ne]; exact he
          clear HTE HNE hT
          go_wp2_with fail
          go_big_quiet (fail)
          go_wp2
          go_ret
          exact ⟨by rw [HF.out]; rfl, below_drewN hbw.out _⟩
      · have HF := hide (show R = true by
          rw [HD.out]
          have e1 : la.take k = la := List.take_of_length_le (by omega)
          have e2 : lb.take k = lb := List.take_of_length_le (by omega)
          have := hT.out
          rw [e1, e2] at this
          exact decide_eq_true this)
        have hlt' : ¬ (k : Int) < (al : Int) := by omega
        clear hT
        go_wp2
        go_ret
        exact ⟨by rw [HF.out]; rfl, hbw.out⟩
  · have HF := hide (show decide (la = lb) = false from decide_eq_false (fun h => hl (by rw [← hla, ← hlb, h])))
    generalize decide (la = lb) = R at HF ⊢
    have q1 : ((al : Int) == (bl : Int)) = false := by rw [beq_eq_false_iff_ne]; omega
    go_enter Try.func20, Try.ntmps20
    go_wp2
    go_ret
    exact ⟨by rw [HF.out]; rfl, Below.refl _ _⟩


theorem own_low {w : World} {B n : Nat} {v : Value} {xs : List Value} (h : w.ownsRow B 3 1 v n xs) : ∀ k, v.ownBlock = some k → B ≤ k := by
  intro k hk
  rcases h.2 with ⟨rfl, _⟩ | ⟨g, cap, cur, rfl, h1, _⟩
  · simp [Value.ownBlock] at hk
  · simp [Value.ownBlock] at hk; omega

theorem take_more {xs : List Int} {k : Nat} {x : Int} (h : xs[k]? = some x) : xs.take (k + 1) = xs.take k ++ [x] := by
  obtain ⟨hk, rfl⟩ := List.getElem?_eq_some_iff.1 h
  exact List.take_succ_eq_append_getElem hk

set_option maxRecDepth 100000 in
set_option maxHeartbeats 1000000 in
theorem items_any (w : World) (cb g : Nat) (d : Dq) (h : DqM w cb g d) (hs : Sml 400000 d) : Calls Try.prog 21 #[.pointer (some ⟨cb, 0, none⟩)] w fun e w' => ∃ a n c, e = .returned (.slice a n c) ∧ n = (itemsD d).length ∧ w'.ownsRow w.heap.size 3 1 (.slice a n c) n (iV (itemsD d)) ∧ Below w.heap.size w w' := by
  obtain ⟨i0, hi, hz0, hz1, hz2⟩ := info_parts Try.info3
  obtain ⟨ct, ft⟩ := h.top
  obtain ⟨cbt, fbt⟩ := h.bot
  obtain ⟨ht1, ht2⟩ := hs.top
  obtain ⟨hb1, hb2⟩ := hs.bot
  obtain ⟨n, hn⟩ : ∃ n, n = (d.bot - d.top).toNat := ⟨_, rfl⟩
  obtain ⟨tp, htp⟩ : ∃ tp, tp = d.top := ⟨_, rfl⟩
  obtain ⟨bt, hbt⟩ : ∃ bt, bt = d.bot := ⟨_, rfl⟩
  have HL := hide (show (itemsD d).length = n by rw [hn]; simp [itemsD])
  have HX := hide (show ∀ k, k < n → (itemsD d)[k]? = some (d.L.getD (plc d.n (tp + (k : Int))) 0) by
    intro k hk
    rw [hn] at hk
    rw [htp]
    simp [itemsD, hk])
  have CG := hide (fun (W : World) (hb : Below w.heap.size w W) (i : Int) => get_any W cb 2 g d.n d.L i (h.ring.below hb))
  rw [← htp] at ct ht1 ht2 hn
  rw [← hbt] at cbt hb1 hb2 hn
  have hmx : max (0 : Int) (bt - tp) = (n : Int) := by omega
  have hnb : n ≤ 800000 := by omega
  have hsub : IntKind.i64.wrap (bt - tp) = bt - tp := by rw [IntKind.wrap_i64]; omega
  have HE1 := hide hn
  clear hs h htp hbt hn ft fbt
  generalize itemsD d = xs at *
  go_enter Try.func21, Try.ntmps21
  obtain ⟨w1, hrun, ho1, hg1⟩ := run_make_own (P := Try.prog) w.drew w.heap.size 38 3 i0 (.int .i64 0) 1 Try.underlying38 hi hz0 hz1 .i64 .i64 n (by rw [hz2]; omega) (by unfold maxLen; omega) (Nat.le_refl _)
  have HM := hide ho1
  have HB := hide (show Below w.heap.size w w1 from below_undrew (below_of hg1))
  have ct1 := keep_cell ct HB.out
  have cbt1 := keep_cell cbt HB.out
  clear ho1 hg1
  go_upto_region 1 with fail
  refine wp_region_noPanic ?_
  refine wp_region_held_drew (S := fun W => W.cell? ⟨cb, 0, none⟩ = some (.int .i64 tp) ∧ W.cell? ⟨cb, 1, none⟩ = some (.int .i64 bt)) (by kernel_rfl) (⟨ct, cbt⟩) (fun hHeld => ?_)
  refine takeD (i := 0) (d := some 5) (v := ?_) rfl rfl (by kernel_rfl) (by kernel_rfl) (by kernel_rfl) (fun _ _ _ h => h) (Or.inl ⟨by rfl, ?_⟩) (by assumption) ?_
  rotate_left
  · intro w hSw
    go_simp
    try (with_reducible rfl)
  try simp only [Act.put, List.setIfInBounds_toArray, List.set_cons_zero, List.set_cons_succ]
  refine takeD (i := 1) (d := some 6) (v := ?_) rfl rfl (by kernel_rfl) (by kernel_rfl) (by kernel_rfl) (fun _ _ _ h => h) (Or.inl ⟨by rfl, ?_⟩) (by assumption) ?_
  rotate_left
  · intro w hSw
    go_simp
    try (with_reducible rfl)
  try simp only [Act.put, List.setIfInBounds_toArray, List.set_cons_zero, List.set_cons_succ]
  refine takeD (i := 2) (d := some 7) (v := ?_) rfl rfl (by kernel_rfl) (by kernel_rfl) (by kernel_rfl) (fun _ _ _ h => h) (Or.inl ⟨by rfl, ?_⟩) (by assumption) ?_
  rotate_left
  · intro w hSw
    go_simp
    try (with_reducible rfl)
  try simp only [Act.put, List.setIfInBounds_toArray, List.set_cons_zero, List.set_cons_succ]
  refine takeD (i := 3) (d := some 8) (v := ?_) rfl rfl (by kernel_rfl) (by kernel_rfl) (by kernel_rfl) (fun _ _ _ h => h) (Or.inl ⟨by rfl, ?_⟩) (by assumption) ?_
  rotate_left
  · intro w hSw
    go_simp
    try (with_reducible rfl)
  try simp only [Act.put, List.setIfInBounds_toArray, List.set_cons_zero, List.set_cons_succ]
  refine takeD (i := 4) (d := some 9) (v := ?_) rfl rfl (by kernel_rfl) (by kernel_rfl) (by kernel_rfl) (fun _ _ _ h => h) (Or.inl ⟨by rfl, ?_⟩) (by assumption) ?_
  rotate_left
  · intro w hSw
    go_simp
    try (with_reducible rfl)
  try simp only [Act.put, List.setIfInBounds_toArray, List.set_cons_zero, List.set_cons_succ]
  refine takeD (i := 5) (d := some 10) (v := ?_) rfl rfl (by kernel_rfl) (by kernel_rfl) (by kernel_rfl) (fun _ _ _ h => h) (Or.inl ⟨by rfl, ?_⟩) (by assumption) ?_
  rotate_left
  · intro w hSw
    go_simp
    try (with_reducible rfl)
  try simp only [Act.put, List.setIfInBounds_toArray, List.set_cons_zero, List.set_cons_succ]
  refine takeD (i := 6) (d := some 11) (v := ?_) rfl rfl (by kernel_rfl) (by kernel_rfl) (by kernel_rfl) (fun _ _ _ h => h) (Or.inl ⟨by rfl, ?_⟩) (by assumption) ?_
  rotate_left
  · intro w hSw
    go_simp
    try (with_reducible rfl)
  try simp only [Act.put, List.setIfInBounds_toArray, List.set_cons_zero, List.set_cons_succ]
  refine takeD (i := 7) (d := some 12) (v := ?_) rfl rfl (by kernel_rfl) (by kernel_rfl) (by kernel_rfl) (fun _ _ _ h => h) (Or.inl ⟨by rfl, ?_⟩) (by assumption) ?_
  rotate_left
  · intro w hSw
    go_simp
    try (with_reducible rfl)
  try simp only [Act.put, List.setIfInBounds_toArray, List.set_cons_zero, List.set_cons_succ]
  refine takeD (i := 8) (d := some 13) (v := ?_) rfl rfl (by kernel_rfl) (by kernel_rfl) (by kernel_rfl) (fun _ _ _ h => h) (Or.inl ⟨by rfl, ?_⟩) (by assumption) ?_
  rotate_left
  · intro w hSw
    go_simp
    try (with_reducible rfl)
  try simp only [Act.put, List.setIfInBounds_toArray, List.set_cons_zero, List.set_cons_succ]
  refine takeD (i := 9) (d := some 14) (v := ?_) rfl rfl (by kernel_rfl) (by kernel_rfl) (by kernel_rfl) (fun _ _ _ h => h) (Or.inl ⟨by rfl, ?_⟩) (by assumption) ?_
  rotate_left
  · intro w hSw
    go_simp
    try (with_reducible rfl)
  try simp only [Act.put, List.setIfInBounds_toArray, List.set_cons_zero, List.set_cons_succ]
  refine wpAnyH_ready (rs := [10]) (by kernel_rfl) (by simp) ?_
  refine AllReadyH.cons rfl (fun K hK => ?_) AllReadyH.nil
  go_simp
  refine hK.out _ _ ⟨ct1, cbt1⟩ (fun hHeld => ?_)
  clear hK K
  try simp only [Act.put, List.setIfInBounds_toArray, List.set_cons_zero, List.set_cons_succ]
  refine takeD (i := 11) (d := some 3) (v := ?_) rfl rfl (by kernel_rfl) (by kernel_rfl) (by kernel_rfl) (fun _ _ _ h => h) (Or.inl ⟨by rfl, ?_⟩) (by assumption) ?_
  rotate_left
  · intro w hSw
    go_simp
    try (with_reducible rfl)
  try simp only [Act.put, List.setIfInBounds_toArray, List.set_cons_zero, List.set_cons_succ]
  refine wpAnyH_done (by kernel_rfl) ?_ _
  refine NoPanic.normal ?_
  clear hrun
  clear hmx hsub hi hz0 hz1 hz2
  go_upto_region 3 with fail
  clear ct1 cbt1
  go_loopw [3, 4] (fun o i wr => Hid (Below w.heap.size w wr) ∧ ∃ (k : Nat) (a : Option Addr) (c : Nat), k ≤ n ∧ o = .slice a k c ∧ i = .int .i64 (tp + (k : Int)) ∧ Hid (wr.ownsRow w.heap.size 3 1 (.slice a k c) k (iV (xs.take k)))) (fun _ i _ => n - (intOf i - tp).toNat)
  case atStart => exact ⟨HB, 0, _, n, Nat.zero_le _, rfl, by simp, hide (by simpa [iV] using HM.out)⟩
  case round =>
    obtain ⟨HBw, k, a, c, hk, rfl, rfl, HO⟩ := hrel
    have ct' := keep_cell ct HBw.out
    have cbt' := keep_cell cbt HBw.out
    by_cases hlt : k < n
    · have hlt2 : tp + (k : Int) < bt := by have := HE1.out; omega
      have HXk := hide (HX.out k hlt)
      have C32 := hide (CG.out _ HBw.out (tp + (k : Int)))
      generalize d.L.getD (plc d.n (tp + (k : Int))) 0 = x at *
      rename_i wr _ _
      go_wp2_with (first
        | (go_at_call 32; go_must ((with_reducible refine C32.out.mono ?_); rintro e w3 ⟨rfl, u, rfl⟩))
        | (at_builtin; go_must (refine append_ints rfl (.tmp 28) (.tmp 34) rfl w.heap.size (.slice a k c) k (xs.take k) rfl (own_below (own_below HO.out (below_drewN (Below.refl _ _) u)) (below_new _ _)) (some ⟨(wr.drewN u).heap.size, 0, none⟩) 1 1 [x] rfl (fun h => by cases h) rfl (reads_new (wr.drewN u) (iV [x]) 3) (by omega) (by have := HBw.out.size; simp; omega) ?_; intro v' w4 ho4 hg4; obtain ⟨a', c', rfl, -, -⟩ := own_form ho4; have HO4 := hide ho4; have HB4 := hide (((below_drewN HBw.out u).alloc (below_drewN HBw.out u).size (.cells #[.int .i64 x] 3)).grown hg4 (by have := HBw.out.size; simp; omega) (own_low HO.out)); clear ho4 hg4)))
      go_roundw
      case rel =>
        refine ⟨HB4, k + 1, a', c', by omega, rfl, by go_num, hide ?_⟩
        rw [take_more HXk.out]
        exact HO4.out
      case measure => simp [intOf]; omega
    · obtain rfl : k = n := by omega
      have hge : ¬ tp + (k : Int) < bt := by have := HE1.out; omega
      go_wp2
      go_ret
      have h1 := HO.out
      rw [List.take_of_length_le (by rw [HL.out]; exact Nat.le_refl _)] at h1
      exact ⟨a, k, c, rfl, HL.out.symm, h1, HBw.out⟩

theorem Dn.items {A : Nat → Prop} {w : World} {cb : Nat} {d : Dq} (h : Dn A w cb d) (hs : Sml 400000 d) : Calls Try.prog 21 #[.pointer (some ⟨cb, 0, none⟩)] w fun e w' => ∃ a n c, e = .returned (.slice a n c) ∧ n = (itemsD d).length ∧ w'.ownsRow w.heap.size 3 1 (.slice a n c) n (iV (itemsD d)) ∧ Below w.heap.size w w' := by
  obtain ⟨h1, g, hM, h2, h3⟩ := h
  exact items_any w cb g d hM hs

set_option maxRecDepth 100000 in
theorem al1 : (thruD Dq.zero 0 1 7).1 = 1 ∧ (thruD Dq.zero 0 1 7).2.1 = 0 := by constructor <;> kernel_rfl
set_option maxRecDepth 100000 in
theorem al2 : (thruD (thruD Dq.zero 0 1 7).2.2 1 3 0).1 = 2 ∧ (thruD (thruD Dq.zero 0 1 7).2.2 1 3 0).2.1 = 7 := by constructor <;> kernel_rfl

set_option maxRecDepth 100000 in
theorem alive_any (w : World) : Calls Try.prog 10 #[] w fun e w' => e = .returned (.bool true) ∧ Below w.heap.size w w' := by
  have C11 := hide (Dn.new (Below.refl w.heap.size w))
  have CT1 := hide (fun W cb (h : Dn (fun k => k < w.heap.size) W cb Dq.zero) => by
    have := h.thru (Sml.zero.mono (by omega)) 0 1 7
    rw [al1.1, al1.2] at this
    exact this)
  have CT2 := hide (fun W cb (h : Dn (fun k => k < w.heap.size) W cb (thruD Dq.zero 0 1 7).2.2) => by
    have := h.thru ((Sml.zero.thru 0 1 7).mono (by omega)) 1 3 0
    rw [al2.1, al2.2] at this
    exact this)
  generalize (thruD Dq.zero 0 1 7).2.2 = d1 at *
  generalize (thruD d1 1 3 0).2.2 = d2 at *
  go_enter Try.func10, Try.ntmps10
  go_wp2_with (first
    | (go_at_call 11; go_must ((with_reducible refine C11.out.mono ?_); rintro e w1 ⟨cb, rfl, hD, hB⟩; have C23 := hide (CT1.out _ _ hD); have HB := hide hB; clear hD hB))
    | (go_at_call 23; ((with_reducible refine C23.out.mono ?_); rintro e w2 ⟨rfl, hD, hK⟩; have C23b := hide (CT2.out _ _ hD); have HK := hide hK; clear hD hK))
    | (go_at_call 23; ((with_reducible refine C23b.out.mono ?_); rintro e w3 ⟨rfl, hD, hK⟩; have HK2 := hide hK; clear hD hK)))
  go_ret
  exact ⟨rfl, (HK.out.trans HK2.out).below HB.out (Nat.le_refl _) (fun k hk => hk)⟩
end Go.Proofs.Ytaooglcjcnkgnaa
